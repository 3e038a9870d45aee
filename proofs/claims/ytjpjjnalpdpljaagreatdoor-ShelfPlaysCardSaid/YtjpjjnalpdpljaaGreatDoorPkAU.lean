import Derived.Test.YtjpjjnalpdpljaaGreatDoorProg
import Derived.Test.YtjpjjnalpdpljaaGreatDoorPqLexPlain
import Derived.WalkKit
import Derived.WalkLawsBesides
import Derived.KernelRfl
import Derived.Deep.QuietTactic
import Derived.BigQuiet
import Derived.Lib.QuietBelow
import Derived.Lib.Hide
import Derived.Test.YtjpjjnalpdpljaaGreatDoorPkAB
import Derived.Test.YtjpjjnalpdpljaaGreatDoorPkAD
import Derived.Test.YtjpjjnalpdpljaaGreatDoorPkAL
import Derived.Deep.DeepCutAuto
import Derived.Deep.CutBlock
import Derived.Test.YtjpjjnalpdpljaaGreatDoorPqDrift
import Derived.Test.YtjpjjnalpdpljaaGreatDoorPkAC
import Derived.Test.YtjpjjnalpdpljaaGreatDoorPkAK
set_option maxHeartbeats 1000000
namespace Go.Proofs.YtjpjjnalpdpljaaGreatDoor
open Go.RowKit
open Go.Lib (hid)
namespace Lx
abbrev bV (a b:ByteArray):Int:=Lib.compareBytes a.data.toList b.data.toList
def AJ (a b:ByteArray) (k:Nat):Prop:=∀j,j<k->a.data.toList.getD j 0=b.data.toList.getD j 0
theorem AJ.zero (a b:ByteArray):AJ a b 0:=fun j h=>by omega
theorem getD_eq (a:ByteArray) (k:Nat) (h:k<a.size):a.data.toList.getD k 0=a[k]:=by
 have:k<a.data.toList.length:=by simpa using h
 simp [List.getD,List.getElem?_eq_getElem this];rfl
theorem AJ.succ {a b:ByteArray} {k:Nat} (h:AJ a b k) (ha:k<a.size) (hb:k<b.size) (e:a[k]=b[k]):AJ a b (k+1):=fun j hj=>by
 by_cases hk:j=k
 . subst hk;rw [getD_eq a j ha,getD_eq b j hb,e]
 . exact h j (by omega)
theorem len_eq (a:ByteArray):a.data.toList.length=a.size:=by rw [Array.length_toList];rfl
theorem AJ.lt {a b:ByteArray} {k:Nat} (h:AJ a b k) (ha:k<a.size) (hb:k<b.size) (e:(a[k].toNat:Int)<(b[k].toNat:Int)):bV a b= -1:=by
 refine pK (k:=k) (by rw [len_eq];exact ha) (by rw [len_eq];exact hb) h ?_;rw [getD_eq a k ha,getD_eq b k hb,UInt8.lt_iff_toNat_lt];omega
theorem AJ.gt {a b:ByteArray} {k:Nat} (h:AJ a b k) (ha:k<a.size) (hb:k<b.size) (e:(b[k].toNat:Int)<(a[k].toNat:Int)):bV a b=1:=by
 refine Eo (k:=k) (by rw [len_eq];exact ha) (by rw [len_eq];exact hb) h ?_;rw [getD_eq a k ha,getD_eq b k hb,UInt8.lt_iff_toNat_lt];omega
theorem Pm {x y:UInt8} (h:¬(x.toNat:Int)<(y.toNat:Int)) (k:¬(y.toNat:Int)<(x.toNat:Int)):x=y:=by
 rw [<-UInt8.toNat_inj];omega
theorem AJ.ended {a b:ByteArray} {k:Nat} (h:AJ a b k) (he:¬(k<a.size/\k<b.size)):
 bV a b=if a.size<b.size then-1 else if b.size<a.size then 1 else 0:=by
 have:=qK (a:=a.data.toList) (b:=b.data.toList) (fun j h1 h2=>h j (by rw [len_eq] at h1 h2;omega));rw [len_eq,len_eq] at this;exact this
theorem wL {k:IntKind} {a b:Int} (h:a=b):Ending.returned (.int k a)=.returned (.int k b):=by rw [h]
theorem Nf (w:World) (n m:Nat):∃k,(w.drewN n).drewN m=w.drewN k:=⟨n+m,by rw [World.drewN_drewN]⟩
theorem Ng (w:World) (n m l:Nat):∃k,((w.drewN n).drewN m).drewN l=w.drewN k:=⟨n+(m+l),by rw [World.drewN_drewN,World.drewN_drewN]⟩
theorem below_drewN (B:Nat) (w:World) (n:Nat):Below B w (w.drewN n):=⟨rfl,rfl,rfl,Nat.le_refl _,fun _ _=>rfl⟩
theorem iG (a b:ByteArray) (w:World) (ha:a.size<=maxLen):
 Calls Tryz.prog 203 #[.string a,.string b] w fun e w'=>e=.returned (bV a b:Int)/\∃n,w'=w.drewN n:=by
 unfold maxLen at ha;go_enter Tryz.func203,Tryz.ntmps203
 go_wp2
 go_loopw [5] (fun i wr=>∃k:Nat,k<=a.size/\k<=b.size/\i= .int .i64 k/\AJ a b k/\∃n,wr=w.drewN n) (fun i _=>a.size-(intOf i).toNat)
 case atStart=>exact ⟨0,Nat.zero_le _,Nat.zero_le _,rfl,AJ.zero a b,0,rfl⟩
 case round=>
  obtain ⟨k,hka,hkb,rfl,heq,n,rfl⟩:=hrel;by_cases h1:k<a.size
  . by_cases h2:k<b.size
    . by_cases h3:(a[k].toNat:Int)<(b[k].toNat:Int)
      . have HR:=hid (heq.lt h1 h2 h3)
        go_wp2
        go_quiet (fail)
        go_wp2
        go_ret
        exact ⟨wL HR.out.symm,Nf _ _ _⟩
      . by_cases h4:(b[k].toNat:Int)<(a[k].toNat:Int)
        . have HR:=hid (heq.gt h1 h2 h4)
          go_wp2
          go_quiet (fail)
          go_wp2
          go_quiet (fail)
          go_wp2
          go_ret
          exact ⟨wL HR.out.symm,Ng _ _ _ _⟩
        . have HR:=hid (heq.succ h1 h2 (Pm h3 h4))
          go_wp2
          go_quiet (fail)
          go_wp2
          go_quiet (fail)
          go_wp2
          go_roundw
          case rel=>exact ⟨k+1,by omega,by omega,by go_num,HR.out,_,rfl⟩
          case measure=>simp [intOf];omega
    . have HR:=hid (heq.ended (by omega))
      go_wp2
      all_goals go_ret
      all_goals exact ⟨by rw [HR.out];simp [*],_,rfl⟩
  . have HR:=hid (heq.ended (by omega))
    go_wp2
    all_goals go_ret
    all_goals exact ⟨by rw [HR.out];simp [*],_,rfl⟩
abbrev fu (lo hi:ByteArray) (top:Bool):Value:= .agg #[.string lo,.string hi,.bool top]
def inB (lo hi:ByteArray) (top:Bool) (key:ByteArray):Bool:=decide (bV lo key<=0)&&(top || decide (bV key hi<0))
theorem dS {a b:Bool} (h:a=b):Ending.returned (.bool a)=.returned (.bool b):=by rw [h]
theorem xD (lo hi:ByteArray) (top:Bool) (key:ByteArray) (w:World) (hl:lo.size<=maxLen) (hk:key.size<=maxLen):
 CB 182 #[fu lo hi top,.string key] w (.bool (inB lo hi top key)):=by
 by_cases h1:bV lo key<=0
 . cases top
   . have HR:Hid (inB lo hi false key=decide (bV key hi<0)):=hid (by simp [inB,h1])
     go_enter Tryz.func182,Tryz.ntmps182
     go_wp2_with (go_at_call 203;refine (iG _ _ _ (by assumption)).mono ?_;rintro e w' ⟨rfl,n,rfl⟩)
     go_ret
     exact ⟨dS (by rw [HR.out]),(bAx).trans (below_drewN _ _ _)⟩
   . have HR:Hid (inB lo hi true key=true):=hid (by simp [inB,h1])
     go_enter Tryz.func182,Tryz.ntmps182
     go_wp2_with (go_at_call 203;refine (iG _ _ _ (by assumption)).mono ?_;rintro e w' ⟨rfl,n,rfl⟩)
     go_ret
     exact ⟨dS (by rw [HR.out]),(bAx).trans (below_drewN _ _ _)⟩
 . have HR:Hid (inB lo hi top key=false):=hid (by simp [inB,h1])
   have h1':decide (bV lo key<=0)=false:=(by simpa using h1);go_enter Tryz.func182,Tryz.ntmps182
   go_wp2_with (go_at_call 203;refine (iG _ _ _ (by assumption)).mono ?_;rintro e w' ⟨rfl,n,rfl⟩)
   go_ret
   exact ⟨dS (by rw [HR.out]),(bAx).trans (below_drewN _ _ _)⟩
end Lx
end Go.Proofs.YtjpjjnalpdpljaaGreatDoor
namespace Go.Proofs.YtjpjjnalpdpljaaGreatDoor
open Go.RowKit
namespace Bu
open Lx
theorem mJ {a b c:ByteArray} (h:bV a b<0) (k:bV b c<0):bV a c<0:=nD h k
theorem Ep (a:ByteArray):bV a a=0:=zm _
theorem sW (a b:ByteArray):bV a b= -bV b a:=xE _ _
theorem Er {a b:ByteArray} (h:bV a b=0):a=b:=by
 have:=zn h;cases a
 cases b
 simp only [ByteArray.mk.injEq] at*;exact Array.ext' this
theorem Es {a b:ByteArray} (h:bV a b<0):a≠b:=fun e=>by
 subst e;rw [Ep] at h;omega
theorem zo (a b:ByteArray):bV a b<0\/a=b\/bV b a<0:=by
 by_cases h:bV a b<0
 . exact .inl h
 . by_cases k:bV b a<0
   . exact .inr (.inr k)
   . have:=sW a b
     exact .inr (.inl (Er (by omega)))
theorem Pn (a b:ByteArray) (ha:a.size<=maxLen) (w:World):CB 203 #[.string a,.string b] w (.int .i64 (bV a b)):=
 (iG a b w ha).mono fun e w' ⟨he,n,hw⟩=>⟨he,by rw [hw];exact ⟨rfl,rfl,rfl,Nat.le_refl _,fun _ _=>rfl⟩⟩
end Bu
end Go.Proofs.YtjpjjnalpdpljaaGreatDoor
set_option maxHeartbeats 2000000
set_option maxRecDepth 100000
namespace Go.Proofs.YtjpjjnalpdpljaaGreatDoor
open Go.RowKit
open Go.Lib (hid)
open ah (dL tc)
namespace No
open Mem Lx Bu
def KdK:Kind Nat:=⟨25,1,fun n=>[.int .u32 (n:Int)],fun _=>rfl,fun m u hu=>by
 obtain rfl:u= .int .u32 (m:Int):=by simpa using hu
 rfl⟩
abbrev KL (w:World) (A:Option Addr) (L:List Nat):Prop:=RdK KdK w A L
abbrev KC (w:World) (A:Option Addr) (c:Nat) (L:List Nat):Prop:=RC KdK w A c L
theorem RdK.kid {w:World} {A:Option Addr} {L:List Nat} (h:KL w A L) {i:Nat} {m:Nat} (hm:L[i]? =some m):∃b o,A=some ⟨b,o,none⟩/\b<w.heap.size/\w.cell? ⟨b,o+i,none⟩=some (.int .u32 (m:Int)):=by
 obtain ⟨b,o,e,hl,hc⟩:=h (Nat.lt_of_le_of_lt (Nat.zero_le _) (List.getElem?_eq_some_iff.1 hm).1);have h0:=hc i m hm 0 (.int .u32 (m:Int)) rfl;exact ⟨b,o,e,hl,by simpa [KdK] using h0⟩
theorem lI {L:List Nat} {i:Nat} (h:i<L.length):L[i]? =some L[i]:=List.getElem?_eq_getElem h
theorem xG {W:World} {A A':Option Addr} {c c':Nat} {L L':List Nat} (h:KL W A L) (h':KL W A' L') (hl:L.length<=1048576) (_:L'.length<=1048576):Calls Tryz.prog 51 #[.slice A L.length c,.slice A' L'.length c'] W fun e w'=>(∃v:Bool,e=.returned (.bool v)/\(v=true↔L=L'))/\Bw W w':=by
 obtain ⟨n,hn⟩:∃n,n=L.length:=⟨_,rfl⟩
 by_cases hnn:L.length=L'.length
 case neg=>
  have HR:Hid (¬L=L'):=fun e=>hnn (by rw [e]);have hd:((L.length:Int) != (L'.length:Int))=true:=by simp;omega
  clear h h' hn hl;generalize L.length=n at*;generalize L'.length=n' at*;clear hnn;go_enter Tryz.func51,Tryz.ntmps51
  go_wp2
  go_ret
  exact ⟨⟨false,rfl,by simpa using HR.out⟩,Below.refl _ _⟩
 rw [<-hnn,<-hn];rw [<-hn] at hl;have HN:=hid hn;have HN':Hid (n=L'.length):=hn.trans hnn;have HH:=hid h;have HH':=hid h';clear h h' hn hnn;go_enter Tryz.func51,Tryz.ntmps51
 go_wp2_with fail
 go_loopg [5] n (fun gk iv wr=>∃k:Nat,k<=n/\gk=n-k/\iv= .int .i64 (k:Int)/\Hid (∀i,i<k->L[i]? =L'[i]?)/\Hid (Bw W wr))
 case atStart=>exact ⟨0,Nat.zero_le _,rfl,rfl,fun i hi=>by omega,Below.refl _ _⟩
 case round=>
  obtain ⟨k,hk,rfl,rfl,HE,HB⟩:=hrel;by_cases hlt:k<n
  . have hj:k<L.length:=by rw [<-HN.out];exact hlt
    have hj':k<L'.length:=(by rw [<-HN'.out];exact hlt);obtain ⟨x,hx⟩:∃x,x=L[k]:=⟨_,rfl⟩
    obtain ⟨y,hy⟩:∃y,y=L'[k]:=⟨_,rfl⟩
    have hx':=lI hj;have hy':=lI hj';rw [<-hx] at hx';rw [<-hy] at hy';obtain ⟨b,o,e,-,c0⟩:=RdK.kid (HH.out.kept HB.out) hx';subst e;obtain ⟨b',o',e',-,d0⟩:=RdK.kid (HH'.out.kept HB.out) hy';subst e';have HX:=hid hx';have HY:=hid hy';by_cases hxy:x=y
    . have hne:((x:Int) != (y:Int))=false:=by simp [hxy]
      have HE2:Hid (∀i,i<k+1->L[i]? =L'[i]?):=fun i hi=>by
       by_cases e:i=k
       . subst e
         rw [HX.out,HY.out,hxy]
       . exact HE.out i (by omega)
      clear hxy;have z0:=tc c0;have x0:=tc d0;have hw2:IntKind.i64.wrap ((k:Int)+1)=((k+1:Nat):Int):=(by rw [IntKind.wrap_i64];omega);clear c0 d0 hx hy hx' hy' hj hj';go_upto_region 6 with fail
      refine ah.aj [] [(0,[]),(1,[]),(2,[]),(3,[]),(4,[]),(5,[]),(6,[]),(7,[]),(8,[])] [] [] (by kernel_rfl) (by kernel_rfl) (by simp) ?_;simp only [ah.pick,ah.aO,dL]
      repeat (refine ah.ak (fun K hK=>?_);go_simp;(refine hK _ ?_;clear hK K))
      refine ah.walk_nil ?_;intro w2 hb _;have HB2:=hid (HB.out.trans (hb.mono HB.out.size));clear z0 x0 hb HB;simp only [lC,List.drop_nil,Nat.zero_add,Nat.reduceAdd];go_wp2_with fail
      go_roundg (n-(k+1))
      case measure=>omega
      case rel=>exact ⟨k+1,hlt,rfl,by go_num,HE2,HB2⟩
    . have hne:((x:Int) != (y:Int))=true:=by simp;omega
      have HN2:Hid (¬L=L'):=fun e=>hxy (by
       have h1:=HX.out;rw [e,HY.out] at h1
       exact (Option.some.inj h1).symm)
      clear hxy;have z0:=tc c0;have x0:=tc d0;have hw2:IntKind.i64.wrap ((k:Int)+1)=((k+1:Nat):Int):=(by rw [IntKind.wrap_i64];omega);clear c0 d0 hx hy hx' hy' hj hj';go_upto_region 6 with fail
      refine ah.aj [] [(0,[]),(1,[]),(2,[]),(3,[]),(4,[]),(5,[]),(6,[]),(7,[]),(8,[])] [] [] (by kernel_rfl) (by kernel_rfl) (by simp) ?_;simp only [ah.pick,ah.aO,dL]
      repeat (refine ah.ak (fun K hK=>?_);go_simp;(refine hK _ ?_;clear hK K))
      refine ah.walk_nil ?_;intro w2 hb _;have HB2:=hid (HB.out.trans (hb.mono HB.out.size));clear z0 x0 hb HB;simp only [lC,List.drop_nil,Nat.zero_add,Nat.reduceAdd];go_wp2_with fail
      go_ret
      exact ⟨⟨false,rfl,by simpa using HN2.out⟩,HB2.out⟩
  . have HR:Hid (L=L'):=by
     refine List.ext_getElem? fun i=>?_;by_cases hi:i<k
     . exact HE.out i hi
     . rw [List.getElem?_eq_none (by rw [<-HN.out];omega),List.getElem?_eq_none (by rw [<-HN'.out];omega)]
    obtain rfl:k=n:=(by omega);clear hlt;go_wp2_with fail
    go_ret
    exact ⟨⟨true,rfl,by simpa using HR.out⟩,HB.out⟩
end No
end Go.Proofs.YtjpjjnalpdpljaaGreatDoor
namespace Go.Proofs.YtjpjjnalpdpljaaGreatDoor
open Go.RowKit
namespace Fa
open Mem Lx Bu
def StK:Kind ByteArray:=⟨9,1,fun m=>[.string m],fun _=>rfl,fun m u hu=>by
 obtain rfl:u= .string m:=by simpa using hu
 rfl⟩
abbrev SL (w:World) (A:Option Addr) (L:List ByteArray):Prop:=RdK StK w A L
abbrev SC (w:World) (A:Option Addr) (c:Nat) (L:List ByteArray):Prop:=RC StK w A c L
theorem RdK.str {w:World} {A:Option Addr} {L:List ByteArray} (h:SL w A L) {i:Nat} {m:ByteArray} (hm:L[i]? =some m):∃b o,A=some ⟨b,o,none⟩/\b<w.heap.size/\w.cell? ⟨b,o+i,none⟩=some (.string m):=by
 obtain ⟨b,o,e,hl,hc⟩:=h (Nat.lt_of_le_of_lt (Nat.zero_le _) (List.getElem?_eq_some_iff.1 hm).1);have h0:=hc i m hm 0 (.string m) rfl;exact ⟨b,o,e,hl,by simpa [StK] using h0⟩
theorem iH {L:List ByteArray} {i:Nat} (h:i<L.length):L[i]? =some L[i]:=List.getElem?_eq_getElem h
end Fa
end Go.Proofs.YtjpjjnalpdpljaaGreatDoor
namespace Go.Proofs.YtjpjjnalpdpljaaGreatDoor
open Go.RowKit
namespace Bu
open Mem Lx
abbrev Mg:=ByteArray × Bool × ByteArray
def MgK:Kind Mg:=⟨91,3,fun m=>[.string m.1,.bool m.2.1,.string m.2.2],fun _=>rfl,fun m u hu=>by
 simp only [List.mem_cons,List.not_mem_nil,or_false] at hu
 rcases hu with rfl|rfl|rfl<;>rfl⟩
abbrev ML (w:World) (A:Option Addr) (L:List Mg):Prop:=RdK MgK w A L
theorem RdK.msg {w:World} {A:Option Addr} {L:List Mg} (h:ML w A L) {i:Nat} {m:Mg} (hm:L[i]? =some m):∃b o,A=some ⟨b,o,none⟩/\b<w.heap.size/\w.cell? ⟨b,o+i*3,none⟩=some (.string m.1)/\w.cell? ⟨b,o+i*3+1,none⟩=some (.bool m.2.1)/\w.cell? ⟨b,o+i*3+2,none⟩=some (.string m.2.2):=by
 obtain ⟨b,o,e,hl,hc⟩:=h (Nat.lt_of_le_of_lt (Nat.zero_le _) (List.getElem?_eq_some_iff.1 hm).1);have h0:=hc i m hm 0 (.string m.1) rfl;have h1:=hc i m hm 1 (.bool m.2.1) rfl;have h2:=hc i m hm 2 (.string m.2.2) rfl;exact ⟨b,o,e,hl,by simpa [MgK] using h0,by simpa [MgK,Nat.add_assoc] using h1,by simpa [MgK,Nat.add_assoc] using h2⟩
theorem RdK.place {w:World} {A:Option Addr} {L:List Mg} (h:ML w A L) (h0:0<L.length):∃b o,A=some ⟨b,o,none⟩/\∀(i:Nat) (m:Mg),L[i]? =some m->w.cell? ⟨b,o+i*3,none⟩=some (.string m.1)/\w.cell? ⟨b,o+i*3+1,none⟩=some (.bool m.2.1)/\w.cell? ⟨b,o+i*3+2,none⟩=some (.string m.2.2):=by
 obtain ⟨b,o,e,_,_⟩:=h h0;subst e;refine ⟨b,o,rfl,fun i m hm=>?_⟩;obtain ⟨b',o',e',_,h1⟩:=RdK.msg h hm;obtain ⟨rfl,rfl⟩:b=b'/\o=o':=by simpa using e'
 exact h1
theorem Nh:(Tryz.prog.info? 91).map (fun i=>(i.zero,i.size,i.bytes))=some (some (.agg #[.string ⟨#[]⟩,.bool false,.string ⟨#[]⟩]),3,40):=by kernel_rfl
theorem dB {α:Type} {L:List α} {i:Nat} (h:i<L.length):L[i]? =some L[i]:=List.getElem?_eq_getElem h
theorem Ni (m m':Mg) (w:World):(binOp .neq 91 (.agg #[.string m.1,.bool m.2.1,.string m.2.2]) (.agg #[.string m'.1,.bool m'.2.1,.string m'.2.2])).run Tryz.prog w= .ok (.bool (!decide (m=m'))) w:=by
 obtain ⟨k,d,v⟩:=m;obtain ⟨k',d',v'⟩:=m';by_cases h0:k=k'
 case neg=>simp [go_sem,h0,fG]
 by_cases h1:d=d'
 case neg=>simp [go_sem,h0,h1,fG]
 by_cases h2:v=v'<;>simp [go_sem,h0,h1,h2,fG]
def Pv:Mg:=(⟨#[]⟩,false,⟨#[]⟩)
end Bu
end Go.Proofs.YtjpjjnalpdpljaaGreatDoor
namespace Go.Proofs.YtjpjjnalpdpljaaGreatDoor
open Go.RowKit
namespace Lf
open Mem Lx Bu
abbrev Pr:=ByteArray × ByteArray
def PrK:Kind Pr:=⟨93,2,fun m=>[.string m.1,.string m.2],fun _=>rfl,fun m u hu=>by
 simp only [List.mem_cons,List.not_mem_nil,or_false] at hu
 rcases hu with rfl|rfl<;>rfl⟩
abbrev PL (w:World) (A:Option Addr) (L:List Pr):Prop:=RdK PrK w A L
abbrev P3 (w:World) (B:Nat) (A:Option Addr) (c:Nat) (L:List Pr):Prop:=VK PrK w B A c L
abbrev PC (w:World) (A:Option Addr) (c:Nat) (L:List Pr):Prop:=RC PrK w A c L
theorem RdK.pair {w:World} {A:Option Addr} {L:List Pr} (h:PL w A L) {i:Nat} {m:Pr} (hm:L[i]? =some m):∃b o,A=some ⟨b,o,none⟩/\b<w.heap.size/\w.cell? ⟨b,o+i*2,none⟩=some (.string m.1)/\w.cell? ⟨b,o+i*2+1,none⟩=some (.string m.2):=by
 obtain ⟨b,o,e,hl,hc⟩:=h (Nat.lt_of_le_of_lt (Nat.zero_le _) (List.getElem?_eq_some_iff.1 hm).1);have h0:=hc i m hm 0 (.string m.1) rfl;have h1:=hc i m hm 1 (.string m.2) rfl;exact ⟨b,o,e,hl,by simpa [PrK] using h0,by simpa [PrK,Nat.add_assoc] using h1⟩
theorem RdK.Jc {w:World} {A:Option Addr} {L:List Pr} (h:PL w A L) (h0:0<L.length):∃b o,A=some ⟨b,o,none⟩/\∀(i:Nat) (m:Pr),L[i]? =some m->w.cell? ⟨b,o+i*2,none⟩=some (.string m.1)/\w.cell? ⟨b,o+i*2+1,none⟩=some (.string m.2):=by
 obtain ⟨b,o,e,_,_⟩:=h h0;subst e;refine ⟨b,o,rfl,fun i m hm=>?_⟩;obtain ⟨b',o',e',_,h1⟩:=RdK.pair h hm;obtain ⟨rfl,rfl⟩:b=b'/\o=o':=by simpa using e'
 exact h1
theorem Nj:(Tryz.prog.info? 93).map (fun i=>(i.zero,i.size,i.bytes))=some (some (.agg #[.string ⟨#[]⟩,.string ⟨#[]⟩]),2,32):=by kernel_rfl
theorem Nk (m m':Pr) (w:World):(binOp .neq 93 (.agg #[.string m.1,.string m.2]) (.agg #[.string m'.1,.string m'.2])).run Tryz.prog w= .ok (.bool (!decide (m=m'))) w:=by
 obtain ⟨k,v⟩:=m;obtain ⟨k',v'⟩:=m';by_cases h0:k=k'
 case neg=>simp [go_sem,h0,fG]
 by_cases h2:v=v'<;>simp [go_sem,h0,h2,fG]
end Lf
end Go.Proofs.YtjpjjnalpdpljaaGreatDoor
namespace Go.Proofs.YtjpjjnalpdpljaaGreatDoor
namespace Fa
open Lx Bu
abbrev SRi (L:List ByteArray):Prop:=L.Pairwise fun a b=>bV a b<0
def vE (L:List ByteArray):Prop:=∀(i:Nat) (a b:ByteArray),L[i]? =some a->L[i+1]? =some b->bV a b<0
theorem Et {L:List ByteArray}:vE L↔SRi L:=by
 constructor
 . intro h
   induction L with
   |nil=>exact .nil
   |cons x xs ih=>
    have ih:=ih fun i a b ha hb=>h (i+1) a b (by simpa using ha) (by simpa using hb);refine List.pairwise_cons.2 ⟨?_,ih⟩;cases xs with
    |nil=>intro a ha;cases ha
    |cons y ys=>
     have h0:=h 0 x y rfl rfl;intro a ha;rcases List.mem_cons.1 ha with rfl|ha
     . exact h0
     . exact mJ h0 ((List.pairwise_cons.1 ih).1 a ha)
 . intro h i a b ha hb
   obtain ⟨h1,e1⟩:=List.getElem?_eq_some_iff.1 ha;obtain ⟨h2,e2⟩:=List.getElem?_eq_some_iff.1 hb;subst e1 e2;exact List.pairwise_iff_getElem.1 h i (i+1) h1 h2 (by omega)
theorem SRi.at_ {L:List ByteArray} (h:SRi L) {i j:Nat} {x y:ByteArray} (hx:L[i]? =some x) (hy:L[j]? =some y) (hij:i<j):bV x y<0:=by
 obtain ⟨h1,e1⟩:=List.getElem?_eq_some_iff.1 hx;obtain ⟨h2,e2⟩:=List.getElem?_eq_some_iff.1 hy;subst e1 e2;exact List.pairwise_iff_getElem.1 h i j h1 h2 hij
def AL (L:List ByteArray) (key:ByteArray):Nat:=(L.filter fun p=>decide (bV p key<=0)).length
theorem SRi.way:∀{L:List ByteArray} {key:ByteArray},SRi L->(∀(i:Nat) (p:ByteArray),i<AL L key->L[i]? =some p->bV p key<=0)/\(∀(i:Nat) (p:ByteArray),AL L key<=i->L[i]? =some p->0<bV p key)
 |[],key,_=>⟨fun i p _ h=>by simp at h,fun i p _ h=>by simp at h⟩
 |x::xs,key,h=>by
  obtain ⟨h1,h2⟩:=List.pairwise_cons.1 h;obtain ⟨i1,i2⟩:=SRi.way (key:=key) h2;by_cases hx:bV x key<=0
  . have e:AL (x::xs) key=AL xs key+1:=by simp [AL,hx]
    rw [e];refine ⟨fun i p hi hp=>?_,fun i p hi hp=>?_⟩
    . cases i with
      |zero=>
       obtain rfl:x=p:=(by simpa using hp);exact hx
      |succ i=>exact i1 i p (by omega) (by simpa using hp)
    . cases i with
      |zero=>omega
      |succ i=>exact i2 i p (by omega) (by simpa using hp)
  . have hall:∀p,p∈xs->0<bV p key:=fun p hp=>by
     rcases Int.lt_or_le 0 (bV p key) with h3|h3
     . exact h3
     . have h4:=h1 p hp
       have h5:bV x key<0:=by
        rcases zo p key with h6|h6|h6
        . exact mJ h4 h6
        . rw [<-h6];exact h4
        . have:=sW p key
          omega
       omega
    have e0:AL xs key=0:=by
     unfold AL
     rw [List.filter_eq_nil_iff.2 fun p hp=>by
      have:=hall p hp;simp
      omega]
     rfl
    have e:AL (x::xs) key=0:=by
     have:AL (x::xs) key=AL xs key:=(by simp [AL,hx]);rw [this,e0]
    rw [e];refine ⟨fun i p hi=>by omega,fun i p _ hp=>?_⟩;cases i with
    |zero=>
     obtain rfl:x=p:=(by simpa using hp);omega
    |succ i=>exact hall p (List.mem_of_getElem? (by simpa using hp))
def iI (L:List ByteArray) (lo hi:ByteArray) (top:Bool):Prop:=(∀p,p∈L->inB lo hi top p=true/\p≠lo)/\vE L
theorem KI {lo hi:ByteArray} {top:Bool} {key:ByteArray}:inB lo hi top key=true↔bV lo key<=0/\(top=true\/bV key hi<0):=by
 cases top<;>simp [inB]
end Fa
end Go.Proofs.YtjpjjnalpdpljaaGreatDoor
namespace Go.Proofs.YtjpjjnalpdpljaaGreatDoor
open Go.RowKit
namespace No
open Mem Lx Bu Lf Fa
structure Nd where
 lv:Int
 kids:List Nat
 piv:List ByteArray
 buf:List Mg
 prs:List Pr
structure At where
 kA:Option Addr
 kc:Nat
 pA:Option Addr
 pc:Nat
 bA:Option Addr
 bc:Nat
 qA:Option Addr
 qc:Nat
def bL (n:Nd) (a:At):Array Value:= #[.int .i64 n.lv,.slice a.kA n.kids.length a.kc,.slice a.pA n.piv.length a.pc,.slice a.bA n.buf.length a.bc,.slice a.qA n.prs.length a.qc]
structure gK (w:World) (n:Nd) (a:At):Prop where
 kids:KC w a.kA a.kc n.kids
 piv:SC w a.pA a.pc n.piv
 buf:RC MgK w a.bA a.bc n.buf
 prs:PC w a.qA a.qc n.prs
theorem gK.kept {w w':World} {n:Nd} {a:At} (h:gK w n a) (hb:Bw w w'):gK w' n a:=⟨h.kids.kept hb,h.piv.kept hb,h.buf.kept hb,h.prs.kept hb⟩
theorem aG {w:World} {b:Nat} {c0 c1 c2 c3 c4:Value} {U:TypeId} (h:w.heap[b]? =some (.cells #[c0,c1,c2,c3,c4] U (0,0))):w.cell? ⟨b,0,none⟩=some c0/\w.cell? ⟨b,1,none⟩=some c1/\w.cell? ⟨b,2,none⟩=some c2/\w.cell? ⟨b,3,none⟩=some c3/\w.cell? ⟨b,4,none⟩=some c4:=by
 simp [World.cell?,h]
end No
end Go.Proofs.YtjpjjnalpdpljaaGreatDoor
namespace Go.Proofs.YtjpjjnalpdpljaaGreatDoor
open Go.RowKit
namespace No
open Mem Lx Bu
open Lf (Pr PrK PL P3 PC)
open Fa (StK SL SC AL vE iI)
structure Sz (n:Nd):Prop where
 piv:∀p,p∈n.piv->p.size<=maxLen
 buf:∀m,m∈n.buf->m.1.size<=maxLen
 prs:∀m,m∈n.prs->m.1.size<=maxLen
 kl:n.kids.length<=1000
 pl:n.piv.length<=1000
 bl:n.buf.length<=1000
 ql:n.prs.length<=1000
end No
end Go.Proofs.YtjpjjnalpdpljaaGreatDoor
set_option maxHeartbeats 4000000
set_option maxRecDepth 100000
namespace Go.Proofs.YtjpjjnalpdpljaaGreatDoor
open Go.RowKit
open Go.Lib (hid)
open ah (dL tc)
namespace Fa
open Mem Lx Bu
theorem Eu {W:World} {A:Option Addr} {c:Nat} {L:List ByteArray} (h:SL W A L) (hk:∀m,m∈L->m.size<=maxLen) (hl:L.length<=1048576):Calls Tryz.prog 204 #[.slice A L.length c] W fun e w'=>(∃v:Bool,e=.returned (.bool v)/\(v=true↔vE L))/\Bw W w':=by
 obtain ⟨n,hn⟩:∃n,n=L.length:=⟨_,rfl⟩
 have HN:=hid hn;have HH:=hid h;have HK:=hid hk;rw [<-hn] at hl ⊢;clear h hk hn;go_enter Tryz.func204,Tryz.ntmps204
 go_wp2_with fail
 go_loopg [3] (n-1) (fun gk iv wr=>∃k:Nat,1<=k/\(k=1\/k<=n)/\gk=n-k/\iv= .int .i64 (k:Int)/\Hid (∀(i:Nat) (a b:ByteArray),i+1<k->L[i]? =some a->L[i+1]? =some b->bV a b<0)/\Hid (Bw W wr))
 case atStart=>exact ⟨1,Nat.le_refl _,.inl rfl,rfl,rfl,fun i a b hi=>by omega,Below.refl _ _⟩
 case round=>
  obtain ⟨k,hk1,hkn,rfl,rfl,HE,HB⟩:=hrel;by_cases hlt:k<n
  . obtain ⟨j,hjk⟩:∃j,k=j+1:=⟨k-1,by omega⟩
    have hj:j<L.length:=(by rw [<-HN.out];omega);have hj1:k<L.length:=(by rw [<-HN.out];omega);obtain ⟨x,hx⟩:∃x,x=L[j]:=⟨_,rfl⟩
    obtain ⟨y,hy⟩:∃y,y=L[k]:=⟨_,rfl⟩
    have hx':=iH hj;have hy':=iH hj1;rw [<-hx] at hx';rw [<-hy] at hy';obtain ⟨b,o,e,-,c0⟩:=RdK.str (HH.out.kept HB.out) hx';subst e;obtain ⟨b2,o2,e,-,c1⟩:=RdK.str (HH.out.kept HB.out) hy';obtain ⟨rfl,rfl⟩:b=b2/\o=o2:=(by simpa using e);clear e;have cC:=fun w=>hid (Pn x y (HK.out x (List.mem_of_getElem? hx')) w);have HX:=hid hx';have HY:=hid hy';have z0:=tc c0;have z1:=tc c1;have hw1:IntKind.i64.wrap ((k:Int)-1)=(j:Int):=(by rw [IntKind.wrap_i64];omega);have hw2:IntKind.i64.wrap ((k:Int)+1)=((k+1:Nat):Int):=(by rw [IntKind.wrap_i64];omega);have HJ:=hid hjk;have hjn:j<n:=(by omega);clear c0 c1 hx hy hx' hy' hj hj1 hjk;go_upto_region 4 with fail
    refine ah.aj [] [(0,[]),(1,[]),(2,[]),(3,[]),(4,[]),(5,[]),(6,[]),(7,[]),(8,[]),(9,[]),(10,[])] [] [] (by kernel_rfl) (by kernel_rfl) (by simp) ?_;simp only [ah.pick,ah.aO,dL]
    repeat (refine ah.ak (fun K hK=>?_);go_simp;first|(refine hK _ ?_;clear hK K)|(apply Exists.intro;refine ⟨fun q=>?_,hK _ ?_⟩;(go_at_call 203;exact (cC _).out);clear hK K))
    refine ah.walk_nil ?_;intro w2 hb _;have HB2:=hid (HB.out.trans (hb.mono HB.out.size));clear z0 z1 hw1 hb HB cC;simp only [lC,List.drop_nil,Nat.zero_add,Nat.reduceAdd];by_cases hcm:bV x y<0
    . have hd:decide (0<=bV x y)=false:=by simpa using hcm
      have HE2:Hid (∀(i:Nat) (a b:ByteArray),i+1<k+1->L[i]? =some a->L[i+1]? =some b->bV a b<0):=fun i a b hi ha hb=>by
       by_cases e:i=j
       . subst e
         rw [HX.out] at ha;rw [<-HJ.out,HY.out] at hb;(cases ha);(cases hb);exact hcm
       . exact HE.out i a b (by have:=HJ.out;omega) ha hb
      generalize bV x y=z at*;clear hd;go_wp2_with fail
      go_roundg (n-(k+1))
      case measure=>omega
      case rel=>exact ⟨k+1,by omega,.inr hlt,rfl,by go_num,HE2,HB2⟩
    . have HN2:Hid (¬vE L):=fun hr=>hcm (hr j x y HX.out (by rw [<-HJ.out];exact HY.out))
      have hd:0<=bV x y:=(by omega);clear hcm;generalize bV x y=z at*;go_wp2_with fail
      go_ret
      exact ⟨⟨false,rfl,by simpa using HN2.out⟩,HB2.out⟩
  . have HR:Hid (vE L):=fun i a b ha hb=>HE.out i a b (by
     have:=(List.getElem?_eq_some_iff.1 hb).1;rw [<-HN.out] at this
     omega) ha hb
    have hge:n<=k:=(by omega);have hd:decide ((k:Int)<(n:Int))=false:=(by simp;omega);clear hlt;go_wp2_with fail
    go_ret
    exact ⟨⟨true,rfl,by simpa using HR.out⟩,HB.out⟩
theorem gN {W:World} {A:Option Addr} {c:Nat} {L:List ByteArray} (h:SL W A L) (lo hi:ByteArray) (top:Bool) (hlo:lo.size<=maxLen) (hk:∀m,m∈L->m.size<=maxLen) (hl:L.length<=1048576):Calls Tryz.prog 184 #[.slice A L.length c,fu lo hi top] W fun e w'=>(∃v:Bool,e=.returned (.bool v)/\(v=true↔iI L lo hi top))/\Bw W w':=by
 have cRi:=fun (W1:World) (hb:Bw W W1)=>hid (Eu (c:=c) (h.kept hb) hk hl);have cI:=fun (x:ByteArray) (hx:x∈L) w=>hid (xD lo hi top x w hlo (hk x hx));have HH:=hid h;generalize hn:L.length=n at*;have HN:=hid hn;clear h hk hn hlo;go_enter Tryz.func184,Tryz.ntmps184
 go_upto_region 1 with fail
 have hx:=heap_alloc_new W (.cells #[.string lo,.string hi,.bool top] 152);have hb0:Bw W (W.alloc (.cells #[.string lo,.string hi,.bool top] 152)):=bAx;generalize W.alloc (.cells #[.string lo,.string hi,.bool top] 152)=w1 at*;obtain ⟨g,hg⟩:∃g,g=W.heap.size:=⟨_,rfl⟩
 have HB1:=hid hb0;rw [<-hg] at hx ⊢;have HX:=hid hx;clear hx hb0;have HG:=hid hg;clear hg;go_wp2_with fail
 go_loopg [5] n (fun gk iv wr=>∃k:Nat,k<=n/\gk=n-k/\iv= .int .i64 (k:Int)/\Hid (∀(i:Nat) (x:ByteArray),i<k->L[i]? =some x->inB lo hi top x=true/\x≠lo)/\Hid (Bw W wr)/\Hid (wr.heap[g]? =some (.cells #[.string lo,.string hi,.bool top] 152 (0,0))))
 case atStart=>exact ⟨0,Nat.zero_le _,rfl,rfl,fun i x hi=>absurd hi (Nat.not_lt_zero _),by rw [HG.out] at*;exact HB1.out,HX⟩
 case round=>
  obtain ⟨k,hk,rfl,rfl,HE,HB,HXr⟩:=hrel;clear HX HB1;by_cases hlt:k<n
  . have hkL:k<L.length:=by rw [HN.out];exact hlt
    obtain ⟨x,hxx⟩:∃x,x=L[k]:=⟨_,rfl⟩
    have hx':=iH hkL;rw [<-hxx] at hx';obtain ⟨b,o,e,-,c0⟩:=RdK.str (HH.out.kept HB.out) hx';subst e;obtain ⟨d0,d1,d2⟩:=bR HXr.out;have HXX:=hid hx';have cX:=cI x (List.mem_of_getElem? hx');have hw2:IntKind.i64.wrap ((k:Int)+1)=((k+1:Nat):Int):=(by rw [IntKind.wrap_i64];omega);obtain ⟨pv,hpv⟩:∃pv,pv=inB lo hi top x:=⟨_,rfl⟩
    have HPV:=hid hpv;rw [<-hpv] at cX;obtain ⟨qv,hqv⟩:∃qv,qv=decide (x=lo):=⟨_,rfl⟩
    have hq2:(x.toList==lo.toList)=qv:=(by rw [fG,hqv]);have HQV:=hid hqv;have z0:=tc c0;have y0:=tc d0;have y1:=tc d1;have y2:=tc d2;clear hxx hx' hkL cI hpv hqv c0 d0 d1 d2;go_upto_region 4 with fail
    go_cut [27] (fun tv wx=>tv= .bool (!pv || qv)/\Hid (Bw wr wx))
    case first=>
     cases pv with
     |false=>
      refine ah.aj [] [(0,[]),(1,[]),(2,[]),(3,[]),(4,[]),(5,[]),(6,[]),(7,[]),(8,[]),(9,[]),(10,[]),(11,[]),(12,[]),(13,[]),(14,[]),(15,[])] [] [] (by kernel_rfl) (by kernel_rfl) (by simp) ?_;simp only [ah.pick,ah.aO,dL]
      repeat (refine ah.ak (fun K hK=>?_);go_simp;first|(refine hK _ ?_;clear hK K)|(apply Exists.intro;refine ⟨fun q=>?_,hK _ ?_⟩;(go_at_call 182;exact (cX _).out);clear hK K))
      refine ah.walk_nil ?_;intro w2 hb _;have HB2:Hid (Bw wr w2):=hb;clear z0 y0 y1 y2 hb cX;simp only [lC,List.drop_nil,Nat.zero_add,Nat.reduceAdd];go_wp2_with fail
      go_meet
      exact ⟨rfl,HB2⟩
     |true=>
      refine ah.aj [] [(0,[]),(1,[]),(2,[]),(3,[]),(4,[]),(5,[]),(6,[]),(7,[]),(8,[]),(9,[]),(10,[]),(11,[]),(12,[]),(13,[]),(14,[]),(15,[])] [] [] (by kernel_rfl) (by kernel_rfl) (by simp) ?_;simp only [ah.pick,ah.aO,dL]
      repeat (refine ah.ak (fun K hK=>?_);go_simp;first|(refine hK _ ?_;clear hK K)|(apply Exists.intro;refine ⟨fun q=>?_,hK _ ?_⟩;(go_at_call 182;exact (cX _).out);clear hK K))
      refine ah.walk_nil ?_;intro w2 hb _;have HB2:Hid (Bw wr w2):=hb;clear z0 y0 y1 y2 hb cX;simp only [lC,List.drop_nil,Nat.zero_add,Nat.reduceAdd];go_wp2_with fail
      go_meet
      exact ⟨rfl,HB2⟩
    case rest=>
    obtain ⟨rfl,HB2⟩:=hcut;have HB3:Hid (Bw W wc):=HB.out.trans (HB2.out.mono HB.out.size);have HX3:=hid (aC HXr.out HB2.out);obtain ⟨tb,htb⟩:∃tb,tb=(!pv || qv):=⟨_,rfl⟩
    rw [<-htb];cases tb with
    |true=>
     have HNO:Hid (¬iI L lo hi top):=fun hr=>by
      obtain ⟨h1,h2⟩:=hr.1 x (List.mem_of_getElem? HXX.out);rw [<-HPV.out] at h1;have h3:qv=false:=(by rw [HQV.out];simpa using h2);rw [h1,h3] at htb;cases htb
     clear z0 y0 y1 y2 cX htb;go_wp2_with fail
     go_ret
     exact ⟨⟨false,rfl,by simpa using HNO.out⟩,HB3.out⟩
    |false=>
     have HE2:Hid (∀(i:Nat) (x:ByteArray),i<k+1->L[i]? =some x->inB lo hi top x=true/\x≠lo):=fun i y hi hy=>by
      by_cases e:i=k
      . subst e
        rw [HXX.out] at hy;(cases hy);have h4:pv=true/\qv=false:=(by simpa using htb.symm);refine ⟨by rw [<-HPV.out];exact h4.1,?_⟩;have h5:=HQV.out;rw [h4.2] at h5;simpa using h5.symm
      . exact HE.out i y (by omega) hy
     clear z0 y0 y1 y2 cX htb;go_wp2_with fail
     go_roundg (n-(k+1))
     case measure=>omega
     case rel=>exact ⟨k+1,hlt,rfl,by go_num,HE2,HB3,HX3⟩
  . have HE2:Hid (∀x,x∈L->inB lo hi top x=true/\x≠lo):=fun x hx=>by
     obtain ⟨i,hi⟩:=List.getElem?_of_mem hx;have:=(List.getElem?_eq_some_iff.1 hi).1;rw [HN.out] at this;exact HE.out i x (by omega) hi
    obtain rfl:k=n:=(by omega);clear hlt cI;go_wp2_with (go_at_call 204;refine (cRi _ HB.out).out.mono ?_;rintro e w' ⟨⟨v,rfl,hv⟩,hb⟩)
    go_ret
    exact ⟨⟨v,rfl,⟨fun h=>⟨HE2.out,hv.1 h⟩,fun h=>hv.2 h.2⟩⟩,HB.out.trans (hb.mono HB.out.size)⟩
end Fa
end Go.Proofs.YtjpjjnalpdpljaaGreatDoor
set_option maxHeartbeats 2000000
set_option maxRecDepth 100000
namespace Go.Proofs.YtjpjjnalpdpljaaGreatDoor
open Go.RowKit
open Go.Lib (hid)
open ah (dL tc)
open IntKind (wrap_i64)
namespace Bu
open Mem Lx
def AO (L:List Mg):Prop:=∀(i:Nat) (a b:Mg),L[i]? =some a->L[i+1]? =some b->bV a.1 b.1<0
theorem gN {W:World} {A:Option Addr} {c:Nat} {L:List Mg} (h:ML W A L) (hk:∀m,m∈L->m.1.size<=maxLen) (hl:L.length<=1048576):Calls Tryz.prog 185 #[.slice A L.length c] W fun e w'=>(∃v:Bool,e=.returned (.bool v)/\(v=true↔AO L))/\Bw W w':=by
 obtain ⟨n,hn⟩:∃n,n=L.length:=⟨_,rfl⟩
 have HN:=hid hn;have HH:=hid h;have HK:=hid hk;rw [<-hn] at hl ⊢;clear h hk hn;go_enter Tryz.func185,Tryz.ntmps185
 go_wp2_with fail
 go_loopg [3] (n-1) (fun gk iv wr=>∃k:Nat,1<=k/\(k=1\/k<=n)/\gk=n-k/\iv= .int .i64 (k:Int)/\Hid (∀(i:Nat) (a b:Mg),i+1<k->L[i]? =some a->L[i+1]? =some b->bV a.1 b.1<0)/\Hid (Bw W wr))
 case atStart=>exact ⟨1,Nat.le_refl _,.inl rfl,rfl,rfl,fun i a b hi=>by omega,Below.refl _ _⟩
 case round=>
  obtain ⟨k,hk1,hkn,rfl,rfl,HE,HB⟩:=hrel;by_cases hlt:k<n
  . obtain ⟨j,hjk⟩:∃j,k=j+1:=⟨k-1,by omega⟩
    have hj:j<L.length:=(by rw [<-HN.out];omega);have hj1:k<L.length:=(by rw [<-HN.out];omega);obtain ⟨x,hx⟩:∃x,x=L[j]:=⟨_,rfl⟩
    obtain ⟨y,hy⟩:∃y,y=L[k]:=⟨_,rfl⟩
    have hx':=dB hj;have hy':=dB hj1;rw [<-hx] at hx';rw [<-hy] at hy';obtain ⟨b,o,e,hc⟩:=RdK.place (HH.out.kept HB.out) (Nat.lt_of_le_of_lt (Nat.zero_le _) hj);subst e;obtain ⟨c0,-,-⟩:=hc j x hx';obtain ⟨c1,-,-⟩:=hc k y hy';have cC:=fun w=>hid (Pn x.1 y.1 (HK.out x (List.mem_of_getElem? hx')) w);have HX:=hid hx';have HY:=hid hy';have z0:=tc c0;have z1:=tc c1;have hw1:IntKind.i64.wrap ((k:Int)-1)=(j:Int):=(by rw [wrap_i64];omega);have hw2:IntKind.i64.wrap ((k:Int)+1)=((k+1:Nat):Int):=(by rw [wrap_i64];omega);have HJ:=hid hjk;have hjn:j<n:=(by omega);clear hc c0 c1 hx hy hx' hy' hj hj1 hjk;go_upto_region 4 with fail
    refine ah.aj [] [(0,[]),(1,[]),(2,[]),(3,[]),(4,[]),(5,[]),(6,[]),(7,[]),(8,[]),(9,[]),(10,[]),(11,[]),(12,[])] [] [] (by kernel_rfl) (by kernel_rfl) (by simp) ?_;simp only [ah.pick,ah.aO,dL]
    repeat (refine ah.ak (fun K hK=>?_);go_simp;first|(refine hK _ ?_;clear hK K)|(apply Exists.intro;refine ⟨fun q=>?_,hK _ ?_⟩;(go_at_call 203;exact (cC _).out);clear hK K))
    refine ah.walk_nil ?_;intro w2 hb _;have HB2:=hid (HB.out.trans (hb.mono HB.out.size));clear z0 z1 hw1 hb HB cC;simp only [lC,List.drop_nil,Nat.zero_add,Nat.reduceAdd];by_cases hcm:bV x.1 y.1<0
    . have hd:decide (0<=bV x.1 y.1)=false:=by simpa using hcm
      have HE2:Hid (∀(i:Nat) (a b:Mg),i+1<k+1->L[i]? =some a->L[i+1]? =some b->bV a.1 b.1<0):=fun i a b hi ha hb=>by
       by_cases e:i=j
       . subst e
         rw [HX.out] at ha;rw [<-HJ.out,HY.out] at hb;(cases ha);(cases hb);exact hcm
       . exact HE.out i a b (by have:=HJ.out;omega) ha hb
      generalize bV x.1 y.1=z at*;clear hd;go_wp2_with fail
      go_roundg (n-(k+1))
      case measure=>omega
      case rel=>exact ⟨k+1,by omega,.inr hlt,rfl,by go_num,HE2,HB2⟩
    . have HN2:Hid (¬AO L):=fun hr=>hcm (hr j x y HX.out (by rw [<-HJ.out];exact HY.out))
      have hd:0<=bV x.1 y.1:=(by omega);clear hcm;generalize bV x.1 y.1=z at*;go_wp2_with fail
      go_ret
      exact ⟨⟨false,rfl,by simpa using HN2.out⟩,HB2.out⟩
  . have HR:Hid (AO L):=fun i a b ha hb=>HE.out i a b (by
     have:=(List.getElem?_eq_some_iff.1 hb).1;rw [<-HN.out] at this
     omega) ha hb
    have hge:n<=k:=(by omega);have hd:decide ((k:Int)<(n:Int))=false:=(by simp;omega);clear hlt;go_wp2_with fail
    go_ret
    exact ⟨⟨true,rfl,by simpa using HR.out⟩,HB.out⟩
theorem iW {W:World} {A A':Option Addr} {c c':Nat} {L L':List Mg} (h:ML W A L) (h':ML W A' L') (hl:L.length<=1048576) (_:L'.length<=1048576):Calls Tryz.prog 53 #[.slice A L.length c,.slice A' L'.length c'] W fun e w'=>(∃v:Bool,e=.returned (.bool v)/\(v=true↔L=L'))/\Bw W w':=by
 obtain ⟨n,hn⟩:∃n,n=L.length:=⟨_,rfl⟩
 by_cases hnn:L.length=L'.length
 case neg=>
  have HR:Hid (¬L=L'):=fun e=>hnn (by rw [e]);have hd:((L.length:Int) != (L'.length:Int))=true:=by simp;omega
  clear h h' hn hl;generalize L.length=n at*;generalize L'.length=n' at*;clear hnn;go_enter Tryz.func53,Tryz.ntmps53
  go_wp2
  go_ret
  exact ⟨⟨false,rfl,by simpa using HR.out⟩,Below.refl _ _⟩
 rw [<-hnn,<-hn];rw [<-hn] at hl;have HN:=hid hn;have HN':Hid (n=L'.length):=hn.trans hnn;have HH:=hid h;have HH':=hid h';clear h h' hn hnn;go_enter Tryz.func53,Tryz.ntmps53
 go_wp2_with fail
 go_loopg [5] n (fun gk iv wr=>∃k:Nat,k<=n/\gk=n-k/\iv= .int .i64 (k:Int)/\Hid (∀i,i<k->L[i]? =L'[i]?)/\Hid (Bw W wr))
 case atStart=>exact ⟨0,Nat.zero_le _,rfl,rfl,fun i hi=>by omega,Below.refl _ _⟩
 case round=>
  obtain ⟨k,hk,rfl,rfl,HE,HB⟩:=hrel;by_cases hlt:k<n
  . have hj:k<L.length:=by rw [<-HN.out];exact hlt
    have hj':k<L'.length:=(by rw [<-HN'.out];exact hlt);obtain ⟨x,hx⟩:∃x,x=L[k]:=⟨_,rfl⟩
    obtain ⟨y,hy⟩:∃y,y=L'[k]:=⟨_,rfl⟩
    have hx':=dB hj;have hy':=dB hj';rw [<-hx] at hx';rw [<-hy] at hy';obtain ⟨b,o,e,-,c0,c1,c2⟩:=RdK.msg (HH.out.kept HB.out) hx';subst e;obtain ⟨b',o',e',-,d0,d1,d2⟩:=RdK.msg (HH'.out.kept HB.out) hy';subst e';have HX:=hid hx';have HY:=hid hy';by_cases hxy:x=y
    . have hne:∀w,(binOp .neq 91 (.agg #[.string x.1,.bool x.2.1,.string x.2.2]) (.agg #[.string y.1,.bool y.2.1,.string y.2.2])).run Tryz.prog w= .ok (.bool false) w:=fun w=>(Ni x y w).trans (by simp [hxy])
      have HE2:Hid (∀i,i<k+1->L[i]? =L'[i]?):=fun i hi=>by
       by_cases e:i=k
       . subst e
         rw [HX.out,HY.out,hxy]
       . exact HE.out i (by omega)
      clear hxy;have z0:=tc c0;have z1:=tc c1;have z2:=tc c2;have x0:=tc d0;have x1:=tc d1;have x2:=tc d2;have hw2:IntKind.i64.wrap ((k:Int)+1)=((k+1:Nat):Int):=(by rw [wrap_i64];omega);clear c0 c1 c2 d0 d1 d2 hx hy hx' hy' hj hj';go_upto_region 6 with fail
      refine ah.aj [] [(0,[]),(1,[]),(2,[]),(3,[]),(4,[]),(5,[]),(6,[]),(7,[]),(8,[])] [] [] (by kernel_rfl) (by kernel_rfl) (by simp) ?_;simp only [ah.pick,ah.aO,dL]
      repeat (refine ah.ak (fun K hK=>?_);go_simp;(refine hK _ ?_;clear hK K))
      refine ah.walk_nil ?_;intro w2 hb _;have HB2:=hid (HB.out.trans (hb.mono HB.out.size));clear z0 z1 z2 x0 x1 x2 hb HB hne;simp only [lC,List.drop_nil,Nat.zero_add,Nat.reduceAdd];go_wp2_with fail
      go_roundg (n-(k+1))
      case measure=>omega
      case rel=>exact ⟨k+1,hlt,rfl,by go_num,HE2,HB2⟩
    . have hne:∀w,(binOp .neq 91 (.agg #[.string x.1,.bool x.2.1,.string x.2.2]) (.agg #[.string y.1,.bool y.2.1,.string y.2.2])).run Tryz.prog w= .ok (.bool true) w:=fun w=>(Ni x y w).trans (by simp [hxy])
      have HN2:Hid (¬L=L'):=fun e=>hxy (by
       have h1:=HX.out;rw [e,HY.out] at h1
       exact (Option.some.inj h1).symm)
      clear hxy;have z0:=tc c0;have z1:=tc c1;have z2:=tc c2;have x0:=tc d0;have x1:=tc d1;have x2:=tc d2;have hw2:IntKind.i64.wrap ((k:Int)+1)=((k+1:Nat):Int):=(by rw [wrap_i64];omega);clear c0 c1 c2 d0 d1 d2 hx hy hx' hy' hj hj';go_upto_region 6 with fail
      refine ah.aj [] [(0,[]),(1,[]),(2,[]),(3,[]),(4,[]),(5,[]),(6,[]),(7,[]),(8,[])] [] [] (by kernel_rfl) (by kernel_rfl) (by simp) ?_;simp only [ah.pick,ah.aO,dL]
      repeat (refine ah.ak (fun K hK=>?_);go_simp;(refine hK _ ?_;clear hK K))
      refine ah.walk_nil ?_;intro w2 hb _;have HB2:=hid (HB.out.trans (hb.mono HB.out.size));clear z0 z1 z2 x0 x1 x2 hb HB hne;simp only [lC,List.drop_nil,Nat.zero_add,Nat.reduceAdd];go_wp2_with fail
      go_ret
      exact ⟨⟨false,rfl,by simpa using HN2.out⟩,HB2.out⟩
  . have HR:Hid (L=L'):=by
     refine List.ext_getElem? fun i=>?_;by_cases hi:i<k
     . exact HE.out i hi
     . rw [List.getElem?_eq_none (by rw [<-HN.out];omega),List.getElem?_eq_none (by rw [<-HN'.out];omega)]
    obtain rfl:k=n:=(by omega);clear hlt;go_wp2_with fail
    go_ret
    exact ⟨⟨true,rfl,by simpa using HR.out⟩,HB.out⟩
end Bu
end Go.Proofs.YtjpjjnalpdpljaaGreatDoor
set_option maxHeartbeats 2000000
set_option maxRecDepth 100000
namespace Go.Proofs.YtjpjjnalpdpljaaGreatDoor
open Go.RowKit
open Go.Lib (hid)
open ah (dL tc)
open IntKind (wrap_i64)
namespace Lf
open Mem Lx Bu
def mM (L:List Pr):Prop:=∀(i:Nat) (a b:Pr),L[i]? =some a->L[i+1]? =some b->bV a.1 b.1<0
theorem gN {W:World} {A:Option Addr} {c:Nat} {L:List Pr} (h:PL W A L) (hk:∀m,m∈L->m.1.size<=maxLen) (hl:L.length<=1048576):Calls Tryz.prog 183 #[.slice A L.length c] W fun e w'=>(∃v:Bool,e=.returned (.bool v)/\(v=true↔mM L))/\Bw W w':=by
 obtain ⟨n,hn⟩:∃n,n=L.length:=⟨_,rfl⟩
 have HN:=hid hn;have HH:=hid h;have HK:=hid hk;rw [<-hn] at hl ⊢;clear h hk hn;go_enter Tryz.func183,Tryz.ntmps183
 go_wp2_with fail
 go_loopg [3] (n-1) (fun gk iv wr=>∃k:Nat,1<=k/\(k=1\/k<=n)/\gk=n-k/\iv= .int .i64 (k:Int)/\Hid (∀(i:Nat) (a b:Pr),i+1<k->L[i]? =some a->L[i+1]? =some b->bV a.1 b.1<0)/\Hid (Bw W wr))
 case atStart=>exact ⟨1,Nat.le_refl _,.inl rfl,rfl,rfl,fun i a b hi=>by omega,Below.refl _ _⟩
 case round=>
  obtain ⟨k,hk1,hkn,rfl,rfl,HE,HB⟩:=hrel;by_cases hlt:k<n
  . obtain ⟨j,hjk⟩:∃j,k=j+1:=⟨k-1,by omega⟩
    have hj:j<L.length:=(by rw [<-HN.out];omega);have hj1:k<L.length:=(by rw [<-HN.out];omega);obtain ⟨x,hx⟩:∃x,x=L[j]:=⟨_,rfl⟩
    obtain ⟨y,hy⟩:∃y,y=L[k]:=⟨_,rfl⟩
    have hx':=dB hj;have hy':=dB hj1;rw [<-hx] at hx';rw [<-hy] at hy';obtain ⟨b,o,e,hc⟩:=RdK.Jc (HH.out.kept HB.out) (Nat.lt_of_le_of_lt (Nat.zero_le _) hj);subst e;obtain ⟨c0,-⟩:=hc j x hx';obtain ⟨c1,-⟩:=hc k y hy';have cC:=fun w=>hid (Pn x.1 y.1 (HK.out x (List.mem_of_getElem? hx')) w);have HX:=hid hx';have HY:=hid hy';have z0:=tc c0;have z1:=tc c1;have hw1:IntKind.i64.wrap ((k:Int)-1)=(j:Int):=(by rw [wrap_i64];omega);have hw2:IntKind.i64.wrap ((k:Int)+1)=((k+1:Nat):Int):=(by rw [wrap_i64];omega);have HJ:=hid hjk;have hjn:j<n:=(by omega);clear hc c0 c1 hx hy hx' hy' hj hj1 hjk;go_upto_region 4 with fail
    refine ah.aj [] [(0,[]),(1,[]),(2,[]),(3,[]),(4,[]),(5,[]),(6,[]),(7,[]),(8,[]),(9,[]),(10,[]),(11,[]),(12,[])] [] [] (by kernel_rfl) (by kernel_rfl) (by simp) ?_;simp only [ah.pick,ah.aO,dL]
    repeat (refine ah.ak (fun K hK=>?_);go_simp;first|(refine hK _ ?_;clear hK K)|(apply Exists.intro;refine ⟨fun q=>?_,hK _ ?_⟩;(go_at_call 203;exact (cC _).out);clear hK K))
    refine ah.walk_nil ?_;intro w2 hb _;have HB2:=hid (HB.out.trans (hb.mono HB.out.size));clear z0 z1 hw1 hb HB cC;simp only [lC,List.drop_nil,Nat.zero_add,Nat.reduceAdd];by_cases hcm:bV x.1 y.1<0
    . have hd:decide (0<=bV x.1 y.1)=false:=by simpa using hcm
      have HE2:Hid (∀(i:Nat) (a b:Pr),i+1<k+1->L[i]? =some a->L[i+1]? =some b->bV a.1 b.1<0):=fun i a b hi ha hb=>by
       by_cases e:i=j
       . subst e
         rw [HX.out] at ha;rw [<-HJ.out,HY.out] at hb;(cases ha);(cases hb);exact hcm
       . exact HE.out i a b (by have:=HJ.out;omega) ha hb
      generalize bV x.1 y.1=z at*;clear hd;go_wp2_with fail
      go_roundg (n-(k+1))
      case measure=>omega
      case rel=>exact ⟨k+1,by omega,.inr hlt,rfl,by go_num,HE2,HB2⟩
    . have HN2:Hid (¬mM L):=fun hr=>hcm (hr j x y HX.out (by rw [<-HJ.out];exact HY.out))
      have hd:0<=bV x.1 y.1:=(by omega);clear hcm;generalize bV x.1 y.1=z at*;go_wp2_with fail
      go_ret
      exact ⟨⟨false,rfl,by simpa using HN2.out⟩,HB2.out⟩
  . have HR:Hid (mM L):=fun i a b ha hb=>HE.out i a b (by
     have:=(List.getElem?_eq_some_iff.1 hb).1;rw [<-HN.out] at this
     omega) ha hb
    have hge:n<=k:=(by omega);have hd:decide ((k:Int)<(n:Int))=false:=(by simp;omega);clear hlt;go_wp2_with fail
    go_ret
    exact ⟨⟨true,rfl,by simpa using HR.out⟩,HB.out⟩
theorem iW {W:World} {A A':Option Addr} {c c':Nat} {L L':List Pr} (h:PL W A L) (h':PL W A' L') (hl:L.length<=1048576) (_:L'.length<=1048576):Calls Tryz.prog 54 #[.slice A L.length c,.slice A' L'.length c'] W fun e w'=>(∃v:Bool,e=.returned (.bool v)/\(v=true↔L=L'))/\Bw W w':=by
 obtain ⟨n,hn⟩:∃n,n=L.length:=⟨_,rfl⟩
 by_cases hnn:L.length=L'.length
 case neg=>
  have HR:Hid (¬L=L'):=fun e=>hnn (by rw [e]);have hd:((L.length:Int) != (L'.length:Int))=true:=by simp;omega
  clear h h' hn hl;generalize L.length=n at*;generalize L'.length=n' at*;clear hnn;go_enter Tryz.func54,Tryz.ntmps54
  go_wp2
  go_ret
  exact ⟨⟨false,rfl,by simpa using HR.out⟩,Below.refl _ _⟩
 rw [<-hnn,<-hn];rw [<-hn] at hl;have HN:=hid hn;have HN':Hid (n=L'.length):=hn.trans hnn;have HH:=hid h;have HH':=hid h';clear h h' hn hnn;go_enter Tryz.func54,Tryz.ntmps54
 go_wp2_with fail
 go_loopg [5] n (fun gk iv wr=>∃k:Nat,k<=n/\gk=n-k/\iv= .int .i64 (k:Int)/\Hid (∀i,i<k->L[i]? =L'[i]?)/\Hid (Bw W wr))
 case atStart=>exact ⟨0,Nat.zero_le _,rfl,rfl,fun i hi=>by omega,Below.refl _ _⟩
 case round=>
  obtain ⟨k,hk,rfl,rfl,HE,HB⟩:=hrel;by_cases hlt:k<n
  . have hj:k<L.length:=by rw [<-HN.out];exact hlt
    have hj':k<L'.length:=(by rw [<-HN'.out];exact hlt);obtain ⟨x,hx⟩:∃x,x=L[k]:=⟨_,rfl⟩
    obtain ⟨y,hy⟩:∃y,y=L'[k]:=⟨_,rfl⟩
    have hx':=dB hj;have hy':=dB hj';rw [<-hx] at hx';rw [<-hy] at hy';obtain ⟨b,o,e,-,c0,c1⟩:=RdK.pair (HH.out.kept HB.out) hx';subst e;obtain ⟨b',o',e',-,d0,d1⟩:=RdK.pair (HH'.out.kept HB.out) hy';subst e';have HX:=hid hx';have HY:=hid hy';by_cases hxy:x=y
    . have hne:∀w,(binOp .neq 93 (.agg #[.string x.1,.string x.2]) (.agg #[.string y.1,.string y.2])).run Tryz.prog w= .ok (.bool false) w:=fun w=>(Nk x y w).trans (by simp [hxy])
      have HE2:Hid (∀i,i<k+1->L[i]? =L'[i]?):=fun i hi=>by
       by_cases e:i=k
       . subst e
         rw [HX.out,HY.out,hxy]
       . exact HE.out i (by omega)
      clear hxy;have z0:=tc c0;have z1:=tc c1;have x0:=tc d0;have x1:=tc d1;have hw2:IntKind.i64.wrap ((k:Int)+1)=((k+1:Nat):Int):=(by rw [wrap_i64];omega);clear c0 c1 d0 d1 hx hy hx' hy' hj hj';go_upto_region 6 with fail
      refine ah.aj [] [(0,[]),(1,[]),(2,[]),(3,[]),(4,[]),(5,[]),(6,[]),(7,[]),(8,[])] [] [] (by kernel_rfl) (by kernel_rfl) (by simp) ?_;simp only [ah.pick,ah.aO,dL]
      repeat (refine ah.ak (fun K hK=>?_);go_simp;(refine hK _ ?_;clear hK K))
      refine ah.walk_nil ?_;intro w2 hb _;have HB2:=hid (HB.out.trans (hb.mono HB.out.size));clear z0 z1 x0 x1 hb HB hne;simp only [lC,List.drop_nil,Nat.zero_add,Nat.reduceAdd];go_wp2_with fail
      go_roundg (n-(k+1))
      case measure=>omega
      case rel=>exact ⟨k+1,hlt,rfl,by go_num,HE2,HB2⟩
    . have hne:∀w,(binOp .neq 93 (.agg #[.string x.1,.string x.2]) (.agg #[.string y.1,.string y.2])).run Tryz.prog w= .ok (.bool true) w:=fun w=>(Nk x y w).trans (by simp [hxy])
      have HN2:Hid (¬L=L'):=fun e=>hxy (by
       have h1:=HX.out;rw [e,HY.out] at h1
       exact (Option.some.inj h1).symm)
      clear hxy;have z0:=tc c0;have z1:=tc c1;have x0:=tc d0;have x1:=tc d1;have hw2:IntKind.i64.wrap ((k:Int)+1)=((k+1:Nat):Int):=(by rw [wrap_i64];omega);clear c0 c1 d0 d1 hx hy hx' hy' hj hj';go_upto_region 6 with fail
      refine ah.aj [] [(0,[]),(1,[]),(2,[]),(3,[]),(4,[]),(5,[]),(6,[]),(7,[]),(8,[])] [] [] (by kernel_rfl) (by kernel_rfl) (by simp) ?_;simp only [ah.pick,ah.aO,dL]
      repeat (refine ah.ak (fun K hK=>?_);go_simp;(refine hK _ ?_;clear hK K))
      refine ah.walk_nil ?_;intro w2 hb _;have HB2:=hid (HB.out.trans (hb.mono HB.out.size));clear z0 z1 x0 x1 hb HB hne;simp only [lC,List.drop_nil,Nat.zero_add,Nat.reduceAdd];go_wp2_with fail
      go_ret
      exact ⟨⟨false,rfl,by simpa using HN2.out⟩,HB2.out⟩
  . have HR:Hid (L=L'):=by
     refine List.ext_getElem? fun i=>?_;by_cases hi:i<k
     . exact HE.out i hi
     . rw [List.getElem?_eq_none (by rw [<-HN.out];omega),List.getElem?_eq_none (by rw [<-HN'.out];omega)]
    obtain rfl:k=n:=(by omega);clear hlt;go_wp2_with fail
    go_ret
    exact ⟨⟨true,rfl,by simpa using HR.out⟩,HB.out⟩
end Lf
end Go.Proofs.YtjpjjnalpdpljaaGreatDoor
namespace Go.Proofs.YtjpjjnalpdpljaaGreatDoor
open Go.RowKit
namespace No
open Mem Lx Bu Lf Fa
def jT (c:Cfg) (k:ByteArray):Bool:=decide (1<=(k.size:Int))&&decide ((k.size:Int)<=c.key)
def H9 (c:Cfg) (lo hi:ByteArray) (top:Bool) (p:Pr):Prop:=jT c p.1=true/\inB lo hi top p.1=true/\(p.2.size:Int)<=c.val
structure nE (c:Cfg) (lo hi:ByteArray) (top:Bool) (n:Nd):Prop where
 each:∀p,p∈n.prs->H9 c lo hi top p
 kids:n.kids.length=0
 piv:n.piv.length=0
 buf:n.buf.length=0
 few:(n.prs.length:Int)<=c.leaf
 rise:mM n.prs
def Jd (c:Cfg) (lo hi:ByteArray) (top:Bool) (m:Mg):Prop:=jT c m.1=true/\inB lo hi top m.1=true/\(m.2.2.size:Int)<=c.val/\¬(m.2.1=true/\m.2.2≠⟨#[]⟩)
def qL (c:Cfg) (K:List Nat):Prop:=∀(i k:Nat),K[i]? =some k->(k≠0/\(k:Int)<c.blocks)/\∀(j m:Nat),j<i->K[j]? =some m->m≠k
structure nG (c:Cfg) (lo hi:ByteArray) (top:Bool) (n:Nd):Prop where
 kids:qL c n.kids
 piv:∀p,p∈n.piv->jT c p=true
 buf:∀m,m∈n.buf->Jd c lo hi top m
 lv:n.lv<=40
 prs:n.prs.length=0
 one:1<=n.kids.length
 fan:(n.kids.length:Int)<=c.fan
 fewer:n.piv.length+1=n.kids.length
 right:iI n.piv lo hi top
 few:(n.buf.length:Int)<=c.buffer
 rise:Bu.AO n.buf
def gI (c:Cfg) (lo hi:ByteArray) (top:Bool) (n:Nd):Prop:=(n.lv=0->nE c lo hi top n)/\(n.lv≠0->0<n.lv/\nG c lo hi top n)
theorem aT {w:World} {b:Nat} {c0 c1 c2 c3 c4 c5 c6 c7:Value} {U:TypeId} (h:w.heap[b]? =some (.cells #[c0,c1,c2,c3,c4,c5,c6,c7] U (0,0))):w.cell? ⟨b,0,none⟩=some c0/\w.cell? ⟨b,1,none⟩=some c1/\w.cell? ⟨b,2,none⟩=some c2/\w.cell? ⟨b,3,none⟩=some c3/\w.cell? ⟨b,4,none⟩=some c4/\w.cell? ⟨b,5,none⟩=some c5/\w.cell? ⟨b,6,none⟩=some c6/\w.cell? ⟨b,7,none⟩=some c7:=by
 simp [World.cell?,h]
structure B3 (W:World) (g:Nat) (X Y Z:Obj) (w:World):Prop where
 below:Bw W w
 at_:W.heap.size<=g
 x:w.heap[g]? =some X
 y:w.heap[g+1]? =some Y
 z:w.heap[g+2]? =some Z
theorem B3.kept {W:World} {g:Nat} {X Y Z:Obj} {w w':World} (h:B3 W g X Y Z w) (hb:Bw w w'):B3 W g X Y Z w':=⟨h.below.trans (hb.mono h.below.size),h.at_,aC h.x hb,aC h.y hb,aC h.z hb⟩
theorem B3.new (W:World) (X Y Z:Obj):B3 W W.heap.size X Y Z (((W.alloc X).alloc Y).alloc Z):=by
 have h2:=aR W X Y;have hb3:Below ((W.alloc X).alloc Y).heap.size ((W.alloc X).alloc Y) (((W.alloc X).alloc Y).alloc Z):=bAx;refine ⟨h2.2.2.trans (hb3.mono h2.2.2.size),Nat.le_refl _,aC h2.1 hb3,aC h2.2.1 hb3,?_⟩;have:=heap_alloc_new ((W.alloc X).alloc Y) Z;simpa using this
end No
end Go.Proofs.YtjpjjnalpdpljaaGreatDoor
namespace Go.Proofs.YtjpjjnalpdpljaaGreatDoor
open Go.RowKit
open List (append_assoc length_append range)
namespace No
open Mem Lx Bu Lf Fa
open Wd (be val aD dY)
def jh (c:Cfg) (key v:ByteArray):List UInt8:=be 1 key.size++(be 2 v.size++(slotL (txt key) c.key++slotL (txt v) c.val))
def pvL (c:Cfg) (p:ByteArray):List UInt8:=be 1 p.size++slotL (txt p) c.key
def pO (d:Bool):UInt8:=if d then 2 else 1
def msL (c:Cfg) (m:Mg):List UInt8:=[pO m.2.1]++jh c m.1 m.2.2
def lJ (c:Cfg) (n:Nd):List UInt8:=[1,0]++(be 2 n.prs.length++(zs 4++n.prs.flatMap fun x=>jh c x.1 x.2))
def xH (c:Cfg) (n:Nd):List UInt8:=[2]++(be 1 n.lv.toNat++(be 2 n.kids.length++(be 2 n.buf.length++(zs 2++(n.kids.flatMap (be 4)++(zs (4*(c.fan-n.kids.length))++(n.piv.flatMap (pvL c)++(zs ((1+c.key)*(c.fan-1-n.piv.length))++n.buf.flatMap (msL c)))))))))
def lM (c:Cfg) (n:Nd):List UInt8:=if n.lv=0 then lJ c n else xH c n
def aJ (c:Cfg) (n:Nd):List UInt8:=slotL (lM c n) c.bytes
def bQ (c:Cfg) (n:Nd):Prop:=Cf.Right c.blocks c.bytes c.frames c.fan c.buffer c.leaf c.key c.val/\gI c ⟨#[]⟩ ⟨#[]⟩ true n
def Oh (c:Cfg) (b:List UInt8) (i:Nat):Pr:=(strOf (Gh b (i+3) (atL b i 1)),strOf (Gh b (i+3+c.key.toNat) (atL b (i+1) 2)))
theorem Ev {c:Cfg} {b R:List UInt8} {i:Nat} {key v:ByteArray} (h:b.drop i=jh c key v++R) (hk:key.size<256) (hv:v.size<65536) (hk2:(key.size:Int)<=c.key):Oh c b i=(key,v):=by
 unfold jh at h;simp only [append_assoc] at h;have h1:=eB h (aD 1 _);have h2:=eB h1 (aD 2 _);have h3:=eB h2 (dN (by rw [fC];exact hk2));unfold Oh;rw [uF h (by omega),uF h1 (by omega)];refine Prod.ext ?_ ?_
 . exact rG h2
 . exact rG h3
def Oi (b:List UInt8) (i:Nat):ByteArray:=strOf (Gh b (i+1) (atL b i 1))
theorem Nl {c:Cfg} {b R:List UInt8} {i:Nat} {p:ByteArray} (h:b.drop i=pvL c p++R) (hk:p.size<256):Oi b i=p:=by
 unfold pvL at h;simp only [append_assoc] at h;have h1:=eB h (aD 1 _);unfold Oi;rw [uF h (by omega)];exact rG h1
def Oj (c:Cfg) (b:List UInt8) (i:Nat):Mg:=(strOf (Gh b (i+4) (atL b (i+1) 1)),decide (atL b i 1=2),strOf (Gh b (i+4+c.key.toNat) (atL b (i+2) 2)))
theorem Nn {c:Cfg} {b R:List UInt8} {i:Nat} {m:Mg} (h:b.drop i=msL c m++R) (hk:m.1.size<256) (hv:m.2.2.size<65536) (hk2:(m.1.size:Int)<=c.key):Oj c b i=m:=by
 unfold msL at h;simp only [append_assoc] at h;have h1:=eB (j:=1) h rfl;have hp:=Ev h1 hk hv hk2
 have hd:atL b i 1=(pO m.2.1).toNat:=by
  unfold atL;rw [h];simp [val]
 obtain ⟨key,d,v⟩:=m;unfold Oh at hp;unfold Oj;simp only [Prod.mk.injEq] at hp ⊢;rw [hd];refine ⟨by rw [show i+4=i+1+3 by omega];exact hp.1,?_,by rw [show i+4+c.key.toNat=i+1+3+c.key.toNat by omega,show i+2=i+1+1 by omega];exact hp.2⟩;cases d<;>rfl
theorem lN {c:Cfg} {key v:ByteArray} (hk:(key.size:Int)<=c.key) (hv:(v.size:Int)<=c.val):(jh c key v).length=3+c.key.toNat+c.val.toNat:=by
 unfold jh;simp only [length_append,aD];rw [dN (by rw [fC];exact hk),dN (by rw [fC];exact hv)];omega
theorem xI {c:Cfg} {p:ByteArray} (hk:(p.size:Int)<=c.key):(pvL c p).length=1+c.key.toNat:=by
 unfold pvL;simp only [length_append,aD];rw [dN (by rw [fC];exact hk)]
theorem xJ {c:Cfg} {m:Mg} (hk:(m.1.size:Int)<=c.key) (hv:(m.2.2.size:Int)<=c.val):(msL c m).length=4+c.key.toNat+c.val.toNat:=by
 unfold msL;rw [length_append,lN hk hv];simp;omega
def Ew (cnt i S len:Nat):Nat:=min cnt ((len-i) / S)
theorem zq {cnt i S len:Nat} (hS:0<S) (h:i+cnt*S<=len):Ew cnt i S len=cnt:=by
 unfold Ew;refine Nat.min_eq_left ((Nat.le_div_iff_mul_le hS).2 (by omega))
theorem lS {α:Type} {L:List α} {g:Nat->α} (h:∀k x,L[k]? =some x->g k=x):(range L.length).map g=L:=by
 refine List.ext_getElem? fun k=>?_;rw [List.getElem?_map];rcases Nat.lt_or_ge k L.length with hk|hk
 . rw [List.getElem?_range hk,List.getElem?_eq_getElem hk,Option.map_some,h k _ (List.getElem?_eq_getElem hk)]
 . rw [List.getElem?_eq_none (by simpa using hk),List.getElem?_eq_none hk]
   rfl
def Ey (c:Cfg) (b:List UInt8):Nd:=
 if atL b 1 1=0 then ⟨0,[],[],[],(range (Ew (atL b 2 2) 8 (3+c.key.toNat+c.val.toNat) b.length)).map fun k=>Oh c b (8+k*(3+c.key.toNat+c.val.toNat))⟩
 else ⟨atL b 1 1,(range (min (atL b 2 2) c.fan.toNat)).map fun k=>atL b (8+k*4) 4,(range (min (atL b 2 2-1) (c.fan.toNat-1))).map fun k=>Oi b (8+4*c.fan.toNat+k*(1+c.key.toNat)),
  (range (Ew (atL b 4 2) (8+4*c.fan.toNat+(1+c.key.toNat)*(c.fan.toNat-1)) (4+c.key.toNat+c.val.toNat) b.length)).map fun k=>Oj c b (8+4*c.fan.toNat+(1+c.key.toNat)*(c.fan.toNat-1)+k*(4+c.key.toNat+c.val.toNat)),[]⟩
end No
end Go.Proofs.YtjpjjnalpdpljaaGreatDoor
