import Derived.Test.YtjpjjnalpdpljaaGreatDoorProg
import Derived.Test.YtjpjjnalpdpljaaGreatDoorLexPlain
import Derived.WalkKit
import Derived.WalkLawsBesides
import Derived.KernelRfl
import Derived.Deep.QuietTactic
import Derived.BigQuiet
import Derived.Lib.QuietBelow
import Derived.Lib.Hide
import Derived.Test.YtjpjjnalpdpljaaGreatDoorPkAD
import Derived.Test.YtjpjjnalpdpljaaGreatDoorPkAK
import Derived.Deep.DeepCutAuto
import Derived.Deep.CutBlock
import Derived.Test.YtjpjjnalpdpljaaGreatDoorPqDrift
import Derived.Test.YtjpjjnalpdpljaaGreatDoorPkAC
import Derived.Test.YtjpjjnalpdpljaaGreatDoorPkAB
set_option maxHeartbeats 1000000
set_option maxRecDepth 100000
namespace Go.Proofs.YtjpjjnalpdpljaaGreatDoor
open Go.RowKit
namespace Lx
abbrev cmpB (a b:ByteArray):Int:=Lib.compareBytes a.data.toList b.data.toList
def EqTo (a b:ByteArray) (k:Nat):Prop:=∀j,j<k->a.data.toList.getD j 0=b.data.toList.getD j 0
theorem EqTo.zero (a b:ByteArray):EqTo a b 0:=fun j h=>by omega
theorem getD_eq (a:ByteArray) (k:Nat) (h:k<a.size):a.data.toList.getD k 0=a[k]:=by
 have:k<a.data.toList.length:=by simpa using h
 simp [List.getD,List.getElem?_eq_getElem this];rfl
theorem EqTo.succ {a b:ByteArray} {k:Nat} (h:EqTo a b k) (ha:k<a.size) (hb:k<b.size) (e:a[k]=b[k]):EqTo a b (k+1):=fun j hj=>by
 by_cases hk:j=k
 . subst hk;rw [getD_eq a j ha,getD_eq b j hb,e]
 . exact h j (by omega)
theorem len_eq (a:ByteArray):a.data.toList.length=a.size:=by rw [Array.length_toList];rfl
theorem EqTo.lt {a b:ByteArray} {k:Nat} (h:EqTo a b k) (ha:k<a.size) (hb:k<b.size) (e:(a[k].toNat:Int)<(b[k].toNat:Int)):cmpB a b= -1:=by
 refine cmp_at_lt (k:=k) (by rw [len_eq];exact ha) (by rw [len_eq];exact hb) h ?_
 rw [getD_eq a k ha,getD_eq b k hb,UInt8.lt_iff_toNat_lt];omega
theorem EqTo.gt {a b:ByteArray} {k:Nat} (h:EqTo a b k) (ha:k<a.size) (hb:k<b.size) (e:(b[k].toNat:Int)<(a[k].toNat:Int)):cmpB a b=1:=by
 refine cmp_at_gt (k:=k) (by rw [len_eq];exact ha) (by rw [len_eq];exact hb) h ?_
 rw [getD_eq a k ha,getD_eq b k hb,UInt8.lt_iff_toNat_lt];omega
abbrev spanV (lo hi:ByteArray) (top:Bool):Value:= .agg #[.string lo, .string hi, .bool top]
def inB (lo hi:ByteArray) (top:Bool) (key:ByteArray):Bool:=decide (cmpB lo key<=0)&&(top || decide (cmpB key hi<0))
theorem ret_bool {a b:Bool} (h:a=b):Ending.returned (.bool a)= .returned (.bool b):=by rw [h]
end Lx
end Go.Proofs.YtjpjjnalpdpljaaGreatDoor
namespace Go.Proofs.YtjpjjnalpdpljaaGreatDoor
open Go.RowKit
namespace Bu
open Lx
theorem cmpB_trans {a b c:ByteArray} (h:cmpB a b<0) (k:cmpB b c<0):cmpB a c<0:=cmp_trans_lt h k
theorem cmpB_self (a:ByteArray):cmpB a a=0:=cmp_self _
theorem cmpB_neg (a b:ByteArray):cmpB a b= -cmpB b a:=cmp_neg _ _
theorem cmpB_zero {a b:ByteArray} (h:cmpB a b=0):a=b:=by
 have:=cmp_zero h
 cases a
 cases b
 simp only [ByteArray.mk.injEq] at*
 exact Array.ext' this
theorem cmpB_ne {a b:ByteArray} (h:cmpB a b<0):a≠b:=fun e=>by
 subst e
 rw [cmpB_self] at h
 omega
theorem cmpB_tri (a b:ByteArray):cmpB a b<0\/a=b\/cmpB b a<0:=by
 by_cases h:cmpB a b<0
 . exact .inl h
 . by_cases k:cmpB b a<0
   . exact .inr (.inr k)
   . have:=cmpB_neg a b
     exact .inr (.inl (cmpB_zero (by omega)))
end Bu
end Go.Proofs.YtjpjjnalpdpljaaGreatDoor
namespace Go.Proofs.YtjpjjnalpdpljaaGreatDoor
open Go.RowKit
namespace No
open Mem Lx Bu
def KdK:Kind Nat:=⟨25,1,fun n=>[.int .u32 (n:Int)],fun _=>rfl,fun m u hu=>by
 obtain rfl:u= .int .u32 (m:Int):=by simpa using hu
 rfl⟩
abbrev KL (w:World) (A:Option Addr) (L:List Nat):Prop:=RdK KdK w A L
abbrev KC (w:World) (A:Option Addr) (c:Nat) (L:List Nat):Prop:=RC KdK w A c L
theorem RdK.kid {w:World} {A:Option Addr} {L:List Nat} (h:KL w A L) {i:Nat} {m:Nat} (hm:L[i]? =some m):∃b o,A=some ⟨b,o,none⟩/\b<w.heap.size/\w.cell? ⟨b,o+i,none⟩=some (.int .u32 (m:Int)):=by
 obtain ⟨b,o,e,hl,hc⟩:=h (Nat.lt_of_le_of_lt (Nat.zero_le _) (List.getElem?_eq_some_iff.1 hm).1)
 have h0:=hc i m hm 0 (.int .u32 (m:Int)) rfl
 exact ⟨b,o,e,hl,by simpa [KdK] using h0⟩
theorem nat_lenK {L:List Nat} {i:Nat} (h:i<L.length):L[i]? =some L[i]:=List.getElem?_eq_getElem h
end No
end Go.Proofs.YtjpjjnalpdpljaaGreatDoor
namespace Go.Proofs.YtjpjjnalpdpljaaGreatDoor
open Go.RowKit
namespace Fa
open Mem Lx Bu
def StK:Kind ByteArray:=⟨9,1,fun m=>[.string m],fun _=>rfl,fun m u hu=>by
 obtain rfl:u= .string m:=by simpa using hu
 rfl⟩
abbrev SL (w:World) (A:Option Addr) (L:List ByteArray):Prop:=RdK StK w A L
abbrev SC (w:World) (A:Option Addr) (c:Nat) (L:List ByteArray):Prop:=RC StK w A c L
theorem RdK.str {w:World} {A:Option Addr} {L:List ByteArray} (h:SL w A L) {i:Nat} {m:ByteArray} (hm:L[i]? =some m):∃b o,A=some ⟨b,o,none⟩/\b<w.heap.size/\w.cell? ⟨b,o+i,none⟩=some (.string m):=by
 obtain ⟨b,o,e,hl,hc⟩:=h (Nat.lt_of_le_of_lt (Nat.zero_le _) (List.getElem?_eq_some_iff.1 hm).1)
 have h0:=hc i m hm 0 (.string m) rfl
 exact ⟨b,o,e,hl,by simpa [StK] using h0⟩
theorem nat_lenS {L:List ByteArray} {i:Nat} (h:i<L.length):L[i]? =some L[i]:=List.getElem?_eq_getElem h
end Fa
end Go.Proofs.YtjpjjnalpdpljaaGreatDoor
namespace Go.Proofs.YtjpjjnalpdpljaaGreatDoor
open Go.RowKit
namespace Bu
open Mem Lx
abbrev Mg:=ByteArray × Bool × ByteArray
def MgK:Kind Mg:=⟨91,3,fun m=>[.string m.1, .bool m.2.1, .string m.2.2],fun _=>rfl,fun m u hu=>by
 simp only [List.mem_cons,List.not_mem_nil,or_false] at hu
 rcases hu with rfl|rfl|rfl<;>rfl⟩
abbrev ML (w:World) (A:Option Addr) (L:List Mg):Prop:=RdK MgK w A L
theorem RdK.msg {w:World} {A:Option Addr} {L:List Mg} (h:ML w A L) {i:Nat} {m:Mg} (hm:L[i]? =some m):∃b o,A=some ⟨b,o,none⟩/\b<w.heap.size/\w.cell? ⟨b,o+i*3,none⟩=some (.string m.1)/\w.cell? ⟨b,o+i*3+1,none⟩=some (.bool m.2.1)/\w.cell? ⟨b,o+i*3+2,none⟩=some (.string m.2.2):=by
 obtain ⟨b,o,e,hl,hc⟩:=h (Nat.lt_of_le_of_lt (Nat.zero_le _) (List.getElem?_eq_some_iff.1 hm).1)
 have h0:=hc i m hm 0 (.string m.1) rfl
 have h1:=hc i m hm 1 (.bool m.2.1) rfl
 have h2:=hc i m hm 2 (.string m.2.2) rfl
 exact ⟨b,o,e,hl,by simpa [MgK] using h0,by simpa [MgK,Nat.add_assoc] using h1,by simpa [MgK,Nat.add_assoc] using h2⟩
theorem RdK.place {w:World} {A:Option Addr} {L:List Mg} (h:ML w A L) (h0:0<L.length):∃b o,A=some ⟨b,o,none⟩/\∀(i:Nat) (m:Mg),L[i]? =some m->w.cell? ⟨b,o+i*3,none⟩=some (.string m.1)/\w.cell? ⟨b,o+i*3+1,none⟩=some (.bool m.2.1)/\w.cell? ⟨b,o+i*3+2,none⟩=some (.string m.2.2):=by
 obtain ⟨b,o,e,_,_⟩:=h h0
 subst e
 refine ⟨b,o,rfl,fun i m hm=>?_⟩
 obtain ⟨b',o',e',_,h1⟩:=RdK.msg h hm
 obtain ⟨rfl,rfl⟩:b=b'/\o=o':=by simpa using e'
 exact h1
theorem mginfo:(Tryz.prog.info? 91).map (fun i=>(i.zero,i.size,i.bytes))=some (some (.agg #[.string ⟨#[]⟩, .bool false, .string ⟨#[]⟩]),3,40):=by kernel_rfl
theorem nat_len {α:Type} {L:List α} {i:Nat} (h:i<L.length):L[i]? =some L[i]:=List.getElem?_eq_getElem h
def zeroM:Mg:=(⟨#[]⟩,false,⟨#[]⟩)
end Bu
end Go.Proofs.YtjpjjnalpdpljaaGreatDoor
namespace Go.Proofs.YtjpjjnalpdpljaaGreatDoor
open Go.RowKit
namespace Lf
open Mem Lx Bu
abbrev Pr:=ByteArray × ByteArray
def PrK:Kind Pr:=⟨93,2,fun m=>[.string m.1, .string m.2],fun _=>rfl,fun m u hu=>by
 simp only [List.mem_cons,List.not_mem_nil,or_false] at hu
 rcases hu with rfl|rfl<;>rfl⟩
abbrev PL (w:World) (A:Option Addr) (L:List Pr):Prop:=RdK PrK w A L
abbrev P3 (w:World) (B:Nat) (A:Option Addr) (c:Nat) (L:List Pr):Prop:=VK PrK w B A c L
abbrev PC (w:World) (A:Option Addr) (c:Nat) (L:List Pr):Prop:=RC PrK w A c L
theorem RdK.pair {w:World} {A:Option Addr} {L:List Pr} (h:PL w A L) {i:Nat} {m:Pr} (hm:L[i]? =some m):∃b o,A=some ⟨b,o,none⟩/\b<w.heap.size/\w.cell? ⟨b,o+i*2,none⟩=some (.string m.1)/\w.cell? ⟨b,o+i*2+1,none⟩=some (.string m.2):=by
 obtain ⟨b,o,e,hl,hc⟩:=h (Nat.lt_of_le_of_lt (Nat.zero_le _) (List.getElem?_eq_some_iff.1 hm).1)
 have h0:=hc i m hm 0 (.string m.1) rfl
 have h1:=hc i m hm 1 (.string m.2) rfl
 exact ⟨b,o,e,hl,by simpa [PrK] using h0,by simpa [PrK,Nat.add_assoc] using h1⟩
theorem RdK.pplace {w:World} {A:Option Addr} {L:List Pr} (h:PL w A L) (h0:0<L.length):∃b o,A=some ⟨b,o,none⟩/\∀(i:Nat) (m:Pr),L[i]? =some m->w.cell? ⟨b,o+i*2,none⟩=some (.string m.1)/\w.cell? ⟨b,o+i*2+1,none⟩=some (.string m.2):=by
 obtain ⟨b,o,e,_,_⟩:=h h0
 subst e
 refine ⟨b,o,rfl,fun i m hm=>?_⟩
 obtain ⟨b',o',e',_,h1⟩:=RdK.pair h hm
 obtain ⟨rfl,rfl⟩:b=b'/\o=o':=by simpa using e'
 exact h1
theorem prinfo:(Tryz.prog.info? 93).map (fun i=>(i.zero,i.size,i.bytes))=some (some (.agg #[.string ⟨#[]⟩, .string ⟨#[]⟩]),2,32):=by kernel_rfl
end Lf
end Go.Proofs.YtjpjjnalpdpljaaGreatDoor
namespace Go.Proofs.YtjpjjnalpdpljaaGreatDoor
namespace Fa
open Lx Bu
abbrev SRi (L:List ByteArray):Prop:=L.Pairwise fun a b=>cmpB a b<0
def SRise (L:List ByteArray):Prop:=∀(i:Nat) (a b:ByteArray),L[i]? =some a->L[i+1]? =some b->cmpB a b<0
theorem srise_iff {L:List ByteArray}:SRise L↔SRi L:=by
 constructor
 . intro h
   induction L with
   |nil=>exact .nil
   |cons x xs ih=>
    have ih:=ih fun i a b ha hb=>h (i+1) a b (by simpa using ha) (by simpa using hb)
    refine List.pairwise_cons.2 ⟨?_,ih⟩
    cases xs with
    |nil=>intro a ha;cases ha
    |cons y ys=>
     have h0:=h 0 x y rfl rfl
     intro a ha
     rcases List.mem_cons.1 ha with rfl|ha
     . exact h0
     . exact cmpB_trans h0 ((List.pairwise_cons.1 ih).1 a ha)
 . intro h i a b ha hb
   obtain ⟨h1,e1⟩:=List.getElem?_eq_some_iff.1 ha
   obtain ⟨h2,e2⟩:=List.getElem?_eq_some_iff.1 hb
   subst e1 e2
   exact List.pairwise_iff_getElem.1 h i (i+1) h1 h2 (by omega)
theorem SRi.at_ {L:List ByteArray} (h:SRi L) {i j:Nat} {x y:ByteArray} (hx:L[i]? =some x) (hy:L[j]? =some y) (hij:i<j):cmpB x y<0:=by
 obtain ⟨h1,e1⟩:=List.getElem?_eq_some_iff.1 hx
 obtain ⟨h2,e2⟩:=List.getElem?_eq_some_iff.1 hy
 subst e1 e2
 exact List.pairwise_iff_getElem.1 h i j h1 h2 hij
def wayS (L:List ByteArray) (key:ByteArray):Nat:=(L.filter fun p=>decide (cmpB p key<=0)).length
theorem SRi.way:∀{L:List ByteArray} {key:ByteArray},SRi L->(∀(i:Nat) (p:ByteArray),i<wayS L key->L[i]? =some p->cmpB p key<=0)/\(∀(i:Nat) (p:ByteArray),wayS L key<=i->L[i]? =some p->0<cmpB p key)
 |[],key,_=>⟨fun i p _ h=>by simp at h,fun i p _ h=>by simp at h⟩
 |x::xs,key,h=>by
  obtain ⟨h1,h2⟩:=List.pairwise_cons.1 h
  obtain ⟨i1,i2⟩:=SRi.way (key:=key) h2
  by_cases hx:cmpB x key<=0
  . have e:wayS (x::xs) key=wayS xs key+1:=by simp [wayS,hx]
    rw [e]
    refine ⟨fun i p hi hp=>?_,fun i p hi hp=>?_⟩
    . cases i with
      |zero=>
       obtain rfl:x=p:=by simpa using hp
       exact hx
      |succ i=>exact i1 i p (by omega) (by simpa using hp)
    . cases i with
      |zero=>omega
      |succ i=>exact i2 i p (by omega) (by simpa using hp)
  . have hall:∀p,p∈xs->0<cmpB p key:=fun p hp=>by
     rcases Int.lt_or_le 0 (cmpB p key) with h3|h3
     . exact h3
     . have h4:=h1 p hp
       have h5:cmpB x key<0:=by
        rcases cmpB_tri p key with h6|h6|h6
        . exact cmpB_trans h4 h6
        . rw [<-h6];exact h4
        . have:=cmpB_neg p key
          omega
       omega
    have e0:wayS xs key=0:=by
     unfold wayS
     rw [List.filter_eq_nil_iff.2 fun p hp=>by
      have:=hall p hp
      simp
      omega]
     rfl
    have e:wayS (x::xs) key=0:=by
     have:wayS (x::xs) key=wayS xs key:=by simp [wayS,hx]
     rw [this,e0]
    rw [e]
    refine ⟨fun i p hi=>by omega,fun i p _ hp=>?_⟩
    cases i with
    |zero=>
     obtain rfl:x=p:=by simpa using hp
     omega
    |succ i=>exact hall p (List.mem_of_getElem? (by simpa using hp))
def RightS (L:List ByteArray) (lo hi:ByteArray) (top:Bool):Prop:=(∀p,p∈L->inB lo hi top p=true/\p≠lo)/\SRise L
theorem inB_iff {lo hi:ByteArray} {top:Bool} {key:ByteArray}:inB lo hi top key=true↔cmpB lo key<=0/\(top=true\/cmpB key hi<0):=by
 cases top<;>simp [inB]
end Fa
end Go.Proofs.YtjpjjnalpdpljaaGreatDoor
namespace Go.Proofs.YtjpjjnalpdpljaaGreatDoor
open Go.RowKit
namespace No
open Mem Lx Bu Lf Fa
structure Nd where
 lv:Int
 kids:List Nat
 piv:List ByteArray
 buf:List Mg
 prs:List Pr
structure At where
 kA:Option Addr
 kc:Nat
 pA:Option Addr
 pc:Nat
 bA:Option Addr
 bc:Nat
 qA:Option Addr
 qc:Nat
def ndCs (n:Nd) (a:At):Array Value:= #[.int .i64 n.lv, .slice a.kA n.kids.length a.kc, .slice a.pA n.piv.length a.pc, .slice a.bA n.buf.length a.bc, .slice a.qA n.prs.length a.qc]
structure NdIn (w:World) (n:Nd) (a:At):Prop where
 kids:KC w a.kA a.kc n.kids
 piv:SC w a.pA a.pc n.piv
 buf:RC MgK w a.bA a.bc n.buf
 prs:PC w a.qA a.qc n.prs
theorem NdIn.kept {w w':World} {n:Nd} {a:At} (h:NdIn w n a) (hb:Below w.heap.size w w'):NdIn w' n a:=⟨h.kids.kept hb,h.piv.kept hb,h.buf.kept hb,h.prs.kept hb⟩
theorem box5 {w:World} {b:Nat} {c0 c1 c2 c3 c4:Value} {U:TypeId} (h:w.heap[b]? =some (.cells #[c0,c1,c2,c3,c4] U (0,0))):w.cell? ⟨b,0,none⟩=some c0/\w.cell? ⟨b,1,none⟩=some c1/\w.cell? ⟨b,2,none⟩=some c2/\w.cell? ⟨b,3,none⟩=some c3/\w.cell? ⟨b,4,none⟩=some c4:=by
 simp [World.cell?,h]
end No
end Go.Proofs.YtjpjjnalpdpljaaGreatDoor
namespace Go.Proofs.YtjpjjnalpdpljaaGreatDoor
open Go.RowKit
namespace No
open Mem Lx Bu
open Lf (Pr PrK PL P3 PC)
open Fa (StK SL SC wayS SRise RightS)
structure Sz (n:Nd):Prop where
 piv:∀p,p∈n.piv->p.size<=maxLen
 buf:∀m,m∈n.buf->m.1.size<=maxLen
 prs:∀m,m∈n.prs->m.1.size<=maxLen
 kl:n.kids.length<=1000
 pl:n.piv.length<=1000
 bl:n.buf.length<=1000
 ql:n.prs.length<=1000
end No
end Go.Proofs.YtjpjjnalpdpljaaGreatDoor
namespace Go.Proofs.YtjpjjnalpdpljaaGreatDoor
open Go.RowKit
namespace Bu
open Mem Lx
def Rise (L:List Mg):Prop:=∀(i:Nat) (a b:Mg),L[i]? =some a->L[i+1]? =some b->cmpB a.1 b.1<0
end Bu
end Go.Proofs.YtjpjjnalpdpljaaGreatDoor
namespace Go.Proofs.YtjpjjnalpdpljaaGreatDoor
open Go.RowKit
namespace Lf
open Mem Lx Bu
def PRise (L:List Pr):Prop:=∀(i:Nat) (a b:Pr),L[i]? =some a->L[i+1]? =some b->cmpB a.1 b.1<0
end Lf
end Go.Proofs.YtjpjjnalpdpljaaGreatDoor
namespace Go.Proofs.YtjpjjnalpdpljaaGreatDoor
open Go.RowKit
namespace No
open Mem Lx Bu Lf Fa
def keyB (c:Cfg) (k:ByteArray):Bool:=decide (1<=(k.size:Int))&&decide ((k.size:Int)<=c.key)
def PrOk (c:Cfg) (lo hi:ByteArray) (top:Bool) (p:Pr):Prop:=keyB c p.1=true/\inB lo hi top p.1=true/\(p.2.size:Int)<=c.val
structure OuterP (c:Cfg) (lo hi:ByteArray) (top:Bool) (n:Nd):Prop where
 each:∀p,p∈n.prs->PrOk c lo hi top p
 kids:n.kids.length=0
 piv:n.piv.length=0
 buf:n.buf.length=0
 few:(n.prs.length:Int)<=c.leaf
 rise:PRise n.prs
def MsOk (c:Cfg) (lo hi:ByteArray) (top:Bool) (m:Mg):Prop:=keyB c m.1=true/\inB lo hi top m.1=true/\(m.2.2.size:Int)<=c.val/\¬(m.2.1=true/\m.2.2≠⟨#[]⟩)
def KidsOk (c:Cfg) (K:List Nat):Prop:=∀(i k:Nat),K[i]? =some k->(k≠0/\(k:Int)<c.blocks)/\∀(j m:Nat),j<i->K[j]? =some m->m≠k
structure InnerP (c:Cfg) (lo hi:ByteArray) (top:Bool) (n:Nd):Prop where
 kids:KidsOk c n.kids
 piv:∀p,p∈n.piv->keyB c p=true
 buf:∀m,m∈n.buf->MsOk c lo hi top m
 lv:n.lv<=40
 prs:n.prs.length=0
 one:1<=n.kids.length
 fan:(n.kids.length:Int)<=c.fan
 fewer:n.piv.length+1=n.kids.length
 right:RightS n.piv lo hi top
 few:(n.buf.length:Int)<=c.buffer
 rise:Bu.Rise n.buf
def RightN (c:Cfg) (lo hi:ByteArray) (top:Bool) (n:Nd):Prop:=(n.lv=0->OuterP c lo hi top n)/\(n.lv≠0->0<n.lv/\InnerP c lo hi top n)
theorem box8 {w:World} {b:Nat} {c0 c1 c2 c3 c4 c5 c6 c7:Value} {U:TypeId} (h:w.heap[b]? =some (.cells #[c0,c1,c2,c3,c4,c5,c6,c7] U (0,0))):w.cell? ⟨b,0,none⟩=some c0/\w.cell? ⟨b,1,none⟩=some c1/\w.cell? ⟨b,2,none⟩=some c2/\w.cell? ⟨b,3,none⟩=some c3/\w.cell? ⟨b,4,none⟩=some c4/\w.cell? ⟨b,5,none⟩=some c5/\w.cell? ⟨b,6,none⟩=some c6/\w.cell? ⟨b,7,none⟩=some c7:=by
 simp [World.cell?,h]
structure B3 (W:World) (g:Nat) (X Y Z:Obj) (w:World):Prop where
 below:Below W.heap.size W w
 at_:W.heap.size<=g
 x:w.heap[g]? =some X
 y:w.heap[g+1]? =some Y
 z:w.heap[g+2]? =some Z
theorem B3.kept {W:World} {g:Nat} {X Y Z:Obj} {w w':World} (h:B3 W g X Y Z w) (hb:Below w.heap.size w w'):B3 W g X Y Z w':=⟨h.below.trans (hb.mono h.below.size),h.at_,kept3 h.x hb,kept3 h.y hb,kept3 h.z hb⟩
theorem B3.new (W:World) (X Y Z:Obj):B3 W W.heap.size X Y Z (((W.alloc X).alloc Y).alloc Z):=by
 have h2:=two_new W X Y
 have hb3:Below ((W.alloc X).alloc Y).heap.size ((W.alloc X).alloc Y) (((W.alloc X).alloc Y).alloc Z):=(Below.refl _ _).alloc (Nat.le_refl _) _
 refine ⟨h2.2.2.trans (hb3.mono h2.2.2.size),Nat.le_refl _,kept3 h2.1 hb3,kept3 h2.2.1 hb3,?_⟩
 have:=heap_alloc_new ((W.alloc X).alloc Y) Z
 simpa using this
end No
end Go.Proofs.YtjpjjnalpdpljaaGreatDoor
namespace Go.Proofs.YtjpjjnalpdpljaaGreatDoor
open Go.RowKit
namespace No
open Mem Lx Bu Lf Fa
open Wd (be val be_length val_be)
def pairL (c:Cfg) (key v:ByteArray):List UInt8:=be 1 key.size++(be 2 v.size++(slotL (txt key) c.key++slotL (txt v) c.val))
def pvL (c:Cfg) (p:ByteArray):List UInt8:=be 1 p.size++slotL (txt p) c.key
def kindB (d:Bool):UInt8:=if d then 2 else 1
def msL (c:Cfg) (m:Mg):List UInt8:=[kindB m.2.1]++pairL c m.1 m.2.2
def leafL (c:Cfg) (n:Nd):List UInt8:=[1,0]++(be 2 n.prs.length++(zs 4++n.prs.flatMap fun x=>pairL c x.1 x.2))
def innL (c:Cfg) (n:Nd):List UInt8:=[2]++(be 1 n.lv.toNat++(be 2 n.kids.length++(be 2 n.buf.length++(zs 2++(n.kids.flatMap (be 4)++(zs (4*(c.fan-n.kids.length))++(n.piv.flatMap (pvL c)++(zs ((1+c.key)*(c.fan-1-n.piv.length))++n.buf.flatMap (msL c)))))))))
def bodyL (c:Cfg) (n:Nd):List UInt8:=if n.lv=0 then leafL c n else innL c n
def blockL (c:Cfg) (n:Nd):List UInt8:=slotL (bodyL c n) c.bytes
def RightA (c:Cfg) (n:Nd):Prop:=Cf.Right c.blocks c.bytes c.frames c.fan c.buffer c.leaf c.key c.val/\RightN c ⟨#[]⟩ ⟨#[]⟩ true n
def prAt (c:Cfg) (b:List UInt8) (i:Nat):Pr:=(strOf (subL b (i+3) (atL b i 1)),strOf (subL b (i+3+c.key.toNat) (atL b (i+1) 2)))
theorem pair_at {c:Cfg} {b R:List UInt8} {i:Nat} {key v:ByteArray} (h:b.drop i=pairL c key v++R) (hk:key.size<256) (hv:v.size<65536) (hk2:(key.size:Int)<=c.key):prAt c b i=(key,v):=by
 unfold pairL at h
 simp only [List.append_assoc] at h
 have h1:=drop_more h (be_length 1 _)
 have h2:=drop_more h1 (be_length 2 _)
 have h3:=drop_more h2 (slotL_len (by rw [txt_len];exact hk2))
 unfold prAt
 rw [at_be h (by omega),at_be h1 (by omega)]
 refine Prod.ext ?_ ?_
 . exact sub_slot h2
 . exact sub_slot h3
def pvAt (b:List UInt8) (i:Nat):ByteArray:=strOf (subL b (i+1) (atL b i 1))
theorem piv_at {c:Cfg} {b R:List UInt8} {i:Nat} {p:ByteArray} (h:b.drop i=pvL c p++R) (hk:p.size<256):pvAt b i=p:=by
 unfold pvL at h
 simp only [List.append_assoc] at h
 have h1:=drop_more h (be_length 1 _)
 unfold pvAt
 rw [at_be h (by omega)]
 exact sub_slot h1
def msAt (c:Cfg) (b:List UInt8) (i:Nat):Mg:=(strOf (subL b (i+4) (atL b (i+1) 1)),decide (atL b i 1=2),strOf (subL b (i+4+c.key.toNat) (atL b (i+2) 2)))
theorem msg_at {c:Cfg} {b R:List UInt8} {i:Nat} {m:Mg} (h:b.drop i=msL c m++R) (hk:m.1.size<256) (hv:m.2.2.size<65536) (hk2:(m.1.size:Int)<=c.key):msAt c b i=m:=by
 unfold msL at h
 simp only [List.append_assoc] at h
 have h1:=drop_more (j:=1) h rfl
 have hp:=pair_at h1 hk hv hk2
 have hd:atL b i 1=(kindB m.2.1).toNat:=by
  unfold atL
  rw [h]
  simp [val]
 obtain ⟨key,d,v⟩:=m
 unfold prAt at hp
 unfold msAt
 simp only [Prod.mk.injEq] at hp ⊢
 rw [hd]
 refine ⟨by rw [show i+4=i+1+3 by omega];exact hp.1,?_,by rw [show i+4+c.key.toNat=i+1+3+c.key.toNat by omega,show i+2=i+1+1 by omega];exact hp.2⟩
 cases d<;>rfl
theorem pairL_len {c:Cfg} {key v:ByteArray} (hk:(key.size:Int)<=c.key) (hv:(v.size:Int)<=c.val):(pairL c key v).length=3+c.key.toNat+c.val.toNat:=by
 unfold pairL
 simp only [List.length_append,be_length]
 rw [slotL_len (by rw [txt_len];exact hk),slotL_len (by rw [txt_len];exact hv)]
 omega
theorem pvL_len {c:Cfg} {p:ByteArray} (hk:(p.size:Int)<=c.key):(pvL c p).length=1+c.key.toNat:=by
 unfold pvL
 simp only [List.length_append,be_length]
 rw [slotL_len (by rw [txt_len];exact hk)]
theorem msL_len {c:Cfg} {m:Mg} (hk:(m.1.size:Int)<=c.key) (hv:(m.2.2.size:Int)<=c.val):(msL c m).length=4+c.key.toNat+c.val.toNat:=by
 unfold msL
 rw [List.length_append,pairL_len hk hv]
 simp
 omega
def manyF (cnt i S len:Nat):Nat:=min cnt ((len-i) / S)
theorem many_all {cnt i S len:Nat} (hS:0<S) (h:i+cnt*S<=len):manyF cnt i S len=cnt:=by
 unfold manyF
 refine Nat.min_eq_left ((Nat.le_div_iff_mul_le hS).2 (by omega))
theorem range_map {α:Type} {L:List α} {g:Nat->α} (h:∀k x,L[k]? =some x->g k=x):(List.range L.length).map g=L:=by
 refine List.ext_getElem? fun k=>?_
 rw [List.getElem?_map]
 rcases Nat.lt_or_ge k L.length with hk|hk
 . rw [List.getElem?_range hk,List.getElem?_eq_getElem hk,Option.map_some,h k _ (List.getElem?_eq_getElem hk)]
 . rw [List.getElem?_eq_none (by simpa using hk),List.getElem?_eq_none hk]
   rfl
def candN (c:Cfg) (b:List UInt8):Nd:=
 if atL b 1 1=0 then ⟨0,[],[],[],(List.range (manyF (atL b 2 2) 8 (3+c.key.toNat+c.val.toNat) b.length)).map fun k=>prAt c b (8+k*(3+c.key.toNat+c.val.toNat))⟩
 else ⟨atL b 1 1,(List.range (min (atL b 2 2) c.fan.toNat)).map fun k=>atL b (8+k*4) 4,(List.range (min (atL b 2 2-1) (c.fan.toNat-1))).map fun k=>pvAt b (8+4*c.fan.toNat+k*(1+c.key.toNat)),
  (List.range (manyF (atL b 4 2) (8+4*c.fan.toNat+(1+c.key.toNat)*(c.fan.toNat-1)) (4+c.key.toNat+c.val.toNat) b.length)).map fun k=>msAt c b (8+4*c.fan.toNat+(1+c.key.toNat)*(c.fan.toNat-1)+k*(4+c.key.toNat+c.val.toNat)),[]⟩
end No
end Go.Proofs.YtjpjjnalpdpljaaGreatDoor
namespace Go.Proofs.YtjpjjnalpdpljaaGreatDoor
open Go.RowKit
namespace No
open Mem Lx Bu Lf Fa
open Wd (be val be_length val_be isW u8info)
def wrCs (c:Cfg) (v:Value):Array Value:= #[.int .i64 c.blocks, .int .i64 c.bytes, .int .i64 c.frames, .int .i64 c.fan, .int .i64 c.buffer, .int .i64 c.leaf, .int .i64 c.key, .int .i64 c.val,v]
abbrev Kw (B:Nat) (w w':World):Prop:=Kp 5 196 B w w'
structure Wr (c:Cfg) (B:Nat) (w:World) (g:Nat) (xs:List UInt8):Prop where
 at_:B<=g
 ex:∃v,w.heap[g]? =some (.cells (wrCs c v) 196 (0,0))/\Own 5 w B v xs
section
variable {c:Cfg} {B g:Nat} {w w' w1:World} {xs ys:List UInt8} {v v':Value}
theorem Wr.lt (h:Wr c B w g xs):g<w.heap.size:=by
 obtain ⟨v,h1,-⟩:=h.ex
 exact (Array.getElem?_eq_some_iff.1 h1).1
theorem Wr.hB (h:Wr c B w g xs):B<=w.heap.size:=Nat.le_trans h.at_ (Nat.le_of_lt h.lt)
theorem Wr.kept (h:Wr c B w g xs) (hb:Below w.heap.size w w'):Wr c B w' g xs:=by
 obtain ⟨v,h1,h2⟩:=h.ex
 exact ⟨h.at_,v,kept3 h1 hb,h2.kept hb⟩
theorem wr_grown (h1:w.heap[g]? =some (.cells (wrCs c v) 196 (0,0))) (h2:Own 5 w B v xs) (hg:w.grownBy w1 v.ownBlock):w1.heap[g]? =some (.cells (wrCs c v) 196 (0,0)):=
 (hg.block g (Array.getElem?_eq_some_iff.1 h1).1 fun e=>by
   obtain ⟨-,C,hc⟩:=h2.row g e.symm
   rw [h1] at hc
   simp only [Option.some.injEq,Obj.cells.injEq] at hc
   exact absurd hc.2.1 (by decide)).trans h1
theorem wr_app (hat:B<=g) (h1:w.heap[g]? =some (.cells (wrCs c v) 196 (0,0))) (h2:Own 5 w B v xs) (hg:w.grownBy w1 v.ownBlock) (h3:Own 5 w1 B v' ys):Wr c B (w1.setCell ⟨g,8,none⟩ v') g ys/\Kw B w (w1.setCell ⟨g,8,none⟩ v'):=by
 have hB:=Nat.le_trans hat (Nat.le_of_lt (Array.getElem?_eq_some_iff.1 h1).1)
 have hx:=wr_grown h1 h2 hg
 exact ⟨⟨hat,v',by simp [World.setCell,Array.getElem?_modify,hx,wrCs],h3.set_other hx (by decide) _⟩,(h2.grown hg hB).set hat hx (.inr rfl) _⟩
theorem wr_cells (h1:w.heap[g]? =some (.cells (wrCs c v) 196 (0,0))):w.cell? ⟨g,8,none⟩=some v/\w.cell? ⟨g,3,none⟩=some (.int .i64 c.fan)/\w.cell? ⟨g,6,none⟩=some (.int .i64 c.key)/\w.cell? ⟨g,7,none⟩=some (.int .i64 c.val)/\w.frozen? ⟨g,8,none⟩=false:=by
 simp [World.cell?,World.frozen?,h1,wrCs]
end
theorem WZeros_any (c:Cfg) {B:Nat} {w:World} {g:Nat} {xs:List UInt8} (h:Wr c B w g xs) (n:Nat) (hx:xs.length+n<=1048576):Calls Tryz.prog 156 #[.pointer (some ⟨g,0,none⟩), .int .i64 (n:Int)] w fun e w'=>e= .returned (.tuple #[])/\Wr c B w' g (xs++List.replicate n 0)/\Kw B w w':=by
 obtain ⟨v,h1,h2⟩:=h.ex
 have hat:=h.at_
 have hB:=h.hB
 have HX:=Lib.hid h1
 have HO:=Lib.hid h2
 obtain ⟨c8,-,-,-,f8⟩:=wr_cells h1
 clear h h1 h2
 go_enter Tryz.func156,Tryz.ntmps156
 go_wp2_with (refine wpList_append_zeros rfl (.tmp 8) (.tmp 9) 72 3 9 rfl B 5 Tryz.underlying72 Tryz.underlying3 Tryz.underlying9 u8info v xs rfl HO.out n rfl hx hB ?_;intro v' w1 HO1 hg;obtain ⟨A',m',c',rfl⟩:=Own.sl HO1.out;have HA:=Lib.hid (wr_app hat HX.out HO.out hg HO1.out);obtain ⟨c8',-,-,-,f8'⟩:=wr_cells (wr_grown HX.out HO.out hg);clear hg c8 f8)
 go_end0
 exact ⟨rfl,HA.out⟩
def EvBl (n:Nat) (l:List UInt8) (v:Value) (w:World):Prop:=∃A c,v= .slice A n c/\BL w A l
theorem WNum_any (c:Cfg) {B:Nat} {w:World} {g:Nat} {xs:List UInt8} (h:Wr c B w g xs) (wd v:Nat) (hw:isW (wd:Int)=true) (hv:v<9223372036854775808) (hx:xs.length<=1048000):Calls Tryz.prog 179 #[.pointer (some ⟨g,0,none⟩), .int .i64 (wd:Int), .int .i64 (v:Int)] w fun e w'=>e= .returned (.tuple #[])/\Wr c B w' g (xs++be wd v)/\Kw B w w':=by
 obtain ⟨u,h1,h2⟩:=h.ex
 have hat:=h.at_
 have hB:=h.hB
 have HX:=Lib.hid h1
 have HO:=Lib.hid h2
 obtain ⟨c8,-,-,-,-⟩:=wr_cells h1
 have hwd:wd<=8:=by have:=Wd.isW_cases hw;omega
 have cP:∀W,Hid (Calls Tryz.prog 202 #[.slice none 0 0, .int .i64 (wd:Int), .int .u64 (v:Int)] W fun e w'=>(∃A k,e= .returned (.slice A wd k)/\BL w' A (be wd v))/\Below W.heap.size W w'):=fun W=>by
  refine (Wd.Put_width none 0 [] wd v W (BL.nil _ _) (by simp) hw (by omega)).mono ?_
  rintro e w' ⟨rfl,hr,hb⟩
  rw [List.nil_append] at hr
  rw [List.length_nil,Nat.zero_add]
  exact ⟨⟨_,_,rfl,hr.bl⟩,hb⟩
 have hu:IntKind.u64.wrap (v:Int)=(v:Int):=by rw [IntKind.wrap_u64];omega
 have hsz:xs.length+wd<=140737488355328:=by omega
 have HL:Hid ((be wd v).length=wd):=be_length _ _
 have td:=fun q:Drift.Tide [] w []=>Drift.Tide.cell c8 (by simp) q
 clear h h1 h2 hw hv hx hwd c8
 go_enter Tryz.func179,Tryz.ntmps179
 refine Drift.wp_region_drift_late [] [(0,[]),(1,[]),(2,[]),(3,[]),(4,[]),(5,[]),(6,[]),(7,[]),(8,[])] [8] [] [0] (by kernel_rfl) (by kernel_rfl) (by simp) ?_
 simp only [Drift.pick,Drift.opsAt,List.getElem?_toArray,List.getElem?_cons_zero,List.getElem?_cons_succ,List.cons_append,List.nil_append,List.filterMap_nil]
 refine Drift.walk_clear rfl (.pointer (some ⟨g,0,none⟩)) (fun W=>by go_simp) ?_
 repeat (refine Drift.walk_step (fun K hK=>?_);go_simp;(refine hK _ ?_;clear hK K))
 refine Drift.walk_event rfl Drift.mkwalk_nil (EvBl wd (be wd v)) (fun W2 hk _=>?_) (fun y w2 hv hI _ hTd=>?_)
 . go_simp
   go_at_call 202
   refine (cP _).out.mono ?_
   rintro e w' ⟨⟨A,k,rfl,hbl⟩,hb⟩
   exact ⟨_,rfl,⟨_,_,rfl,hbl⟩,Flow.Into.of_below hb⟩
 obtain ⟨A,k,rfl,hbl⟩:=hv
 refine Drift.walk_nil ?_
 intro w6 hb6 _
 have hb:Below w.heap.size w w6:=hI.below.trans (hb6.mono hI.below.size)
 have HK:Hid (Kw B w w6):=Kp.of_below hb hB
 have HBL:=Lib.hid (hbl.below hb6)
 replace HX:=Lib.hid (kept3 HX.out hb)
 replace HO:=Lib.hid (HO.out.kept hb)
 have hB6:B<=w6.heap.size:=Nat.le_trans hB hb.size
 clear hb hb6 hI hTd hbl td cP hu hB
 simp only [List.length_cons,List.length_nil,List.drop_succ_cons,List.drop_zero,Nat.zero_add,Nat.reduceAdd]
 go_wp2_with (refine wpList_append_bytes rfl (.tmp 10) (.tmp 14) 72 rfl B 5 Tryz.underlying72 u8info u xs rfl HO.out A wd k (be wd v) rfl HL.out HBL.out hsz hB6 ?_;intro v' w1 HO1 hg _;obtain ⟨A',m',c',rfl⟩:=Own.sl HO1.out;have HA:=Lib.hid (wr_app hat HX.out HO.out hg HO1.out);obtain ⟨c8',-,-,-,f8'⟩:=wr_cells (wr_grown HX.out HO.out hg);clear hg)
 rw [Flow.Nrm_normal]
 go_end0
 exact ⟨rfl,HA.out.1,HK.out.trans HA.out.2⟩
theorem WText_any (c:Cfg) {B:Nat} {w:World} {g:Nat} {xs:List UInt8} (h:Wr c B w g xs) (s:ByteArray) (most:Nat) (hs:s.size<=most) (hx:xs.length+most<=1048000):Calls Tryz.prog 180 #[.pointer (some ⟨g,0,none⟩), .string s, .int .i64 (most:Int)] w fun e w'=>e= .returned (.tuple #[])/\Wr c B w' g (xs++slotL (txt s) most)/\Kw B w w':=by
 obtain ⟨u,h1,h2⟩:=h.ex
 have hat:=h.at_
 have hB:=h.hB
 have HX:=Lib.hid h1
 have HO:=Lib.hid h2
 obtain ⟨c8,-,-,-,-⟩:=wr_cells h1
 obtain ⟨d,hd⟩:∃d,d=most-s.size:=⟨_,rfl⟩
 have hsl:slotL (txt s) most=txt s++List.replicate d 0:=by
  unfold slotL zs
  rw [txt_len,hd]
  congr 2
  omega
 have hsz:xs.length+s.size<=1048576:=by omega
 have hz:(xs++txt s).length+d<=1048576:=by
  rw [List.length_append,txt_len]
  omega
 have hsub:IntKind.i64.wrap ((most:Int)-(s.size:Int))=(d:Int):=by
  rw [IntKind.wrap_i64]
  omega
 rw [hsl,<-List.append_assoc]
 clear h h1 h2 hs hsl hd hx
 go_enter Tryz.func180,Tryz.ntmps180
 go_upto_region 1 with (refine wpList_append_text rfl (.tmp 10) (.tmp 11) 72 9 rfl B 5 Tryz.underlying72 Tryz.underlying9 u8info u xs rfl HO.out s rfl hsz hB ?_;intro v' w1 HO1 hg;obtain ⟨A',m',c',rfl⟩:=Own.sl HO1.out;have HA:=Lib.hid (wr_app hat HX.out HO.out hg HO1.out);obtain ⟨c8',-,-,-,f8'⟩:=wr_cells (wr_grown HX.out HO.out hg);clear hg c8)
 clear HO1 c8' f8'
 generalize w1.setCell ⟨g,8,none⟩ (.slice A' m' c')=w2 at*
 have HW:Hid (Wr c B w2 g (xs++txt s)):=HA.out.1
 go_wp2_with (go_at_call 156;refine (WZeros_any c HW.out d hz).mono ?_;rintro e w3 ⟨rfl,hw,hk⟩;have HW3:=Lib.hid hw;have HK3:=Lib.hid (HA.out.2.trans hk);clear hw hk)
 go_end0
 exact ⟨rfl,HW3.out,HK3.out⟩
theorem NodeMark_any (lv:Nat) (w:World):Calls Tryz.prog 138 #[.int .i64 (lv:Int)] w fun e w'=>e= .returned (.int .i64 (((if lv=0 then 1 else 2:Nat)):Int))/\w=w':=by
 by_cases h:lv=0
 . subst h
   go_enter Tryz.func138,Tryz.ntmps138
   go_wp2
   go_ret
   exact ⟨rfl,rfl⟩
 . have HR:Hid ((if lv=0 then 1 else 2:Nat)=2):=if_neg h
   have h1:((lv:Int)==0)=false:=by simp;omega
   rw [HR.out]
   clear h HR
   go_enter Tryz.func138,Tryz.ntmps138
   go_wp2
   go_ret
   exact ⟨rfl,rfl⟩
theorem MsgMark_any (d:Bool) (w:World):Calls Tryz.prog 171 #[.bool d] w fun e w'=>e= .returned (.int .i64 ((kindB d).toNat:Int))/\w=w':=by
 cases d
 all_goals
  go_enter Tryz.func171,Tryz.ntmps171
  go_wp2
  go_ret
  exact ⟨rfl,rfl⟩
theorem WTop_any (c:Cfg) {B:Nat} {w:World} {g:Nat} {xs:List UInt8} (h:Wr c B w g xs) (lv np nm:Nat) (hx:xs.length<=1000) (h1:lv<9223372036854775808) (h2:np<9223372036854775808) (h3:nm<9223372036854775808):Calls Tryz.prog 151 #[.pointer (some ⟨g,0,none⟩), .int .i64 (lv:Int), .int .i64 (np:Int), .int .i64 (nm:Int)] w fun e w'=>e= .returned (.tuple #[])/\Wr c B w' g (xs++(be 1 (if lv=0 then 1 else 2)++(be 1 lv++(be 2 np++(be 2 nm++zs 2)))))/\Kw B w w':=by
 have c0:=fun w=>Lib.hid (NodeMark_any lv w)
 obtain ⟨mk,hmk⟩:∃mk,mk=(if lv=0 then 1 else 2:Nat):=⟨_,rfl⟩
 have hm9:mk<9223372036854775808:=by
  rw [hmk]
  split<;>omega
 rw [<-hmk] at c0 ⊢
 clear hmk
 have cN1:∀(w:World) (xs:List UInt8) (v:Nat),Wr c B w g xs->v<9223372036854775808->xs.length<=1048000->Hid (Calls Tryz.prog 179 #[.pointer (some ⟨g,0,none⟩), .int .i64 1, .int .i64 (v:Int)] w fun e w'=>e= .returned (.tuple #[])/\Wr c B w' g (xs++be 1 v)/\Kw B w w'):=fun w xs v h hv hx=>WNum_any c h 1 v rfl hv hx
 have cN2:∀(w:World) (xs:List UInt8) (v:Nat),Wr c B w g xs->v<9223372036854775808->xs.length<=1048000->Hid (Calls Tryz.prog 179 #[.pointer (some ⟨g,0,none⟩), .int .i64 2, .int .i64 (v:Int)] w fun e w'=>e= .returned (.tuple #[])/\Wr c B w' g (xs++be 2 v)/\Kw B w w'):=fun w xs v h hv hx=>WNum_any c h 2 v rfl hv hx
 have cZ:∀(w:World) (xs:List UInt8),Wr c B w g xs->xs.length<=1048000->Hid (Calls Tryz.prog 156 #[.pointer (some ⟨g,0,none⟩), .int .i64 2] w fun e w'=>e= .returned (.tuple #[])/\Wr c B w' g (xs++zs 2)/\Kw B w w'):=fun w xs h hx=>WZeros_any c h 2 (by omega)
 have H1:=Lib.hid h1
 have H2:=Lib.hid h2
 have H3:=Lib.hid h3
 have HM:=Lib.hid hm9
 have HW:=Lib.hid h
 have HX:=Lib.hid hx
 clear h h1 h2 h3 hm9 hx
 go_enter Tryz.func151,Tryz.ntmps151
 go_upto_region 1 with (first
  |(go_at_call 138;refine (c0 _).out.mono ?_;rintro e w' ⟨rfl,rfl⟩)
  |(go_at_call 179;refine (cN1 _ _ mk HW.out HM.out (by have:=HX.out;omega)).out.mono ?_;rintro e w1 ⟨rfl,hw,hk⟩;have HW1:=Lib.hid hw;have HK1:=Lib.hid hk;clear hw hk))
 go_upto_region 2 with (go_at_call 179;refine (cN1 _ _ lv HW1.out H1.out (by have:=HX.out;simp only [List.length_append,be_length];omega)).out.mono ?_;rintro e w2 ⟨rfl,hw,hk⟩;have HW2:=Lib.hid hw;have HK2:=Lib.hid (HK1.out.trans hk);clear hw hk HW1 HK1)
 go_upto_region 3 with (go_at_call 179;refine (cN2 _ _ np HW2.out H2.out (by have:=HX.out;simp only [List.length_append,be_length];omega)).out.mono ?_;rintro e w3 ⟨rfl,hw,hk⟩;have HW3:=Lib.hid hw;have HK3:=Lib.hid (HK2.out.trans hk);clear hw hk HW2 HK2)
 go_upto_region 4 with (go_at_call 179;refine (cN2 _ _ nm HW3.out H3.out (by have:=HX.out;simp only [List.length_append,be_length];omega)).out.mono ?_;rintro e w4 ⟨rfl,hw,hk⟩;have HW4:=Lib.hid hw;have HK4:=Lib.hid (HK3.out.trans hk);clear hw hk HW3 HK3)
 go_wp2_with (go_at_call 156;refine (cZ _ _ HW4.out (by have:=HX.out;simp only [List.length_append,be_length];omega)).out.mono ?_;rintro e w5 ⟨rfl,hw,hk⟩;have HW5:=Lib.hid hw;have HK5:=Lib.hid (HK4.out.trans hk);clear hw hk HW4 HK4)
 go_end0
 refine ⟨rfl,?_,HK5.out⟩
 have:=HW5.out
 simp only [List.append_assoc] at this
 exact this
end No
end Go.Proofs.YtjpjjnalpdpljaaGreatDoor
namespace Go.Proofs.YtjpjjnalpdpljaaGreatDoor
open Go.RowKit
namespace No
open Mem Lx Bu Lf Fa
open Wd (be val be_length val_be)
variable {c:Cfg} {n:Nd}
theorem keyB_le {k:ByteArray} (h:keyB c k=true):1<=k.size/\(k.size:Int)<=c.key:=by
 unfold keyB at h
 simp only [Bool.and_eq_true,decide_eq_true_eq] at h
 omega
section
variable {F B L K V:Nat}
theorem leaf_len (hs:SetOk c F B L K V) (h:OuterP c ⟨#[]⟩ ⟨#[]⟩ true n):(leafL c n).length=8+n.prs.length*(3+K+V)/\n.prs.length<=L:=by
 have hc:∀x∈n.prs,(pairL c x.1 x.2).length=3+K+V:=fun x hx=>by
  obtain ⟨h1,-,h3⟩:=h.each x hx
  rw [pairL_len (keyB_le h1).2 h3,hs.key,hs.val]
  rfl
 have:=h.few
 have:=hs.leaf
 refine ⟨?_,by omega⟩
 unfold leafL
 simp only [List.length_append,be_length,zs_len,chunk_len hc]
 simp
 omega
theorem mul_up {a b s:Nat} (h:a<=b):a*s<=b*s:=Nat.mul_le_mul_right s h
theorem leaf_cand (hs:SetOk c F B L K V) (h:OuterP c ⟨#[]⟩ ⟨#[]⟩ true n) (h0:n.lv=0):(blockL c n).length=c.bytes.toNat/\candN c (blockL c n)=n:=by
 have hc:∀x∈n.prs,(pairL c x.1 x.2).length=3+K+V:=fun x hx=>by
  obtain ⟨h1,-,h3⟩:=h.each x hx
  rw [pairL_len (keyB_le h1).2 h3,hs.key,hs.val]
  rfl
 obtain ⟨hl1,hl2⟩:=leaf_len hs h
 have hm:=mul_up (s:=3+K+V) hl2
 have ho:=hs.out
 have hb1:=hs.bytes
 have e0:blockL c n=slotL (leafL c n) c.bytes:=by
  unfold blockL bodyL
  rw [if_pos h0]
 have hlen:(blockL c n).length=c.bytes.toNat:=by
  rw [e0]
  refine slotL_len ?_
  rw [hl1]
  generalize n.prs.length*(3+K+V)=X at*
  generalize L*(3+K+V)=Y at*
  omega
 refine ⟨hlen,?_⟩
 obtain ⟨Z,eb⟩:∃Z,blockL c n=[1,0]++(be 2 n.prs.length++(zs 4++((n.prs.flatMap fun x=>pairL c x.1 x.2)++Z))):=by
  refine ⟨zs (c.bytes-(leafL c n).length),?_⟩
  rw [e0]
  unfold slotL
  generalize zs (c.bytes-(leafL c n).length)=Z
  unfold leafL
  simp only [List.append_assoc]
 have d1:atL (blockL c n) 1 1=0:=by
  unfold atL
  rw [eb]
  rfl
 have d2:atL (blockL c n) 2 2=n.prs.length:=at_be (R:=zs 4++((n.prs.flatMap fun x=>pairL c x.1 x.2)++Z)) (by rw [eb];exact List.drop_left' rfl) (by have:=hs.l;omega)
 have ek:c.key.toNat=K:=by rw [hs.key];rfl
 have ev:c.val.toNat=V:=by rw [hs.val];rfl
 unfold candN
 rw [if_pos d1,d2,ek,ev,hlen,many_all (by omega) (by
  generalize n.prs.length*(3+K+V)=X at*
  generalize L*(3+K+V)=Y at*
  omega)]
 obtain ⟨lv,Ks,P,Bu,Q⟩:=n
 obtain rfl:lv=0:=h0
 obtain rfl:Ks=[]:=List.eq_nil_of_length_eq_zero h.kids
 obtain rfl:P=[]:=List.eq_nil_of_length_eq_zero h.piv
 obtain rfl:Bu=[]:=List.eq_nil_of_length_eq_zero h.buf
 congr 1
 refine range_map fun k x hx=>?_
 obtain ⟨h1,-,h3⟩:=h.each x (List.mem_of_getElem? hx)
 have h1':=keyB_le h1
 have hk:=hs.key
 have hv:=hs.val
 have hk2:=hs.k
 have hv2:=hs.v
 obtain ⟨R,hR⟩:=chunk_at hc ([1,0]++(be 2 Q.length++zs 4)) Z (a:=8) (by simp [zs_len]) hx
 refine pair_at (R:=R) ?_ (by omega) (by omega) h1'.2
 rw [eb]
 simp only [List.append_assoc] at hR ⊢
 exact hR
theorem inner_len (hs:SetOk c F B L K V) (h:InnerP c ⟨#[]⟩ ⟨#[]⟩ true n):(n.kids.flatMap (be 4)).length=n.kids.length*4/\(n.piv.flatMap (pvL c)).length=n.piv.length*(1+K)/\(n.buf.flatMap (msL c)).length=n.buf.length*(4+K+V)/\(innL c n).length=8+4*F+(1+K)*(F-1)+n.buf.length*(4+K+V)/\n.buf.length<=B:=by
 have hk:(n.kids.flatMap (be 4)).length=n.kids.length*4:=chunk_len fun x _=>be_length 4 x
 have hp:(n.piv.flatMap (pvL c)).length=n.piv.length*(1+K):=chunk_len fun x hx=>by
  rw [pvL_len (keyB_le (h.piv x hx)).2,hs.key]
  rfl
 have hm:(n.buf.flatMap (msL c)).length=n.buf.length*(4+K+V):=chunk_len fun x hx=>by
  obtain ⟨h1,-,h3,-⟩:=h.buf x hx
  rw [msL_len (keyB_le h1).2 h3,hs.key,hs.val]
  rfl
 have h1:=h.fan
 have h2:=h.fewer
 have h3:=h.few
 have h4:=hs.fan
 have h5:=hs.buffer
 have h6:=hs.f
 refine ⟨hk,hp,hm,?_,by omega⟩
 unfold innL
 simp only [List.length_append,be_length,zs_len,hk,hp,hm,List.length_cons,List.length_nil,hs.fan,hs.key]
 have e1:(4*((F:Int)-n.kids.length)).toNat=4*F-n.kids.length*4:=by omega
 have e2:((1+(K:Int))*((F:Int)-1-n.piv.length)).toNat=(1+K)*(F-1)-n.piv.length*(1+K):=by
  obtain ⟨r,hr⟩:∃r:Nat,F-1=n.piv.length+r:=⟨F-1-n.piv.length,by omega⟩
  have e3:((F:Int)-1-n.piv.length)=(r:Int):=by omega
  rw [e3,hr,Nat.mul_add,Nat.mul_comm (1+K) n.piv.length,Nat.add_sub_cancel_left]
  have e4:(1+(K:Int))*(r:Int)=(((1+K)*r:Nat):Int):=by
   rw [Int.natCast_mul]
   rfl
  rw [e4]
  rfl
 have e5:n.piv.length*(1+K)<=(1+K)*(F-1):=by
  rw [Nat.mul_comm (1+K)]
  exact mul_up (by omega)
 rw [e1,e2]
 generalize n.piv.length*(1+K)=X at*
 generalize (1+K)*(F-1)=Y at*
 generalize n.buf.length*(4+K+V)=Z at*
 omega
theorem inner_cand (hs:SetOk c F B L K V) (h:InnerP c ⟨#[]⟩ ⟨#[]⟩ true n) (h0:0<n.lv):(blockL c n).length=c.bytes.toNat/\candN c (blockL c n)=n:=by
 obtain ⟨hl1,hl2,hl3,hl4,hl5⟩:=inner_len hs h
 have hm:=mul_up (s:=4+K+V) hl5
 have hi:=hs.inn
 have hb1:=hs.bytes
 have hlv:=h.lv
 have h1:=h.fan
 have h2:=h.fewer
 have h3:=h.one
 have h4:=hs.fan
 have h6:=hs.f
 have h7:=hs.b
 have hk:=hs.key
 have hv:=hs.val
 have hk2:=hs.k
 have hv2:=hs.v
 have e0:blockL c n=slotL (innL c n) c.bytes:=by
  unfold blockL bodyL
  rw [if_neg (by omega)]
 have hlen:(blockL c n).length=c.bytes.toNat:=by
  rw [e0]
  refine slotL_len ?_
  rw [hl4]
  generalize n.buf.length*(4+K+V)=X at*
  generalize B*(4+K+V)=Y at*
  generalize (1+K)*(F-1)=U at*
  omega
 refine ⟨hlen,?_⟩
 obtain ⟨Z1,hz1,e1⟩:∃Z1:List UInt8,Z1.length+n.kids.length*4=4*F/\zs (4*(c.fan-n.kids.length))=Z1:=⟨_,by rw [zs_len,hs.fan];omega,rfl⟩
 obtain ⟨Z2,hz2,e2⟩:∃Z2:List UInt8,n.piv.length*(1+K)+Z2.length=(1+K)*(F-1)/\zs ((1+c.key)*(c.fan-1-n.piv.length))=Z2:=by
  refine ⟨_,?_,rfl⟩
  rw [zs_len,hs.fan,hs.key]
  obtain ⟨r,hr⟩:∃r:Nat,F-1=n.piv.length+r:=⟨F-1-n.piv.length,by omega⟩
  have e3:((F:Int)-1-n.piv.length)=(r:Int):=by omega
  have e4:(1+(K:Int))*(r:Int)=(((1+K)*r:Nat):Int):=by
   rw [Int.natCast_mul]
   rfl
  rw [e3,e4,hr,Nat.mul_add (1+K),Nat.mul_comm (1+K) n.piv.length]
  rfl
 obtain ⟨Z,eb⟩:∃Z,blockL c n=[2]++(be 1 n.lv.toNat++(be 2 n.kids.length++(be 2 n.buf.length++(zs 2++(n.kids.flatMap (be 4)++(Z1++(n.piv.flatMap (pvL c)++(Z2++(n.buf.flatMap (msL c)++Z))))))))):=by
  refine ⟨zs (c.bytes-(innL c n).length),?_⟩
  rw [e0]
  unfold slotL
  generalize zs (c.bytes-(innL c n).length)=Z
  unfold innL
  rw [e1,e2]
  simp only [List.append_assoc]
 clear e1 e2
 have d0:=drop_more (b:=blockL c n) (i:=0) (j:=1) (X:=[2]) eb rfl
 have d1:=drop_more d0 (be_length 1 _)
 have d2:=drop_more d1 (be_length 2 _)
 have d3:=drop_more d2 (be_length 2 _)
 have d4:=drop_more (j:=2) d3 rfl
 have a1:atL (blockL c n) 1 1=n.lv.toNat:=at_be d0 (by omega)
 have a2:atL (blockL c n) 2 2=n.kids.length:=at_be d1 (by omega)
 have a3:atL (blockL c n) 4 2=n.buf.length:=at_be d2 (by omega)
 have ek:c.key.toNat=K:=by rw [hs.key];rfl
 have ev:c.val.toNat=V:=by rw [hs.val];rfl
 have ef:c.fan.toNat=F:=by rw [hs.fan];rfl
 have em:manyF n.buf.length (8+4*F+(1+K)*(F-1)) (4+K+V) c.bytes.toNat=n.buf.length:=many_all (by omega) (by
  generalize n.buf.length*(4+K+V)=X at*
  generalize B*(4+K+V)=Y at*
  generalize (1+K)*(F-1)=U at*
  omega)
 have hkid:∀k∈n.kids,k<65536:=fun k hk=>by
  obtain ⟨i,hi⟩:=List.mem_iff_getElem?.1 hk
  have:=(h.kids i k hi).1.2
  have:=hs.blocks
  omega
 unfold candN
 rw [if_neg (by rw [a1];omega),a1,a2,a3,ek,ev,ef,hlen,em]
 rw [Nat.min_eq_left (show n.kids.length<=F by omega),Nat.min_eq_left (show n.kids.length-1<=F-1 by omega),show n.kids.length-1=n.piv.length by omega]
 have r1:((List.range n.kids.length).map fun k=>atL (blockL c n) (8+k*4) 4)=n.kids:=range_map fun k x hx=>by
  obtain ⟨R,hR⟩:=chunk_at (f:=be 4) (S:=4) (fun x _=>be_length 4 x) ([2]++(be 1 n.lv.toNat++(be 2 n.kids.length++(be 2 n.buf.length++zs 2)))) (Z1++(n.piv.flatMap (pvL c)++(Z2++(n.buf.flatMap (msL c)++Z)))) (a:=8) (by simp [zs_len]) hx
  have hx2:=hkid x (List.mem_of_getElem? hx)
  refine at_be (R:=R) ?_ (by omega)
  rw [eb]
  simp only [List.append_assoc] at hR ⊢
  exact hR
 have r2:((List.range n.piv.length).map fun k=>pvAt (blockL c n) (8+4*F+k*(1+K)))=n.piv:=range_map fun k x hx=>by
  obtain ⟨R,hR⟩:=chunk_at (f:=pvL c) (S:=1+K) (fun x hx=>by rw [pvL_len (keyB_le (h.piv x hx)).2,ek]) ([2]++(be 1 n.lv.toNat++(be 2 n.kids.length++(be 2 n.buf.length++(zs 2++(n.kids.flatMap (be 4)++Z1)))))) (Z2++(n.buf.flatMap (msL c)++Z)) (a:=8+4*F) (by simp only [List.length_append,be_length,zs_len,hl1,List.length_cons,List.length_nil];omega) hx
  have hx2:=keyB_le (h.piv x (List.mem_of_getElem? hx))
  refine piv_at (c:=c) (R:=R) ?_ (by omega)
  rw [eb]
  simp only [List.append_assoc] at hR ⊢
  exact hR
 have r3:((List.range n.buf.length).map fun k=>msAt c (blockL c n) (8+4*F+(1+K)*(F-1)+k*(4+K+V)))=n.buf:=range_map fun k x hx=>by
  obtain ⟨R,hR⟩:=chunk_at (f:=msL c) (S:=4+K+V) (fun x hx=>by
   obtain ⟨h1,-,h3,-⟩:=h.buf x hx
   rw [msL_len (keyB_le h1).2 h3,ek,ev]) ([2]++(be 1 n.lv.toNat++(be 2 n.kids.length++(be 2 n.buf.length++(zs 2++(n.kids.flatMap (be 4)++(Z1++(n.piv.flatMap (pvL c)++Z2)))))))) Z (a:=8+4*F+(1+K)*(F-1)) (by
    simp only [List.length_append,be_length,zs_len,hl1,hl2,List.length_cons,List.length_nil]
    generalize n.piv.length*(1+K)=X at*
    generalize (1+K)*(F-1)=U at*
    omega) hx
  obtain ⟨h8,-,h9,-⟩:=h.buf x (List.mem_of_getElem? hx)
  have h8':=keyB_le h8
  refine msg_at (R:=R) ?_ (by omega) (by omega) h8'.2
  rw [eb]
  simp only [List.append_assoc] at hR ⊢
  exact hR
 rw [r1,r2,r3]
 obtain ⟨lv,Ks,P,Bu,Q⟩:=n
 obtain rfl:Q=[]:=List.eq_nil_of_length_eq_zero h.prs
 simp only at h0 ⊢
 congr 1
 omega
end
theorem block_cand (h:RightA c n):(blockL c n).length=c.bytes.toNat/\candN c (blockL c n)=n:=by
 obtain ⟨F,B,L,K,V,hs⟩:=set_ok h.1
 by_cases e:n.lv=0
 . exact leaf_cand hs (h.2.1 e) e
 . exact inner_cand hs (h.2.2 e).2 (h.2.2 e).1
theorem block_inj {m:Nd} (h:RightA c n) (h':RightA c m) (e:blockL c n=blockL c m):n=m:=by
 rw [<-(block_cand h).2,e,(block_cand h').2]
def ReadN (c:Cfg) (b:List UInt8) (r:Option Nd):Prop:=∀n,r=some n↔RightA c n/\blockL c n=b
theorem ReadN.one {b:List UInt8} {r s:Option Nd} (h:ReadN c b r) (h':ReadN c b s):r=s:=by
 cases r with
 |none=>
  cases s with
  |none=>rfl
  |some m=>exact (h m).2 ((h' m).1 rfl)
 |some n=>exact ((h' n).2 ((h n).1 rfl)).symm
end No
end Go.Proofs.YtjpjjnalpdpljaaGreatDoor
namespace Go.Proofs.YtjpjjnalpdpljaaGreatDoor
open Go.RowKit Go.WideShapes Go.ChangeShapes
namespace Bu
open Mem
theorem open_msgs_t {H:Type} {enc:TypeId × Value->H} {W:World} {v:Value} {d:DataW H} {p:List MemPlace} {fuel:Nat} (h:DataW.trod enc Tryz.prog W 0 (fun _=>true) true fuel 40 [v]=some (d,p)):
 ∃(A:Option Addr) (L:List Mg) (c:Nat),v= .slice A L.length c/\RC MgK W A c L/\L.length<=c/\c<=maxLen:=by
 obtain ⟨A,len,c,rfl,hl,hm,hc⟩:=Args.open_structs_t Tryz.underlying40 Tryz.underlying91 (by kernel_rfl) (by kernel_rfl) (by decide) h
 by_cases h0:0<len
 . obtain ⟨b,o,rfl,hcell⟩:=hc h0
   have each:∀i,i<len->∃m:Mg,W.cell? ⟨b,o+(i*3+0),none⟩=some (.string m.1)/\W.cell? ⟨b,o+(i*3+1),none⟩=some (.bool m.2.1)/\W.cell? ⟨b,o+(i*3+2),none⟩=some (.string m.2.2):=by
    intro i hi
    obtain ⟨u0,y0,n0,h0,k0,-⟩:=hcell i hi 0 _ rfl
    obtain ⟨u1,y1,n1,h1,k1,-⟩:=hcell i hi 1 _ rfl
    obtain ⟨u2,y2,n2,h2,k2,-⟩:=hcell i hi 2 _ rfl
    obtain ⟨s0,e0,_,_⟩:=DataW.trod_string Tryz.underlying9 k0
    obtain ⟨s1,e1,_⟩:=DataW.trod_bool Tryz.underlying4 k1
    obtain ⟨s2,e2,_,_⟩:=DataW.trod_string Tryz.underlying9 k2
    obtain rfl:u0=_:=by simpa using e0
    obtain rfl:u1=_:=by simpa using e1
    obtain rfl:u2=_:=by simpa using e2
    exact ⟨(s0,s1,s2),h0,h1,h2⟩
   have each':∀i,∃m:Mg,i<len->W.cell? ⟨b,o+(i*3+0),none⟩=some (.string m.1)/\W.cell? ⟨b,o+(i*3+1),none⟩=some (.bool m.2.1)/\W.cell? ⟨b,o+(i*3+2),none⟩=some (.string m.2.2):=fun i=>by
    by_cases hi:i<len
    . obtain ⟨m,hm⟩:=each i hi
      exact ⟨m,fun _=>hm⟩
    . exact ⟨zeroM,fun h=>absurd h hi⟩
   let F:=fun i=>Classical.choose (each' i)
   have hF:∀i,i<len->W.cell? ⟨b,o+(i*3+0),none⟩=some (.string (F i).1)/\W.cell? ⟨b,o+(i*3+1),none⟩=some (.bool (F i).2.1)/\W.cell? ⟨b,o+(i*3+2),none⟩=some (.string (F i).2.2):=fun i=>Classical.choose_spec (each' i)
   have hb:b<W.heap.size:=by
    have:=(hF 0 h0).1
    rcases Nat.lt_or_ge b W.heap.size with h'|h'
    . exact h'
    . simp [World.cell?,Array.getElem?_eq_none h'] at this
   refine ⟨some ⟨b,o,none⟩,(List.range len).map F,c,by simp,⟨fun _=>⟨b,o,rfl,hb,fun i x hx j u hu=>?_⟩,by simpa using hl⟩,by simpa using hl,hm⟩
   obtain ⟨hi,hx⟩:=List.getElem?_eq_some_iff.1 hx
   have hi':i<len:=by simpa using hi
   obtain rfl:F i=x:=by simpa using hx
   obtain ⟨e0,e1,e2⟩:=hF i hi'
   match j,hu with
   |0,hu=>
    obtain rfl:Value.string (F i).1=u:=by simpa [MgK] using hu
    exact e0
   |1,hu=>
    obtain rfl:Value.bool (F i).2.1=u:=by simpa [MgK] using hu
    exact e1
   |2,hu=>
    obtain rfl:Value.string (F i).2.2=u:=by simpa [MgK] using hu
    exact e2
   |j+3,hu=>simp [MgK] at hu
 . obtain rfl:len=0:=by omega
   exact ⟨A,[],c,rfl,⟨fun h=>absurd h (by simp),Nat.zero_le _⟩,Nat.zero_le _,hm⟩
end Bu
end Go.Proofs.YtjpjjnalpdpljaaGreatDoor
