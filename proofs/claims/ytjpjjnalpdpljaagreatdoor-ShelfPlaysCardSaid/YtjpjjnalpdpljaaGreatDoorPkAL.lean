import Derived.Test.YtjpjjnalpdpljaaGreatDoorPkAK
import Derived.Test.YtjpjjnalpdpljaaGreatDoorPkAD
import Derived.Test.YtjpjjnalpdpljaaGreatDoorPqDrift
import Derived.Test.YtjpjjnalpdpljaaGreatDoorPkAC
import Derived.Test.YtjpjjnalpdpljaaGreatDoorProg
import Derived.Test.YtjpjjnalpdpljaaGreatDoorPkAB
set_option maxHeartbeats 2000000
set_option maxRecDepth 100000
namespace Go.Proofs.YtjpjjnalpdpljaaGreatDoor
open Go.RowKit
open Go.Lib (hid)
open ah (dL tc)
open List (drop_nil)
namespace Cf
theorem pq (b y fr fa bu le ke va:Int) (W:World) (h:Right b y fr fa bu le ke va):CB 61 #[.agg #[b,y,fr,fa,bu,le,ke,va]] W (.int .i64 0):=by
 obtain ⟨h,⟨a1,a2⟩,⟨a3,a4⟩,a5,a6⟩:=h;have cS:=fun W=>hid (dO b y fr fa bu le ke va W h);have cL:=fun W=>hid (uR b y fr fa bu le ke va W h);clear h;generalize few fa bu le ke va=fw at*;have hfd:∀w:World,(Instr.field 23 (.agg #[b,fw,fr,fa,bu,le,ke,va]) 1).run Tryz.prog w= .ok (.int .i64 fw) w:=fun _=>by kernel_rfl
 go_enter Tryz.func61,Tryz.ntmps61
 go_upto_region 1 with fail
 have hx:=heap_alloc_new W (.cells #[b,y,fr,fa,bu,le,ke,va] 23);have hb1:Bw W (W.alloc (.cells #[b,y,fr,fa,bu,le,ke,va] 23)):=bAx;obtain ⟨g,hg⟩:∃g,g=W.heap.size:=⟨_,rfl⟩
 generalize W.alloc (.cells #[b,y,fr,fa,bu,le,ke,va] 23)=w1 at*;rw [<-hg] at hx ⊢;have HX:=hid hx;have HB:=hid hb1;obtain ⟨c0,c1,c2,c3,c4,c5,c6,c7⟩:=aT hx;clear hx hb1 hg;have z0:=tc c0;have z1:=tc c1;have z2:=tc c2;have z3:=tc c3;have z4:=tc c4;have z5:=tc c5;have z6:=tc c6;have z7:=tc c7;clear c0 c1 c2 c3 c4 c5 c6 c7;refine ah.aj [] [(0,[]),(1,[]),(2,[]),(3,[]),(4,[]),(5,[]),(6,[]),(7,[]),(8,[]),(9,[]),(10,[]),(11,[]),(12,[]),(13,[]),(14,[]),(15,[]),(16,[]),(17,[]),(18,[]),(19,[])] [] [] (by kernel_rfl) (by kernel_rfl) (by simp) ?_;simp only [ah.pick,ah.aO,dL]
 repeat (refine ah.ak (fun K hK=>?_);go_simp;first|(refine hK _ ?_;clear hK K)|(apply Exists.intro;refine ⟨fun q=>?_,hK _ ?_⟩;(first|(go_at_call 97;exact (cS _).out)|(go_at_call 99;exact (cL _).out)|(go_at_call 98;exact bX _ _ _ _ (by omega) (by omega))|(go_at_call 98;exact dH _ _ _ _ (by omega)));clear hK K))
 refine ah.walk_nil ?_;intro w2 hb _;replace HB:=hid (jX HB.out hb);clear hb z0 z1 z2 z3 z4 z5 z6 z7 HX cS cL hfd;simp only [lC,drop_nil,Nat.zero_add,Nat.reduceAdd]
 go_wp2
 go_ret
 exact ⟨rfl,HB.out⟩
theorem yZ (b y fr fa bu le ke va:Int) (W:World) (h:¬Right b y fr fa bu le ke va):CB 61 #[.agg #[b,y,fr,fa,bu,le,ke,va]] W (.int .i64 2):=by
 by_cases hs:Shape fa bu le ke va
 case neg=>
  have cS:=fun W=>hid (wZ b y fr fa bu le ke va W hs);clear h hs;go_enter Tryz.func61,Tryz.ntmps61
  go_upto_region 1 with fail
  have hx:=heap_alloc_new W (.cells #[b,y,fr,fa,bu,le,ke,va] 23);have hb1:Bw W (W.alloc (.cells #[b,y,fr,fa,bu,le,ke,va] 23)):=bAx;obtain ⟨g,hg⟩:∃g,g=W.heap.size:=⟨_,rfl⟩
  generalize W.alloc (.cells #[b,y,fr,fa,bu,le,ke,va] 23)=w1 at*;rw [<-hg] at hx ⊢;have HX:=hid hx;have HB:=hid hb1;obtain ⟨c0,c1,c2,c3,c4,c5,c6,c7⟩:=aT hx;clear hx hb1 hg;have z0:=tc c0;have z1:=tc c1;have z2:=tc c2;have z3:=tc c3;have z4:=tc c4;have z5:=tc c5;have z6:=tc c6;have z7:=tc c7;clear c0 c1 c2 c3 c4 c5 c6 c7;refine ah.aj [] [(0,[]),(1,[]),(2,[]),(3,[]),(4,[]),(5,[]),(6,[]),(7,[]),(8,[]),(9,[]),(10,[]),(11,[]),(12,[]),(13,[]),(14,[]),(15,[]),(16,[]),(17,[]),(18,[]),(19,[])] [] [] (by kernel_rfl) (by kernel_rfl) (by simp) ?_;simp only [ah.pick,ah.aO,dL]
  repeat (refine ah.ak (fun K hK=>?_);go_simp;first|(refine hK _ ?_;clear hK K)|(apply Exists.intro;refine ⟨fun q=>?_,hK _ ?_⟩;(first|(go_at_call 97;exact (cS _).out));clear hK K))
  refine ah.walk_nil ?_;intro w2 hb _;replace HB:=hid (jX HB.out hb);clear hb z0 z1 z2 z3 z4 z5 z6 z7 HX cS;simp only [lC,drop_nil,Nat.zero_add,Nat.reduceAdd]
  go_wp2
  go_ret
  exact ⟨rfl,HB.out⟩
 by_cases n1:5<=b/\b<=65536
 case neg=>
  have cS:=fun W=>hid (dO b y fr fa bu le ke va W hs);clear h hs;go_enter Tryz.func61,Tryz.ntmps61
  go_upto_region 1 with fail
  have hx:=heap_alloc_new W (.cells #[b,y,fr,fa,bu,le,ke,va] 23);have hb1:Bw W (W.alloc (.cells #[b,y,fr,fa,bu,le,ke,va] 23)):=bAx;obtain ⟨g,hg⟩:∃g,g=W.heap.size:=⟨_,rfl⟩
  generalize W.alloc (.cells #[b,y,fr,fa,bu,le,ke,va] 23)=w1 at*;rw [<-hg] at hx ⊢;have HX:=hid hx;have HB:=hid hb1;obtain ⟨c0,c1,c2,c3,c4,c5,c6,c7⟩:=aT hx;clear hx hb1 hg;have z0:=tc c0;have z1:=tc c1;have z2:=tc c2;have z3:=tc c3;have z4:=tc c4;have z5:=tc c5;have z6:=tc c6;have z7:=tc c7;clear c0 c1 c2 c3 c4 c5 c6 c7;refine ah.aj [] [(0,[]),(1,[]),(2,[]),(3,[]),(4,[]),(5,[]),(6,[]),(7,[]),(8,[]),(9,[]),(10,[]),(11,[]),(12,[]),(13,[]),(14,[]),(15,[]),(16,[]),(17,[]),(18,[]),(19,[])] [] [] (by kernel_rfl) (by kernel_rfl) (by simp) ?_;simp only [ah.pick,ah.aO,dL]
  repeat (refine ah.ak (fun K hK=>?_);go_simp;first|(refine hK _ ?_;clear hK K)|(apply Exists.intro;refine ⟨fun q=>?_,hK _ ?_⟩;(first|(go_at_call 97;exact (cS _).out)|(go_at_call 98;exact bX _ _ _ _ (by omega) (by omega))|(go_at_call 98;exact dH _ _ _ _ (by omega)));clear hK K))
  refine ah.walk_nil ?_;intro w2 hb _;replace HB:=hid (jX HB.out hb);clear hb z0 z1 z2 z3 z4 z5 z6 z7 HX cS;simp only [lC,drop_nil,Nat.zero_add,Nat.reduceAdd]
  go_wp2
  go_ret
  exact ⟨rfl,HB.out⟩
 by_cases n2:8<=fr/\fr<=64
 case neg=>
  have cS:=fun W=>hid (dO b y fr fa bu le ke va W hs);obtain ⟨a1,a2⟩:=n1;clear h hs;go_enter Tryz.func61,Tryz.ntmps61
  go_upto_region 1 with fail
  have hx:=heap_alloc_new W (.cells #[b,y,fr,fa,bu,le,ke,va] 23);have hb1:Bw W (W.alloc (.cells #[b,y,fr,fa,bu,le,ke,va] 23)):=bAx;obtain ⟨g,hg⟩:∃g,g=W.heap.size:=⟨_,rfl⟩
  generalize W.alloc (.cells #[b,y,fr,fa,bu,le,ke,va] 23)=w1 at*;rw [<-hg] at hx ⊢;have HX:=hid hx;have HB:=hid hb1;obtain ⟨c0,c1,c2,c3,c4,c5,c6,c7⟩:=aT hx;clear hx hb1 hg;have z0:=tc c0;have z1:=tc c1;have z2:=tc c2;have z3:=tc c3;have z4:=tc c4;have z5:=tc c5;have z6:=tc c6;have z7:=tc c7;clear c0 c1 c2 c3 c4 c5 c6 c7;refine ah.aj [] [(0,[]),(1,[]),(2,[]),(3,[]),(4,[]),(5,[]),(6,[]),(7,[]),(8,[]),(9,[]),(10,[]),(11,[]),(12,[]),(13,[]),(14,[]),(15,[]),(16,[]),(17,[]),(18,[]),(19,[])] [] [] (by kernel_rfl) (by kernel_rfl) (by simp) ?_;simp only [ah.pick,ah.aO,dL]
  repeat (refine ah.ak (fun K hK=>?_);go_simp;first|(refine hK _ ?_;clear hK K)|(apply Exists.intro;refine ⟨fun q=>?_,hK _ ?_⟩;(first|(go_at_call 97;exact (cS _).out)|(go_at_call 98;exact bX _ _ _ _ (by omega) (by omega))|(go_at_call 98;exact dH _ _ _ _ (by omega)));clear hK K))
  refine ah.walk_nil ?_;intro w2 hb _;replace HB:=hid (jX HB.out hb);clear hb z0 z1 z2 z3 z4 z5 z6 z7 HX cS;simp only [lC,drop_nil,Nat.zero_add,Nat.reduceAdd]
  go_wp2
  go_ret
  exact ⟨rfl,HB.out⟩
 have n3:¬(few fa bu le ke va<=y/\y<=65536):=fun n3=>h ⟨hs,n1,n2,n3⟩;clear h;obtain ⟨a1,a2⟩:=n1;obtain ⟨a3,a4⟩:=n2;have h:=hs;clear hs;have cS:=fun W=>hid (dO b y fr fa bu le ke va W h);have cL:=fun W=>hid (uR b y fr fa bu le ke va W h);clear h;generalize few fa bu le ke va=fw at*;have hfd:∀w:World,(Instr.field 23 (.agg #[b,fw,fr,fa,bu,le,ke,va]) 1).run Tryz.prog w= .ok (.int .i64 fw) w:=fun _=>by kernel_rfl
 go_enter Tryz.func61,Tryz.ntmps61
 go_upto_region 1 with fail
 have hx:=heap_alloc_new W (.cells #[b,y,fr,fa,bu,le,ke,va] 23);have hb1:Bw W (W.alloc (.cells #[b,y,fr,fa,bu,le,ke,va] 23)):=bAx;obtain ⟨g,hg⟩:∃g,g=W.heap.size:=⟨_,rfl⟩
 generalize W.alloc (.cells #[b,y,fr,fa,bu,le,ke,va] 23)=w1 at*;rw [<-hg] at hx ⊢;have HX:=hid hx;have HB:=hid hb1;obtain ⟨c0,c1,c2,c3,c4,c5,c6,c7⟩:=aT hx;clear hx hb1 hg;have z0:=tc c0;have z1:=tc c1;have z2:=tc c2;have z3:=tc c3;have z4:=tc c4;have z5:=tc c5;have z6:=tc c6;have z7:=tc c7;clear c0 c1 c2 c3 c4 c5 c6 c7;refine ah.aj [] [(0,[]),(1,[]),(2,[]),(3,[]),(4,[]),(5,[]),(6,[]),(7,[]),(8,[]),(9,[]),(10,[]),(11,[]),(12,[]),(13,[]),(14,[]),(15,[]),(16,[]),(17,[]),(18,[]),(19,[])] [] [] (by kernel_rfl) (by kernel_rfl) (by simp) ?_;simp only [ah.pick,ah.aO,dL]
 repeat (refine ah.ak (fun K hK=>?_);go_simp;first|(refine hK _ ?_;clear hK K)|(apply Exists.intro;refine ⟨fun q=>?_,hK _ ?_⟩;(first|(go_at_call 97;exact (cS _).out)|(go_at_call 99;exact (cL _).out)|(go_at_call 98;exact bX _ _ _ _ (by omega) (by omega))|(go_at_call 98;exact dH _ _ _ _ (by omega)));clear hK K))
 refine ah.walk_nil ?_;intro w2 hb _;replace HB:=hid (jX HB.out hb);clear hb z0 z1 z2 z3 z4 z5 z6 z7 HX cS cL hfd;simp only [lC,drop_nil,Nat.zero_add,Nat.reduceAdd]
 go_wp2
 go_ret
 exact ⟨rfl,HB.out⟩
end Cf
end Go.Proofs.YtjpjjnalpdpljaaGreatDoor
namespace Go.Proofs.YtjpjjnalpdpljaaGreatDoor
open Go.RowKit
namespace Bu
open Mem
theorem fG {a b:ByteArray}:(a.toList==b.toList)=decide (a=b):=by
 by_cases h:a=b
 . subst h;simp
 . have:a.toList≠b.toList:=fun e=>h (by
    rw [ByteArray.toList_eq,ByteArray.toList_eq] at e;obtain ⟨⟨x⟩⟩:=a;obtain ⟨⟨y⟩⟩:=b;simp at e
    rw [e])
   rw [decide_eq_false h];simpa using this
theorem Oc {a b:Bool} (h:a=b):Ending.returned (.bool a)=.returned (.bool b):=by rw [h]
theorem bR {w:World} {b:Nat} {v0 v1 v2:Value} {U:TypeId} (h:w.heap[b]? =some (.cells #[v0,v1,v2] U (0,0))):w.cell? ⟨b,0,none⟩=some v0/\w.cell? ⟨b,1,none⟩=some v1/\w.cell? ⟨b,2,none⟩=some v2:=by
 simp [World.cell?,h]
theorem au {w:World} {b:Nat} {C:Array Value} {U:TypeId} (h:w.heap[b]? =some (.cells C U (0,0))) (i:Nat):w.frozen? ⟨b,i,none⟩=false:=by
 simp [World.frozen?,h]
def Kl (w:World) (b:Nat) (v0 v1 v2:Value):World:=((w.setCell ⟨b,0,none⟩ v0).setCell ⟨b,1,none⟩ v1).setCell ⟨b,2,none⟩ v2
theorem Km {w:World} {b:Nat} {u0 u1 u2:Value} {U:TypeId} (h:w.heap[b]? =some (.cells #[u0,u1,u2] U (0,0))) (v0 v1 v2:Value):(Kl w b v0 v1 v2).heap[b]? =some (.cells #[v0,v1,v2] U (0,0)):=by
 unfold Kl;simp [World.setCell,Array.getElem?_modify,h]
theorem aC {w w':World} {b:Nat} {o:Obj} (h:w.heap[b]? =some o) (hb:Bw w w'):w'.heap[b]? =some o:=(hb.block b (Array.getElem?_eq_some_iff.1 h).1).trans h
theorem BH {W w w':World} (h:Bw W w) (hb:Bw w w'):Bw W w':=h.trans (hb.mono h.size)
theorem bU (p:Prop):∃r:Bool,r=true↔p:=⟨@decide p (Classical.propDecidable p),by simp⟩
theorem dA {v r:Bool} {p:Prop} (h:v=true↔p) (k:r=true↔p):v=r:=by
 cases v<;>cases r<;>simp_all
theorem aR (W:World) (X Y:Obj):((W.alloc X).alloc Y).heap[W.heap.size]? =some X/\((W.alloc X).alloc Y).heap[W.heap.size+1]? =some Y/\Bw W ((W.alloc X).alloc Y):=by
 have hb:Bw W (W.alloc X):=bAx;have hb2:Below (W.alloc X).heap.size (W.alloc X) ((W.alloc X).alloc Y):=bAx;refine ⟨aC (heap_alloc_new W X) hb2,?_,hb.trans (hb2.mono hb.size)⟩;have:=heap_alloc_new (W.alloc X) Y;simpa using this
theorem aQ {w:World} {b k:Nat} {i:Nat} (v:Value) (hk:k≠b):(w.setCell ⟨b,i,none⟩ v).heap[k]? =w.heap[k]? :=Below.heap_setCell _ _ _ _ hk
end Bu
end Go.Proofs.YtjpjjnalpdpljaaGreatDoor
namespace Go.Proofs.YtjpjjnalpdpljaaGreatDoor
open Go.RowKit
namespace No
variable {c:Cfg}
structure lD (c:Cfg) (F B L K V:Nat):Prop where
 fan:c.fan=F
 buffer:c.buffer=B
 leaf:c.leaf=L
 key:c.key=K
 val:c.val=V
 f:8<=F/\F<=64
 b:B<=512
 l:L<=1024
 k:1<=K/\K<=64
 v:V<=256
 inn:((8+4*F+(1+K)*(F-1)+B*(4+K+V):Nat):Int)<=c.bytes
 out:((8+L*(3+K+V):Nat):Int)<=c.bytes
 bytes:64<=c.bytes/\c.bytes<=65536
 blocks:c.blocks<=65536
theorem uS (h:Cf.Right c.blocks c.bytes c.frames c.fan c.buffer c.leaf c.key c.val):∃F B L K V,lD c F B L K V:=by
 obtain ⟨hs,⟨hb1,hb2⟩,hf,hy1,hy2⟩:=h;have hs':=hs;unfold Cf.Shape at hs';obtain ⟨⟨f1,f2⟩,⟨u1,u2⟩,⟨l1,l2⟩,⟨k1,k2⟩,⟨v1,v2⟩⟩:=hs';obtain ⟨F,hF⟩:∃F:Nat,c.fan=F:=⟨c.fan.toNat,by omega⟩
 obtain ⟨B,hB⟩:∃B:Nat,c.buffer=B:=⟨c.buffer.toNat,by omega⟩
 obtain ⟨L,hL⟩:∃L:Nat,c.leaf=L:=⟨c.leaf.toNat,by omega⟩
 obtain ⟨K,hK⟩:∃K:Nat,c.key=K:=⟨c.key.toNat,by omega⟩
 obtain ⟨V,hV⟩:∃V:Nat,c.val=V:=⟨c.val.toNat,by omega⟩
 refine ⟨F,B,L,K,V,hF,hB,hL,hK,hV,by omega,by omega,by omega,by omega,by omega,?_,?_,?_,hb2⟩
 . have h1:Cf.inn c.fan c.buffer c.key c.val<=c.bytes:=by
    unfold Cf.few at hy1;omega
   unfold Cf.inn at h1;rw [hF,hB,hK,hV] at h1;obtain ⟨G,rfl⟩:∃G,F=G+1:=⟨F-1,by omega⟩
   have e1:(G+1:Nat)-1=G:=rfl;have e2:((G+1:Nat):Int)-1=G:=(by omega);rw [e2] at h1;rw [e1];have e3:((1+K)*G:Nat)=G*(1+K):=Nat.mul_comm _ _;rw [e3]
   push_cast at h1 ⊢
   omega
 . have h1:Cf.out c.leaf c.key c.val<=c.bytes:=by
    unfold Cf.few at hy1;omega
   unfold Cf.out at h1;rw [hL,hK,hV] at h1
   push_cast at h1 ⊢
   omega
 . unfold Cf.few at hy1
   omega
end No
end Go.Proofs.YtjpjjnalpdpljaaGreatDoor
set_option maxHeartbeats 2000000
set_option maxRecDepth 100000
namespace Go.Proofs.YtjpjjnalpdpljaaGreatDoor
open Go.RowKit
open Go.Lib (hid)
namespace Cf
def runs (a s:Int) (k:Nat):Int:=a+(k:Int)*s
theorem uT (a s:Int) (k:Nat):runs a s (k+1)=runs a s k+s:=by
 unfold runs;rw [Int.natCast_add,Int.add_mul];simp;omega
theorem DI {a s S A:Int} {k n:Nat} (h0:0<=a) (h1:a<=A) (h2:0<=s) (h3:s<=S) (hk:k<=n):0<=runs a s k/\runs a s k<=A+(n:Int)*S:=by
 obtain ⟨p0,p1⟩:=uP (a:=(k:Int)) (c:=s) (A:=(n:Int)) (C:=S) (by omega) (by omega) h2 h3;unfold runs;omega
def kids (ke:Int) (k:Nat):Int:=8+4*(k:Int)+((k-1:Nat):Int)*(1+ke)
theorem DJ (ke:Int) (k:Nat):kids ke (k+1)=kids ke k+4+(if k=0 then 0 else 1+ke):=by
 unfold kids;by_cases h:k=0
 . subst h
   simp
 . obtain ⟨j,rfl⟩:∃j,k=j+1:=⟨k-1,by omega⟩
   rw [if_neg h];have e1:j+1+1-1=j+1:=rfl;have e2:j+1-1=j:=rfl;rw [e1,e2];have e3:((j+1:Nat):Int)*(1+ke)=(j:Int)*(1+ke)+(1+ke):=(by rw [Int.natCast_add,Int.add_mul];simp);rw [e3];omega
theorem Kn {ke:Int} {k:Nat} (h1:1<=ke) (h2:ke<=64) (hk:k<=64):0<=kids ke k/\kids ke k<=5000:=by
 obtain ⟨p0,p1⟩:=uP (a:=((k-1:Nat):Int)) (c:=1+ke) (A:=64) (C:=65) (by omega) (by omega) (by omega) (by omega);unfold kids;omega
theorem mH (b y fr fa bu le ke va:Int) (W:World) (h:Shape fa bu le ke va):CB 70 #[.agg #[b,y,fr,fa,bu,le,ke,va]] W (.int .i64 (out le ke va)):=by
 have cS:=fun W=>hid (gq b y fr fa bu le ke va W h);obtain ⟨⟨h1,h1'⟩,⟨h2,h2'⟩,⟨h3,h3'⟩,⟨h4,h4'⟩,h5,h5'⟩:=h;obtain ⟨n,rfl⟩:∃n:Nat,le=n:=⟨le.toNat,by omega⟩
 have HO:Hid (out n ke va=runs 8 (3+ke+va) n):=rfl;have HS:Hid (∀k,runs 8 (3+ke+va) (k+1)=runs 8 (3+ke+va) k+(3+ke+va)):=uT _ _
 have HI:Hid (∀k,k<=n->0<=runs 8 (3+ke+va) k/\runs 8 (3+ke+va) k<=400000):=fun k hk=>by
  obtain ⟨i0,i1⟩:=DI (a:=8) (s:=3+ke+va) (S:=323) (A:=8) (k:=k) (n:=n) (by omega) (by omega) (by omega) (by omega) hk;omega
 have HZ:Hid (runs 8 (3+ke+va) 0=8):=by unfold Hid runs;simp
 obtain ⟨S,hS⟩:∃S,S=runs 8 (3+ke+va):=⟨_,rfl⟩
 rw [<-hS] at HO HS HI HZ;clear hS;go_enter Tryz.func70,Tryz.ntmps70
 go_upto_region 1 with fail
 have hx:=heap_alloc_new W (.cells #[b,y,fr,fa,bu,(n:Int),ke,va] 23);have hb1:Bw W (W.alloc (.cells #[b,y,fr,fa,bu,(n:Int),ke,va] 23)):=bAx;obtain ⟨g,hg⟩:∃g,g=W.heap.size:=⟨_,rfl⟩
 generalize W.alloc (.cells #[b,y,fr,fa,bu,(n:Int),ke,va] 23)=w1 at*;rw [<-hg] at hx ⊢;have HX:=hid hx;have HB:=hid hb1;obtain ⟨c0,c1,c2,c3,c4,c5,c6,c7⟩:=aT hx;clear hx hb1 hg;go_upto_region 3 with (go_at_call 67;refine (cS _).out.mono ?_;rintro e w2 ⟨rfl,hb⟩;replace HX:=hid (ig HX.out hb);replace HB:=hid (jX HB.out hb);clear hb)
 clear c0 c1 c2 c3 c4 c5 c6 c7 cS;obtain ⟨c0,c1,c2,c3,c4,c5,c6,c7⟩:=aT HX.out;go_wp2_with fail
 go_loopg [3,4] n (fun gk nv iv wr=>∃k:Nat,k<=n/\gk=n-k/\nv= .int .i64 (S k)/\iv= .int .i64 (k:Int)/\wr=w2)
 case atStart=>exact ⟨0,Nat.zero_le _,rfl,by rw [HZ.out],rfl,rfl⟩
 case round=>
  obtain ⟨k,hk,rfl,rfl,rfl,rfl⟩:=hrel;obtain ⟨i0,i1⟩:=HI.out k hk;by_cases hlt:k<n
  . obtain ⟨j0,j1⟩:=HI.out (k+1) hlt
    have hs:=HS.out k;have HN:Hid (S (k+1)=S k+3+ke+va):=(by unfold Hid;omega);rw [hs] at j0 j1;have hwk:IntKind.i64.wrap ((k:Int)+1)=((k+1:Nat):Int):=(by rw [IntKind.wrap_i64];omega);clear hs;generalize S k=x at*;go_wp2_with fail
    go_roundg (n-(k+1))
    case measure=>omega
    case rel=>exact ⟨k+1,hlt,rfl,by rw [HN.out],by go_num,rfl⟩
  . obtain rfl:k=n:=by omega
    clear hlt;go_wp2_with fail
    go_ret
    exact ⟨by rw [HO.out];rfl,HB.out⟩
theorem mI (b y fr fa bu le ke va:Int) (W:World) (h:Shape fa bu le ke va):CB 69 #[.agg #[b,y,fr,fa,bu,le,ke,va]] W (.int .i64 (inn fa bu ke va)):=by
 have cS:=fun W=>hid (gq b y fr fa bu le ke va W h);obtain ⟨⟨h1,h1'⟩,⟨h2,h2'⟩,⟨h3,h3'⟩,⟨h4,h4'⟩,h5,h5'⟩:=h;obtain ⟨n,rfl⟩:∃n:Nat,fa=n:=⟨fa.toNat,by omega⟩
 obtain ⟨m,rfl⟩:∃m:Nat,bu=m:=⟨bu.toNat,by omega⟩
 have Sg:n<=64:=by omega
 have Rt:m<=512:=by omega
 have HO:Hid (inn n m ke va=runs (kids ke n) (4+ke+va) m):=by
  unfold Hid inn runs kids;have:((n-1:Nat):Int)=(n:Int)-1:=by omega
  rw [this]
 have HK:Hid (∀k,kids ke (k+1)=kids ke k+4+(if k=0 then 0 else 1+ke)):=DJ ke;have HKI:Hid (∀k,k<=n->0<=kids ke k/\kids ke k<=5000):=fun k hk=>Kn (by omega) (by omega) (by omega);have HKZ:Hid (kids ke 0=8):=by unfold Hid kids;simp
 have HS:Hid (∀k,runs (kids ke n) (4+ke+va) (k+1)=runs (kids ke n) (4+ke+va) k+(4+ke+va)):=uT _ _
 have HI:Hid (∀k,k<=m->0<=runs (kids ke n) (4+ke+va) k/\runs (kids ke n) (4+ke+va) k<=400000):=fun k hk=>by
  obtain ⟨q0,q1⟩:=HKI.out n (Nat.le_refl _);obtain ⟨i0,i1⟩:=DI (a:=kids ke n) (s:=4+ke+va) (S:=324) (A:=5000) (k:=k) (n:=m) q0 q1 (by omega) (by omega) hk;omega
 have HZ:Hid (runs (kids ke n) (4+ke+va) 0=kids ke n):=by unfold Hid runs;simp
 obtain ⟨S,hS⟩:∃S,S=runs (kids ke n) (4+ke+va):=⟨_,rfl⟩
 rw [<-hS] at HO HS HI HZ;obtain ⟨T,hT⟩:∃T,T=kids ke:=⟨_,rfl⟩
 rw [<-hT] at HK HKI HKZ HZ;clear hS hT;go_enter Tryz.func69,Tryz.ntmps69
 go_upto_region 1 with fail
 have hx:=heap_alloc_new W (.cells #[b,y,fr,(n:Int),(m:Int),le,ke,va] 23);have hb1:Bw W (W.alloc (.cells #[b,y,fr,(n:Int),(m:Int),le,ke,va] 23)):=bAx;obtain ⟨g,hg⟩:∃g,g=W.heap.size:=⟨_,rfl⟩
 generalize W.alloc (.cells #[b,y,fr,(n:Int),(m:Int),le,ke,va] 23)=w1 at*;rw [<-hg] at hx ⊢;have HX:=hid hx;have HB:=hid hb1;obtain ⟨c0,c1,c2,c3,c4,c5,c6,c7⟩:=aT hx;clear hx hb1 hg;go_upto_region 3 with (go_at_call 67;refine (cS _).out.mono ?_;rintro e w2 ⟨rfl,hb⟩;replace HX:=hid (ig HX.out hb);replace HB:=hid (jX HB.out hb);clear hb)
 clear c0 c1 c2 c3 c4 c5 c6 c7 cS;obtain ⟨c0,c1,c2,c3,c4,c5,c6,c7⟩:=aT HX.out;go_wp2_with fail
 go_loopg [3,4] n (fun gk nv iv wr=>∃k:Nat,k<=n/\gk=n-k/\nv= .int .i64 (T k)/\iv= .int .i64 (k:Int)/\wr=w2)
 case atStart=>exact ⟨0,Nat.zero_le _,rfl,by rw [HKZ.out],rfl,rfl⟩
 case round=>
  obtain ⟨k,hk,rfl,rfl,rfl,rfl⟩:=hrel;obtain ⟨i0,i1⟩:=HKI.out k hk;by_cases hlt:k<n
  . have hs:=HK.out k
    have hwk:IntKind.i64.wrap ((k:Int)+1)=((k+1:Nat):Int):=(by rw [IntKind.wrap_i64];omega);by_cases hk0:k=0
    . subst hk0
      rw [if_pos rfl] at hs;have HN:Hid (T (0+1)=T 0+4):=(by unfold Hid;omega);have hd:decide ((0:Int)<((0:Nat):Int))=false:=(by simp);clear hs;generalize T 0=x at*;go_wp2_with fail
      go_roundg (n-(0+1))
      case measure=>omega
      case rel=>exact ⟨0+1,hlt,rfl,by rw [HN.out],by go_num,rfl⟩
    . rw [if_neg hk0] at hs
      have HN:Hid (T (k+1)=T k+4+1+ke):=(by unfold Hid;omega);have hpos:0<k:=(by omega);clear hs;generalize T k=x at*;go_wp2_with fail
      go_roundg (n-(k+1))
      case measure=>omega
      case rel=>exact ⟨k+1,hlt,rfl,by rw [HN.out],by go_num,rfl⟩
  . obtain rfl:k=n:=by omega
    clear hlt i0 i1;rw [<-HZ.out];clear HK HKI HKZ HZ;go_wp2_with fail
    go_loopg [3,5] m (fun gk nv iv wr2=>∃k:Nat,k<=m/\gk=m-k/\nv= .int .i64 (S k)/\iv= .int .i64 (k:Int)/\wr2=wr)
    case atStart=>exact ⟨0,Nat.zero_le _,rfl,rfl,rfl,rfl⟩
    case round=>
     obtain ⟨k2,hk2,rfl,rfl,rfl,rfl⟩:=hrel;obtain ⟨i0,i1⟩:=HI.out k2 hk2;by_cases hlt:k2<m
     . obtain ⟨j0,j1⟩:=HI.out (k2+1) hlt
       have hs:=HS.out k2;have HN:Hid (S (k2+1)=S k2+4+ke+va):=(by unfold Hid;omega);rw [hs] at j0 j1;have hwk:IntKind.i64.wrap ((k2:Int)+1)=((k2+1:Nat):Int):=(by rw [IntKind.wrap_i64];omega);clear hs;generalize S k2=x at*;go_wp2_with fail
       go_roundg (m-(k2+1))
       case measure=>omega
       case rel=>exact ⟨k2+1,hlt,rfl,by rw [HN.out],by go_num,rfl⟩
     . obtain rfl:k2=m:=by omega
       clear hlt;go_wp2_with fail
       go_ret
       exact ⟨by rw [HO.out];rfl,HB.out⟩
end Cf
end Go.Proofs.YtjpjjnalpdpljaaGreatDoor
set_option maxHeartbeats 2000000
set_option maxRecDepth 100000
namespace Go.Proofs.YtjpjjnalpdpljaaGreatDoor
open Go.RowKit Go.WideShapes Go.ChangeShapes Go.Deep
open Go.Lib (hid)
open ah (dL tc)
open List (drop_nil)
namespace Cf
theorem I6 {fa bu le ke va y:Int}:few fa bu le ke va<=y↔64<=y/\inn fa bu ke va<=y/\out le ke va<=y:=by
 unfold few;omega
theorem qE (b y fr fa bu le ke va:Int) (W:World) (h:Right b y fr fa bu le ke va):CB 31 #[.agg #[b,y,fr,fa,bu,le,ke,va]] W (.bool true):=by
 obtain ⟨hs,⟨a1,a2⟩,⟨a3,a4⟩,a5,a6⟩:=h;obtain ⟨a5,a7,a8⟩:=I6.1 a5;have cS:=fun W=>hid (gq b y fr fa bu le ke va W hs);have cI:=fun W=>hid (mI b y fr fa bu le ke va W hs);have cO:=fun W=>hid (mH b y fr fa bu le ke va W hs);clear hs;generalize inn fa bu ke va=P at*;generalize out le ke va=Q at*;go_enter Tryz.func31,Tryz.ntmps31
 go_upto_region 1 with fail
 have hx:=heap_alloc_new W (.cells #[b,y,fr,fa,bu,le,ke,va] 23);have hb1:Bw W (W.alloc (.cells #[b,y,fr,fa,bu,le,ke,va] 23)):=bAx;obtain ⟨g,hg⟩:∃g,g=W.heap.size:=⟨_,rfl⟩
 generalize W.alloc (.cells #[b,y,fr,fa,bu,le,ke,va] 23)=w1 at*;rw [<-hg] at hx ⊢;have HX:=hid hx;have HB:=hid hb1;obtain ⟨c0,c1,c2,c3,c4,c5,c6,c7⟩:=aT hx;clear hx hb1 hg;have z0:=tc c0;have z1:=tc c1;have z2:=tc c2;have z3:=tc c3;have z4:=tc c4;have z5:=tc c5;have z6:=tc c6;have z7:=tc c7;clear c0 c1 c2 c3 c4 c5 c6 c7;refine ah.aj [] [(0,[]),(1,[]),(2,[]),(3,[]),(4,[]),(5,[]),(6,[]),(7,[]),(8,[]),(9,[]),(10,[]),(11,[]),(12,[]),(13,[]),(14,[]),(15,[]),(16,[]),(17,[]),(18,[]),(19,[]),(20,[]),(21,[]),(22,[]),(23,[]),(24,[]),(25,[]),(26,[]),(27,[]),(28,[]),(29,[]),(30,[]),(31,[])] [] [] (by kernel_rfl) (by kernel_rfl) (by simp) ?_;simp only [ah.pick,ah.aO,dL]
 repeat (refine ah.ak (fun K hK=>?_);go_simp;first|(refine hK _ ?_;clear hK K)|(apply Exists.intro;refine ⟨fun q=>?_,hK _ ?_⟩;(first|(go_at_call 67;exact (cS _).out)|(go_at_call 69;exact (cI _).out)|(go_at_call 70;exact (cO _).out)|(go_at_call 68;exact jl _ _ _ _ (by omega) (by omega))|(go_at_call 68;exact nO _ _ _ _ (by omega)));clear hK K))
 refine ah.walk_nil ?_;intro w2 hb _;replace HB:=hid (jX HB.out hb);clear hb z0 z1 z2 z3 z4 z5 z6 z7 HX cS cI cO;simp only [lC,drop_nil,Nat.zero_add,Nat.reduceAdd]
 go_wp2
 go_ret
 exact ⟨rfl,HB.out⟩
theorem uU (b y fr fa bu le ke va:Int) (W:World) (h:¬Right b y fr fa bu le ke va):CB 31 #[.agg #[b,y,fr,fa,bu,le,ke,va]] W (.bool false):=by
 by_cases hs:Shape fa bu le ke va
 case neg=>
  have cS:=fun W=>hid (GR b y fr fa bu le ke va W hs);clear h hs;go_enter Tryz.func31,Tryz.ntmps31
  go_upto_region 1 with fail
  have hx:=heap_alloc_new W (.cells #[b,y,fr,fa,bu,le,ke,va] 23);have hb1:Bw W (W.alloc (.cells #[b,y,fr,fa,bu,le,ke,va] 23)):=bAx;obtain ⟨g,hg⟩:∃g,g=W.heap.size:=⟨_,rfl⟩
  generalize W.alloc (.cells #[b,y,fr,fa,bu,le,ke,va] 23)=w1 at*;rw [<-hg] at hx ⊢;have HX:=hid hx;have HB:=hid hb1;obtain ⟨c0,c1,c2,c3,c4,c5,c6,c7⟩:=aT hx;clear hx hb1 hg;have z0:=tc c0;have z1:=tc c1;have z2:=tc c2;have z3:=tc c3;have z4:=tc c4;have z5:=tc c5;have z6:=tc c6;have z7:=tc c7;clear c0 c1 c2 c3 c4 c5 c6 c7;refine ah.aj [] [(0,[]),(1,[]),(2,[]),(3,[]),(4,[]),(5,[]),(6,[]),(7,[]),(8,[]),(9,[]),(10,[]),(11,[]),(12,[]),(13,[]),(14,[]),(15,[]),(16,[]),(17,[]),(18,[]),(19,[]),(20,[]),(21,[]),(22,[]),(23,[]),(24,[]),(25,[]),(26,[]),(27,[]),(28,[]),(29,[]),(30,[]),(31,[])] [] [] (by kernel_rfl) (by kernel_rfl) (by simp) ?_;simp only [ah.pick,ah.aO,dL]
  repeat (refine ah.ak (fun K hK=>?_);go_simp;first|(refine hK _ ?_;clear hK K)|(apply Exists.intro;refine ⟨fun q=>?_,hK _ ?_⟩;(first|(go_at_call 67;exact (cS _).out));clear hK K))
  refine ah.walk_nil ?_;intro w2 hb _;replace HB:=hid (jX HB.out hb);clear hb z0 z1 z2 z3 z4 z5 z6 z7 HX cS;simp only [lC,drop_nil,Nat.zero_add,Nat.reduceAdd]
  go_wp2
  go_ret
  exact ⟨rfl,HB.out⟩
 by_cases n1:5<=b/\b<=65536
 case neg=>
  have cS:=fun W=>hid (gq b y fr fa bu le ke va W hs);clear h hs;go_enter Tryz.func31,Tryz.ntmps31
  go_upto_region 1 with fail
  have hx:=heap_alloc_new W (.cells #[b,y,fr,fa,bu,le,ke,va] 23);have hb1:Bw W (W.alloc (.cells #[b,y,fr,fa,bu,le,ke,va] 23)):=bAx;obtain ⟨g,hg⟩:∃g,g=W.heap.size:=⟨_,rfl⟩
  generalize W.alloc (.cells #[b,y,fr,fa,bu,le,ke,va] 23)=w1 at*;rw [<-hg] at hx ⊢;have HX:=hid hx;have HB:=hid hb1;obtain ⟨c0,c1,c2,c3,c4,c5,c6,c7⟩:=aT hx;clear hx hb1 hg;have z0:=tc c0;have z1:=tc c1;have z2:=tc c2;have z3:=tc c3;have z4:=tc c4;have z5:=tc c5;have z6:=tc c6;have z7:=tc c7;clear c0 c1 c2 c3 c4 c5 c6 c7;refine ah.aj [] [(0,[]),(1,[]),(2,[]),(3,[]),(4,[]),(5,[]),(6,[]),(7,[]),(8,[]),(9,[]),(10,[]),(11,[]),(12,[]),(13,[]),(14,[]),(15,[]),(16,[]),(17,[]),(18,[]),(19,[]),(20,[]),(21,[]),(22,[]),(23,[]),(24,[]),(25,[]),(26,[]),(27,[]),(28,[]),(29,[]),(30,[]),(31,[])] [] [] (by kernel_rfl) (by kernel_rfl) (by simp) ?_;simp only [ah.pick,ah.aO,dL]
  repeat (refine ah.ak (fun K hK=>?_);go_simp;first|(refine hK _ ?_;clear hK K)|(apply Exists.intro;refine ⟨fun q=>?_,hK _ ?_⟩;(first|(go_at_call 67;exact (cS _).out)|(go_at_call 68;exact jl _ _ _ _ (by omega) (by omega))|(go_at_call 68;exact nO _ _ _ _ (by omega)));clear hK K))
  refine ah.walk_nil ?_;intro w2 hb _;replace HB:=hid (jX HB.out hb);clear hb z0 z1 z2 z3 z4 z5 z6 z7 HX cS;simp only [lC,drop_nil,Nat.zero_add,Nat.reduceAdd]
  go_wp2
  go_ret
  exact ⟨rfl,HB.out⟩
 by_cases n2:8<=fr/\fr<=64
 case neg=>
  have cS:=fun W=>hid (gq b y fr fa bu le ke va W hs);clear h hs;obtain ⟨n1a,n1b⟩:=n1;go_enter Tryz.func31,Tryz.ntmps31
  go_upto_region 1 with fail
  have hx:=heap_alloc_new W (.cells #[b,y,fr,fa,bu,le,ke,va] 23);have hb1:Bw W (W.alloc (.cells #[b,y,fr,fa,bu,le,ke,va] 23)):=bAx;obtain ⟨g,hg⟩:∃g,g=W.heap.size:=⟨_,rfl⟩
  generalize W.alloc (.cells #[b,y,fr,fa,bu,le,ke,va] 23)=w1 at*;rw [<-hg] at hx ⊢;have HX:=hid hx;have HB:=hid hb1;obtain ⟨c0,c1,c2,c3,c4,c5,c6,c7⟩:=aT hx;clear hx hb1 hg;have z0:=tc c0;have z1:=tc c1;have z2:=tc c2;have z3:=tc c3;have z4:=tc c4;have z5:=tc c5;have z6:=tc c6;have z7:=tc c7;clear c0 c1 c2 c3 c4 c5 c6 c7;refine ah.aj [] [(0,[]),(1,[]),(2,[]),(3,[]),(4,[]),(5,[]),(6,[]),(7,[]),(8,[]),(9,[]),(10,[]),(11,[]),(12,[]),(13,[]),(14,[]),(15,[]),(16,[]),(17,[]),(18,[]),(19,[]),(20,[]),(21,[]),(22,[]),(23,[]),(24,[]),(25,[]),(26,[]),(27,[]),(28,[]),(29,[]),(30,[]),(31,[])] [] [] (by kernel_rfl) (by kernel_rfl) (by simp) ?_;simp only [ah.pick,ah.aO,dL]
  repeat (refine ah.ak (fun K hK=>?_);go_simp;first|(refine hK _ ?_;clear hK K)|(apply Exists.intro;refine ⟨fun q=>?_,hK _ ?_⟩;(first|(go_at_call 67;exact (cS _).out)|(go_at_call 68;exact jl _ _ _ _ (by omega) (by omega))|(go_at_call 68;exact nO _ _ _ _ (by omega)));clear hK K))
  refine ah.walk_nil ?_;intro w2 hb _;replace HB:=hid (jX HB.out hb);clear hb z0 z1 z2 z3 z4 z5 z6 z7 HX cS;simp only [lC,drop_nil,Nat.zero_add,Nat.reduceAdd]
  go_wp2
  go_ret
  exact ⟨rfl,HB.out⟩
 by_cases n3:64<=y/\y<=65536
 case neg=>
  have cS:=fun W=>hid (gq b y fr fa bu le ke va W hs);clear h hs;obtain ⟨n1a,n1b⟩:=n1;obtain ⟨n2a,n2b⟩:=n2;go_enter Tryz.func31,Tryz.ntmps31
  go_upto_region 1 with fail
  have hx:=heap_alloc_new W (.cells #[b,y,fr,fa,bu,le,ke,va] 23);have hb1:Bw W (W.alloc (.cells #[b,y,fr,fa,bu,le,ke,va] 23)):=bAx;obtain ⟨g,hg⟩:∃g,g=W.heap.size:=⟨_,rfl⟩
  generalize W.alloc (.cells #[b,y,fr,fa,bu,le,ke,va] 23)=w1 at*;rw [<-hg] at hx ⊢;have HX:=hid hx;have HB:=hid hb1;obtain ⟨c0,c1,c2,c3,c4,c5,c6,c7⟩:=aT hx;clear hx hb1 hg;have z0:=tc c0;have z1:=tc c1;have z2:=tc c2;have z3:=tc c3;have z4:=tc c4;have z5:=tc c5;have z6:=tc c6;have z7:=tc c7;clear c0 c1 c2 c3 c4 c5 c6 c7;refine ah.aj [] [(0,[]),(1,[]),(2,[]),(3,[]),(4,[]),(5,[]),(6,[]),(7,[]),(8,[]),(9,[]),(10,[]),(11,[]),(12,[]),(13,[]),(14,[]),(15,[]),(16,[]),(17,[]),(18,[]),(19,[]),(20,[]),(21,[]),(22,[]),(23,[]),(24,[]),(25,[]),(26,[]),(27,[]),(28,[]),(29,[]),(30,[]),(31,[])] [] [] (by kernel_rfl) (by kernel_rfl) (by simp) ?_;simp only [ah.pick,ah.aO,dL]
  repeat (refine ah.ak (fun K hK=>?_);go_simp;first|(refine hK _ ?_;clear hK K)|(apply Exists.intro;refine ⟨fun q=>?_,hK _ ?_⟩;(first|(go_at_call 67;exact (cS _).out)|(go_at_call 68;exact jl _ _ _ _ (by omega) (by omega))|(go_at_call 68;exact nO _ _ _ _ (by omega)));clear hK K))
  refine ah.walk_nil ?_;intro w2 hb _;replace HB:=hid (jX HB.out hb);clear hb z0 z1 z2 z3 z4 z5 z6 z7 HX cS;simp only [lC,drop_nil,Nat.zero_add,Nat.reduceAdd]
  go_wp2
  go_ret
  exact ⟨rfl,HB.out⟩
 by_cases n4:inn fa bu ke va<=y
 case neg=>
  have cS:=fun W=>hid (gq b y fr fa bu le ke va W hs);have cI:=fun W=>hid (mI b y fr fa bu le ke va W hs);have cO:=fun W=>hid (mH b y fr fa bu le ke va W hs);clear hs;generalize inn fa bu ke va=P at*;generalize out le ke va=Q at*;clear h;obtain ⟨n1a,n1b⟩:=n1;obtain ⟨n2a,n2b⟩:=n2;obtain ⟨n3a,n3b⟩:=n3;have n4:y<P:=by omega
  have n5:decide (P<=y)=false:=by simp;omega
  go_enter Tryz.func31,Tryz.ntmps31
  go_upto_region 1 with fail
  have hx:=heap_alloc_new W (.cells #[b,y,fr,fa,bu,le,ke,va] 23);have hb1:Bw W (W.alloc (.cells #[b,y,fr,fa,bu,le,ke,va] 23)):=bAx;obtain ⟨g,hg⟩:∃g,g=W.heap.size:=⟨_,rfl⟩
  generalize W.alloc (.cells #[b,y,fr,fa,bu,le,ke,va] 23)=w1 at*;rw [<-hg] at hx ⊢;have HX:=hid hx;have HB:=hid hb1;obtain ⟨c0,c1,c2,c3,c4,c5,c6,c7⟩:=aT hx;clear hx hb1 hg;have z0:=tc c0;have z1:=tc c1;have z2:=tc c2;have z3:=tc c3;have z4:=tc c4;have z5:=tc c5;have z6:=tc c6;have z7:=tc c7;clear c0 c1 c2 c3 c4 c5 c6 c7;refine ah.aj [] [(0,[]),(1,[]),(2,[]),(3,[]),(4,[]),(5,[]),(6,[]),(7,[]),(8,[]),(9,[]),(10,[]),(11,[]),(12,[]),(13,[]),(14,[]),(15,[]),(16,[]),(17,[]),(18,[]),(19,[]),(20,[]),(21,[]),(22,[]),(23,[]),(24,[]),(25,[]),(26,[]),(27,[]),(28,[]),(29,[]),(30,[]),(31,[])] [] [] (by kernel_rfl) (by kernel_rfl) (by simp) ?_;simp only [ah.pick,ah.aO,dL]
  repeat (refine ah.ak (fun K hK=>?_);go_simp;first|(refine hK _ ?_;clear hK K)|(apply Exists.intro;refine ⟨fun q=>?_,hK _ ?_⟩;(first|(go_at_call 67;exact (cS _).out)|(go_at_call 69;exact (cI _).out)|(go_at_call 70;exact (cO _).out)|(go_at_call 68;exact jl _ _ _ _ (by omega) (by omega))|(go_at_call 68;exact nO _ _ _ _ (by omega)));clear hK K))
  refine ah.walk_nil ?_;intro w2 hb _;replace HB:=hid (jX HB.out hb);clear hb z0 z1 z2 z3 z4 z5 z6 z7 HX cS cI cO;simp only [lC,drop_nil,Nat.zero_add,Nat.reduceAdd]
  go_wp2
  go_ret
  exact ⟨rfl,HB.out⟩
 have n5:¬out le ke va<=y:=fun n5=>h ⟨hs,n1,n2,I6.2 ⟨n3.1,n4,n5⟩,n3.2⟩;clear h;have cS:=fun W=>hid (gq b y fr fa bu le ke va W hs);have cI:=fun W=>hid (mI b y fr fa bu le ke va W hs);have cO:=fun W=>hid (mH b y fr fa bu le ke va W hs);clear hs;generalize inn fa bu ke va=P at*;generalize out le ke va=Q at*;obtain ⟨n1a,n1b⟩:=n1;obtain ⟨n2a,n2b⟩:=n2;obtain ⟨n3a,n3b⟩:=n3;have n6:y<Q:=by omega
 have n7:decide (Q<=y)=false:=by simp;omega
 go_enter Tryz.func31,Tryz.ntmps31
 go_upto_region 1 with fail
 have hx:=heap_alloc_new W (.cells #[b,y,fr,fa,bu,le,ke,va] 23);have hb1:Bw W (W.alloc (.cells #[b,y,fr,fa,bu,le,ke,va] 23)):=bAx;obtain ⟨g,hg⟩:∃g,g=W.heap.size:=⟨_,rfl⟩
 generalize W.alloc (.cells #[b,y,fr,fa,bu,le,ke,va] 23)=w1 at*;rw [<-hg] at hx ⊢;have HX:=hid hx;have HB:=hid hb1;obtain ⟨c0,c1,c2,c3,c4,c5,c6,c7⟩:=aT hx;clear hx hb1 hg;have z0:=tc c0;have z1:=tc c1;have z2:=tc c2;have z3:=tc c3;have z4:=tc c4;have z5:=tc c5;have z6:=tc c6;have z7:=tc c7;clear c0 c1 c2 c3 c4 c5 c6 c7;refine ah.aj [] [(0,[]),(1,[]),(2,[]),(3,[]),(4,[]),(5,[]),(6,[]),(7,[]),(8,[]),(9,[]),(10,[]),(11,[]),(12,[]),(13,[]),(14,[]),(15,[]),(16,[]),(17,[]),(18,[]),(19,[]),(20,[]),(21,[]),(22,[]),(23,[]),(24,[]),(25,[]),(26,[]),(27,[]),(28,[]),(29,[]),(30,[]),(31,[])] [] [] (by kernel_rfl) (by kernel_rfl) (by simp) ?_;simp only [ah.pick,ah.aO,dL]
 repeat (refine ah.ak (fun K hK=>?_);go_simp;first|(refine hK _ ?_;clear hK K)|(apply Exists.intro;refine ⟨fun q=>?_,hK _ ?_⟩;(first|(go_at_call 67;exact (cS _).out)|(go_at_call 69;exact (cI _).out)|(go_at_call 70;exact (cO _).out)|(go_at_call 68;exact jl _ _ _ _ (by omega) (by omega))|(go_at_call 68;exact nO _ _ _ _ (by omega)));clear hK K))
 refine ah.walk_nil ?_;intro w2 hb _;replace HB:=hid (jX HB.out hb);clear hb z0 z1 z2 z3 z4 z5 z6 z7 HX cS cI cO;simp only [lC,drop_nil,Nat.zero_add,Nat.reduceAdd]
 go_wp2
 go_ret
 exact ⟨rfl,HB.out⟩
end Cf
end Go.Proofs.YtjpjjnalpdpljaaGreatDoor
namespace Go.Proofs.YtjpjjnalpdpljaaGreatDoor
open Go.RowKit
namespace No
open Mem Bu
structure FrB (w:World) (B:Nat) (A:Option Addr) (s:List UInt8):Prop where
 bl:BL w A s
 own:0<s.length->∃(g o:Nat) (C:Array Value),A=some ⟨g,o,none⟩/\B<=g/\w.heap[g]? =some (.cells C 5 (0,0))
theorem FrB.kept {w w':World} {B:Nat} {A:Option Addr} {s:List UInt8} (h:FrB w B A s) (hb:Bw w w'):FrB w' B A s:=⟨h.bl.below hb,fun h0=>by
 obtain ⟨g,o,C,e,h1,h2⟩:=h.own h0
 exact ⟨g,o,C,e,h1,aC h2 hb⟩⟩
theorem FrB.mono {w:World} {B B':Nat} {A:Option Addr} {s:List UInt8} (h:FrB w B A s) (hb:B'<=B):FrB w B' A s:=⟨h.bl,fun h0=>by
 obtain ⟨g,o,C,e,h1,h2⟩:=h.own h0
 exact ⟨g,o,C,e,Nat.le_trans hb h1,h2⟩⟩
theorem FrB.none_ (w:World) (B:Nat) (A:Option Addr):FrB w B A []:=⟨BL.nil _ _,fun h=>absurd h (by simp)⟩
end No
end Go.Proofs.YtjpjjnalpdpljaaGreatDoor
namespace Go.Proofs.YtjpjjnalpdpljaaGreatDoor
open Go.RowKit
namespace Mem
theorem uV {α:Type} {K:Kind α} {P:Program} {SS:List Nat} {S:TypeId} {z:Value} {by_:Nat} (hS:P.underlying S=some (.slice K.T)) (hinfo:(P.info? K.T).map (fun i=>(i.zero,i.size,i.bytes))=some (some z,K.k,by_)) (hz:z.cells.size=K.k) (hby:by_<=4096) (hk:0<K.k)
 {w:World} {o:Oper} {a:Act} {V:Value->World->Prop} (s x:Operand)
 (ho:o.op= .call { callee:= .builtin .append,args:= #[s,x],argTypes:= #[S,S] })
 (B:Nat) (A:Option Addr) (n c:Nat) (L:List α) (hs:a.eval s= .slice A n c) (hvn:L.length=n) (h:VK K w B A c L) (xb cx:Nat) (y:α) (hx:a.eval x= .slice (some ⟨xb,0,none⟩) 1 cx) (hu:w.heap[xb]? =some (.cells (K.cs y).toArray K.T (0,0))) (hn:n+1<=1048576) (hB:B<=w.heap.size)
 (hSS:∀a,A=some a->a.block∈SS) (hh:∀A' c' w',Gg K B w w' A A' c' (L++[y])->V (.slice A' (n+1) c') w'):Flow.BG P SS o a w V:=by
 subst hvn;obtain ⟨A',c',w',hrun,hd⟩:=oG hS hinfo hz hby o.type h xb cx y hu hn hk hB;unfold Flow.BG execOp;simp only [ho,resolve,invoke,builtin,Sem.run_bind,Sem.run_pure,Result.andThen_ok,List.map_toArray,List.map_cons,List.map_nil,hs,hx,hrun];exact ⟨hh A' c' w' hd,hd.below.os,hd.below.tape,hd.below.output,hd.below.size,fun k hk hn=>hd.block k hk fun a ha hak=>hn (hak▸hSS a ha)⟩
structure BI {α:Type} (K:Kind α) (B:Nat) (w w':World) (A A':Option Addr) (c':Nat) (L:List α):Prop where
 vo:VK K w' B A' c' L
 below:Below B w w'
 block:∀k,k<w.heap.size->(∀a,A=some a->a.block≠k)->w'.heap[k]? =w.heap[k]?
 row:∀a',A'=some a'->(∃a,A=some a/\a'.block=a.block)\/w.heap.size<=a'.block
theorem BI.then_ {α:Type} {K:Kind α} {B c':Nat} {w w' w2:World} {A A':Option Addr} {L:List α} (h:BI K B w w' A A' c' L) (hb:Bw w' w2) (hB:B<=w'.heap.size):BI K B w w2 A A' c' L:=
 ⟨h.vo.kept hb,h.below.trans (hb.mono hB),fun k hk hn=>(hb.block k (Nat.lt_of_lt_of_le hk h.below.size)).trans (h.block k hk hn),h.row⟩
def Ko {α:Type} (K:Kind α) (B:Nat) (w:World) (A:Option Addr) (n:Nat) (L:List α) (v:Value) (w':World):Prop:=∃A' c',v= .slice A' n c'/\BI K B w w' A A' c' L
theorem uW {α:Type} {K:Kind α} {P:Program} {SS:List Nat} {S:TypeId} {z:Value} {by_:Nat} (hS:P.underlying S=some (.slice K.T)) (hinfo:(P.info? K.T).map (fun i=>(i.zero,i.size,i.bytes))=some (some z,K.k,by_)) (hz:z.cells.size=K.k) (hby:by_<=4096) (hk:0<K.k)
 {w W2:World} {o:Oper} {a:Act} (s x:Operand)
 (ho:o.op= .call { callee:= .builtin .append,args:= #[s,x],argTypes:= #[S,S] })
 (B:Nat) (A:Option Addr) (n c:Nat) (L:List α) (hs:a.eval s= .slice A n c) (hvn:L.length=n) (h:VK K w B A c L) (hkk:Bw w W2) (xb cx:Nat) (y:α) (hx:a.eval x= .slice (some ⟨xb,0,none⟩) 1 cx) (hu:W2.heap[xb]? =some (.cells (K.cs y).toArray K.T (0,0))) (hn:n+1<=1048576) (hB:B<=w.heap.size)
 (hSS:∀a,A=some a->a.block∈SS):Flow.BG P SS o a W2 (Ko K B w A (n+1) (L++[y])):=
 uV hS hinfo hz hby hk s x ho B A n c L hs hvn (h.kept hkk) xb cx y hx hu hn (Nat.le_trans hB hkk.size) hSS fun A' c' w' hd=>⟨A',c',rfl,hd.vo,(hkk.mono hB).trans hd.below,fun k hk hn=>(hd.block k (Nat.lt_of_lt_of_le hk hkk.size) hn).trans (hkk.block k hk),fun a' ha'=>by
  rcases hd.row a' ha' with h1|h1
  . exact .inl h1
  . exact .inr (by rw [h1];exact hkk.size)⟩
theorem VK.blocks {α:Type} {K:Kind α} {w:World} {B c:Nat} {A:Option Addr} {L:List α} (h:VK K w B A c L):∃S:List Nat,(∀a,A=some a->a.block∈S)/\∀k,k∈S->B<=k/\k<w.heap.size:=by
 cases A with
 |none=>exact ⟨[],(fun a ha=>by cases ha),(fun k hk=>by cases hk)⟩
 |some x=>
  refine ⟨[x.block],(fun a ha=>by cases ha;simp),fun k hk=>?_⟩;obtain rfl:k=x.block:=by simpa using hk
  exact h.at_ x rfl
end Mem
end Go.Proofs.YtjpjjnalpdpljaaGreatDoor
namespace Go.Proofs.YtjpjjnalpdpljaaGreatDoor
open Go.RowKit
namespace No
open Mem Bu
def sN (w:World) (b:Nat) (v0 v1 v2 v3 v4:Value):World:=((((w.setCell ⟨b,0,none⟩ v0).setCell ⟨b,1,none⟩ v1).setCell ⟨b,2,none⟩ v2).setCell ⟨b,3,none⟩ v3).setCell ⟨b,4,none⟩ v4
theorem eP {w:World} {b:Nat} {u0 u1 u2 u3 u4:Value} {U:TypeId} (h:w.heap[b]? =some (.cells #[u0,u1,u2,u3,u4] U (0,0))) (v0 v1 v2 v3 v4:Value):(sN w b v0 v1 v2 v3 v4).heap[b]? =some (.cells #[v0,v1,v2,v3,v4] U (0,0)):=by
 unfold sN;simp [World.setCell,Array.getElem?_modify,h]
theorem fM {B b:Nat} {a w:World} (h:Below B a w) (hb:B<=b) (v0 v1 v2 v3 v4:Value):Below B a (sN w b v0 v1 v2 v3 v4):=((((h.setCell hb v0).setCell hb v1).setCell hb v2).setCell hb v3).setCell hb v4
theorem lF (w:World) (b i:Nat) (v:Value):Flow.Into [b] w (w.setCell ⟨b,i,none⟩ v):=⟨rfl,rfl,rfl,Nat.le_of_eq (by simp),fun k _ hn=>aQ _ (by simpa using hn)⟩
theorem fH (w:World) (b:Nat) (v0 v1 v2 v3 v4:Value):Flow.Into [b] w (sN w b v0 v1 v2 v3 v4):=((((lF _ _ _ _).trans (lF _ _ _ _)).trans (lF _ _ _ _)).trans (lF _ _ _ _)).trans (lF _ _ _ _)
theorem iD {w:World} {b i:Nat} {v:Value} (h:w.cell? ⟨b,i,none⟩=some v):w.setCell ⟨b,i,none⟩ v=w:=by
 unfold World.setCell
 have e:∀f:Obj->Obj,(∀o,w.heap[b]? =some o->f o=o)->w.heap.modify b f=w.heap:=fun f hf=>by
  refine Array.ext_getElem? fun k=>?_;rw [Array.getElem?_modify];split
  . rename_i hk
    subst hk;cases ho:w.heap[b]? with
    |none=>rfl
    |some o=>rw [Option.map_some,hf o ho]
  . rfl
 rw [e];intro o ho;unfold World.cell? at h;rw [ho] at h;cases o with
 |cells c T f=>
  simp only [Option.isSome_none,Bool.false_eq_true,if_false] at h ⊢;congr 1
  refine Array.ext_getElem? fun k=>?_;rw [Array.getElem?_setIfInBounds];split
  . rename_i hk
    subst hk;have:=(Array.getElem?_eq_some_iff.1 h).1;rw [if_pos this,h]
  . rfl
 |_=>rfl
theorem bG {w:World} {b:Nat} {C:Array Value} {U:TypeId} (h:w.heap[b]? =some (.cells C U (0,0))) (i:Nat):w.frozen? ⟨b,i,none⟩=false:=by
 simp [World.frozen?,h]
end No
end Go.Proofs.YtjpjjnalpdpljaaGreatDoor
set_option maxHeartbeats 1000000
namespace Go.Proofs.YtjpjjnalpdpljaaGreatDoor
open Go.RowKit
open Go.Lib (hid)
namespace Po
open Mem Bt
theorem GU (n:Nat) (w:World) (h0:1<=n) (h1:n<=1048576):Calls Tryz.prog 40 #[(n:Int)] w fun e w'=>∃h c,e=.returned (.slice (some ⟨h,0,none⟩) n c)/\bE w' h c n (tbN n)/\w.heap.size<=h/\Bw w w':=by
 have hmk:=fun w=>eH (P:=Tryz.prog) Tryz.underlying33 yX rfl (by omega) n h1 w;have HM:=hid h1;clear h1;go_enter Tryz.func40,Tryz.ntmps40
 go_upto_region 2 with fail
 have HO:Hid (Ow 4 (w.alloc (.cells (Array.replicate n (.bool false)) 4)) w.heap.size n ((List.replicate n false).map Value.bool)):=by
  unfold Hid;have:=qZ 4 w (.bool false) n HM.out;simpa using this
 have HB:Hid (Bw w (w.alloc (.cells (Array.replicate n (.bool false)) 4))):=bAx;generalize w.alloc (.cells (Array.replicate n (.bool false)) 4)=w1 at*;have hf:=HO.out.free 0;have hc:=HO.out.cell (i:=0) (by simp;omega);go_wp2_with fail
 go_ret
 obtain ⟨h1,h2⟩:=HO.out.set 0 (.bool true);refine ⟨w.heap.size,n,rfl,⟨?_,sJ n⟩,Nat.le_refl _,HB.out.setCell (Nat.le_refl _) _⟩;unfold tbN;rw [List.map_set];exact h1
theorem pz (h c n:Nat) (tb:List Bool) (w:World) (H:bE w h c n tb) (hn:n<=1048576):CW 18 #[.slice (some ⟨h,0,none⟩) n c] w (.int .i64 (free tb:Int)):=by
 have HH:=hid H;have HC:Hid ((frs tb n).length=free tb):=by unfold Hid;rw [<-H.len];exact oz tb
 clear H;go_enter Tryz.func18,Tryz.ntmps18
 go_wp2
 go_loopw [3,4] (fun x i wr=>∃k v:Nat,k<=n/\i= .int .i64 k/\x= .int .i64 (v:Int)/\v<=k/\Hid (v=(frs tb k).length)/\w=wr) (fun _ i _=>n-(intOf i).toNat)
 case atStart=>exact ⟨0,0,Nat.zero_le _,rfl,rfl,by omega,by unfold Hid;rfl,rfl⟩
 case round=>
  obtain ⟨k,v,hk,rfl,rfl,hv,HV,rfl⟩:=hrel;by_cases hlt:k<n
  . have hc:=HH.out.cell hlt
    have HP:Hid ((frs tb (k+1)).length=(frs tb k).length+if tb.getD k false then 0 else 1):=by
     show (frs tb k++(if tb.getD k false then [] else [k])).length=_;rw [List.length_append];cases tb.getD k false<;>rfl
    cases hb:tb.getD k false with
    |true=>
     rw [hb] at hc HP;clear hb
     go_wp2
     exact ⟨⟨k+1,v,hlt,by go_num,by go_num,by omega,by unfold Hid;rw [HP.out,HV.out];rfl,trivial⟩,by simp [intOf];omega⟩
    |false=>
     rw [hb] at hc HP;clear hb
     go_wp2
     exact ⟨⟨k+1,v+1,hlt,by go_num,by go_num,by omega,by unfold Hid;rw [HP.out,HV.out];rfl,trivial⟩,by simp [intOf];omega⟩
  . obtain rfl:k=n:=by omega
    go_wp2
    go_ret
    exact ⟨wM (by rw [HV.out,HC.out]),rfl⟩
theorem sO (h c n k:Nat) (tb:List Bool) (v:Bool) (w:World) (H:bE w h c n tb) (hk:k<n) (hn:n<=1048576):Calls Tryz.prog 120 #[.slice (some ⟨h,0,none⟩) n c,(k:Int),.bool v] w fun e w'=>∃h' c',e=.returned (.slice (some ⟨h',0,none⟩) n c')/\bE w' h' c' n (tb.set k v)/\w.heap.size<=h'/\Bw w w':=by
 have HH:=hid H;have HL:Hid ((tb.map Value.bool).length=n):=by unfold Hid;rw [List.length_map,H.len]
 have hp:0<n:=by omega
 clear H;go_enter Tryz.func120,Tryz.ntmps120
 go_wp2_with (with_reducible refine nN rfl (.tmp 8) (.tmp 9) _ rfl 4 Tryz.underlying33 (.bool false) 1 yX rfl (by omega) w rfl rfl h n c (tb.map Value.bool) rfl HL.out HH.out.ow (Dx tb) hp hn ?_;intro h' c' w1 hO hB hb;have hf:=hO.out.free k;have hc:=hO.out.cell (i:=k) (by rw [HL.out];exact hk))
 go_ret
 obtain ⟨h1,h2⟩:=hO.out.set k (.bool v);refine ⟨h',c',rfl,⟨by rw [List.map_set];exact h1,?_⟩,hB.out,hb.out.setCell hB.out _⟩;rw [List.length_set,HH.out.len]
def Told (w w':World) (B n:Nat) (t:List Bool) (x:Int) (e:Ending):Prop:=∃h' c',e=.returned (.tuple #[.slice (some ⟨h',0,none⟩) n c',x])/\bE w' h' c' n t/\B<=h'/\Bw w w'
theorem DK (h c n i:Nat) (tb:List Bool) (w:World) (H:bE w h c n tb) (hn:n<=65536) (hi:i<4294967296) (B:Nat) (hB:B<=h) (hBw:B<=w.heap.size):Calls Tryz.prog 81 #[.slice (some ⟨h,0,none⟩) n c,.int .u32 (i:Int)] w fun e w'=>Told w w' B n (jQ tb i) (mZ tb i) e:=by
 have hl:=H.len;have hw1:IntKind.u64.wrap (i:Int)=(i:Int):=by rw [IntKind.wrap_u64];omega
 have hw2:IntKind.u64.wrap (n:Int)=(n:Int):=by rw [IntKind.wrap_u64];omega
 have hw3:IntKind.i64.wrap (i:Int)=(i:Int):=by rw [IntKind.wrap_i64];omega
 by_cases hlt:i<n
 . have hin:inB tb i=true:=in_lt (by omega)
   have hc:=H.cell hlt;cases hv:tb.getD i false with
   |true=>
    have e1:mZ tb i=10:=(by unfold mZ;rw [hin,gX,hv];rfl);have e2:jQ tb i=tb:=(by unfold jQ;rw [hin];exact iD (by omega) hv);rw [hv] at hc;rw [e1,e2];have HH:=hid H;have HB:=hid hB;clear H hv e1 e2 hin hl hB hBw;go_enter Tryz.func81,Tryz.ntmps81
    go_wp2
    exact bodyPost_ret (v:= .tuple #[.slice (some ⟨h,0,none⟩) n c,(10:Int)]) (by simp [results,Tryz.results81,go_sem]) rfl ⟨h,c,rfl,HH.out,HB.out,Below.refl _ _⟩
   |false=>
    have e1:mZ tb i=0:=(by unfold mZ;rw [hin,gX,hv];rfl);have e2:jQ tb i=tb.set i true:=(by unfold jQ;rw [hin];rfl);rw [hv] at hc;rw [e1,e2];have cW:=fun w H=>hid (sO h c n i tb true w H hlt (by omega));have HH:=hid H;have HB:=hid hBw;clear H hv e1 e2 hin hl hB hBw;go_enter Tryz.func81,Tryz.ntmps81
    go_wp2_with (go_at_call 120;refine (cW _ HH.out).out.mono ?_;rintro e w1 ⟨h',c',rfl,h1,h2,h3⟩;have H1:=hid h1;have H2:=hid h2;have H3:=hid h3;clear h1 h2 h3)
    exact bodyPost_ret (v:= .tuple #[.slice (some ⟨h',0,none⟩) n c',(0:Int)]) (by simp [results,Tryz.results81,go_sem]) rfl ⟨h',c',rfl,H1.out,Nat.le_trans HB.out H2.out,H3.out⟩
 . have hin:inB tb i=false:=LY (by omega)
   have e1:mZ tb i=4:=(by unfold mZ;rw [hin];rfl);have e2:jQ tb i=tb:=(by unfold jQ;rw [hin];rfl);rw [e1,e2];have hge:n<=i:=(by omega);have HH:=hid H;have HB:=hid hB;clear H e1 e2 hin hl hB hBw hlt;go_enter Tryz.func81,Tryz.ntmps81
   go_wp2
   exact bodyPost_ret (v:= .tuple #[.slice (some ⟨h,0,none⟩) n c,(4:Int)]) (by simp [results,Tryz.results81,go_sem]) rfl ⟨h,c,rfl,HH.out,HB.out,Below.refl _ _⟩
theorem DL (h c n i:Nat) (tb:List Bool) (w:World) (H:bE w h c n tb) (h1n:1<=n) (hn:n<=65536) (hi:i<4294967296) (B:Nat) (hB:B<=h) (hBw:B<=w.heap.size):Calls Tryz.prog 80 #[.slice (some ⟨h,0,none⟩) n c,.int .u32 (i:Int)] w fun e w'=>Told w w' B n (gvT tb i) (gvE tb i) e:=by
 have hl:=H.len;have hw1:IntKind.u64.wrap (i:Int)=(i:Int):=by rw [IntKind.wrap_u64];omega
 have hw2:IntKind.u64.wrap (n:Int)=(n:Int):=by rw [IntKind.wrap_u64];omega
 have hw3:IntKind.i64.wrap (i:Int)=(i:Int):=by rw [IntKind.wrap_i64];omega
 by_cases h0:i=0
 . subst h0
   have e1:gvE tb 0=2:=rfl;have e2:gvT tb 0=tb:=rfl;rw [e1,e2];have hgt:¬n=0:=(by omega);have HH:=hid H;have HB:=hid hB;clear H e1 e2 hl hB hBw;go_enter Tryz.func80,Tryz.ntmps80
   go_wp2
   exact bodyPost_ret (v:= .tuple #[.slice (some ⟨h,0,none⟩) n c,(2:Int)]) (by simp [results,Tryz.results80,go_sem]) rfl ⟨h,c,rfl,HH.out,HB.out,Below.refl _ _⟩
 have hz:((i:Int)==0)=false:=by simpa using h0
 have g1:gvE tb i=wm tb i:=if_neg h0;have g2:gvT tb i=ru tb i:=if_neg h0;rw [g1,g2];clear g1 g2;by_cases hlt:i<n
 . have hin:inB tb i=true:=in_lt (by omega)
   have hc:=H.cell hlt;cases hv:tb.getD i false with
   |false=>
    have e1:wm tb i=9:=(by unfold wm;rw [hin,gX,hv];rfl);have e2:ru tb i=tb:=(by unfold ru;rw [hin];exact iD (by omega) hv);rw [hv] at hc;rw [e1,e2];have HH:=hid H;have HB:=hid hB;clear H hv e1 e2 hin hl hB hBw;go_enter Tryz.func80,Tryz.ntmps80
    go_wp2
    exact bodyPost_ret (v:= .tuple #[.slice (some ⟨h,0,none⟩) n c,(9:Int)]) (by simp [results,Tryz.results80,go_sem]) rfl ⟨h,c,rfl,HH.out,HB.out,Below.refl _ _⟩
   |true=>
    have e1:wm tb i=0:=(by unfold wm;rw [hin,gX,hv];rfl);have e2:ru tb i=tb.set i false:=(by unfold ru;rw [hin];rfl);rw [hv] at hc;rw [e1,e2];have cW:=fun w H=>hid (sO h c n i tb false w H hlt (by omega));have HH:=hid H;have HB:=hid hBw;clear H hv e1 e2 hin hl hB hBw;go_enter Tryz.func80,Tryz.ntmps80
    go_wp2_with (go_at_call 120;refine (cW _ HH.out).out.mono ?_;rintro e w1 ⟨h',c',rfl,h1,h2,h3⟩;have H1:=hid h1;have H2:=hid h2;have H3:=hid h3;clear h1 h2 h3)
    exact bodyPost_ret (v:= .tuple #[.slice (some ⟨h',0,none⟩) n c',(0:Int)]) (by simp [results,Tryz.results80,go_sem]) rfl ⟨h',c',rfl,H1.out,Nat.le_trans HB.out H2.out,H3.out⟩
 . have hin:inB tb i=false:=LY (by omega)
   have e1:wm tb i=4:=(by unfold wm;rw [hin];rfl);have e2:ru tb i=tb:=(by unfold ru;rw [hin];rfl);rw [e1,e2];have hge:n<=i:=(by omega);have HH:=hid H;have HB:=hid hB;clear H e1 e2 hin hl hB hBw hlt;go_enter Tryz.func80,Tryz.ntmps80
   go_wp2
   exact bodyPost_ret (v:= .tuple #[.slice (some ⟨h,0,none⟩) n c,(4:Int)]) (by simp [results,Tryz.results80,go_sem]) rfl ⟨h,c,rfl,HH.out,HB.out,Below.refl _ _⟩
end Po
end Go.Proofs.YtjpjjnalpdpljaaGreatDoor
