import Derived.Test.YtjpjjnalpdpljaaGreatDoorChecked
import Derived.Test.YtjpjjnalpdpljaaGreatDoorPkAA
import Derived.Test.YtjpjjnalpdpljaaGreatDoorPkAB
import Derived.Test.YtjpjjnalpdpljaaGreatDoorPqDrift
import Derived.WalkSpells
import Derived.StillTailTactics
import Derived.WalkKit
import Derived.WalkLawsBesides
import Derived.KernelRfl
import Derived.Lib.Hide
import Derived.Deep.DeepCutAuto
import Derived.Deep.CutBlock
namespace Go.Proofs.YtjpjjnalpdpljaaGreatDoor
open Go.RowKit
namespace Cn
open Mem
theorem dS {a b:Bool} (h:a=b):Ending.returned (.bool a)=.returned (.bool b):=by rw [h]
theorem wM {a b:Int} (h:a=b):Ending.returned a=.returned b:=by rw [h]
def LkW (w:World) (b c m:Nat) (A B:Nat->Nat):Prop:=
 ∃cs:List Value,w.ownsRow 0 191 2 (.slice (some ⟨b,0,none⟩) m c) m cs/\∀i,i<m->cs[i*2]? =some (.int .i64 (A i:Int))/\cs[i*2+1]? =some (.int .i64 (B i:Int))
section
variable {w w':World} {b c m:Nat} {A B:Nat->Nat}
theorem LkW.heap (h:LkW w b c m A B):∃cur,w.heap[b]? =some (.cells cur 191 (0,0)):=by
 obtain ⟨cs,⟨_,h2⟩,_⟩:=h;rcases h2 with ⟨h',_⟩|⟨g',cap',cur,he,_,hh,_⟩
 . cases h'
 . obtain ⟨rfl,_⟩:b=g'/\c=cap':=by simpa using he
   exact ⟨cur,hh⟩
theorem LkW.lt (h:LkW w b c m A B):b<w.heap.size:=by
 obtain ⟨cur,hh⟩:=h.heap;exact (Array.getElem?_eq_some_iff.1 hh).1
theorem LkW.rZ (h:LkW w b c m A B) {i:Nat} (hi:i<m):w.cell? ⟨b,i*2,none⟩=some (.int .i64 (A i:Int)):=by
 obtain ⟨cs,h1,h2⟩:=h;rw [World.ownsRow.cellAt h1 (i*2) (by omega)];exact (h2 i hi).1
theorem LkW.wN (h:LkW w b c m A B) {i:Nat} (hi:i<m):w.cell? ⟨b,i*2+1,none⟩=some (.int .i64 (B i:Int)):=by
 obtain ⟨cs,h1,h2⟩:=h;rw [World.ownsRow.cellAt h1 (i*2+1) (by omega)];exact (h2 i hi).2
theorem LkW.free (h:LkW w b c m A B) (j:Nat):w.frozen? ⟨b,j,none⟩=false:=by
 obtain ⟨cs,h1,h2⟩:=h;exact World.ownsRow.frozenAt h1 j
theorem LkW.keep (h:LkW w b c m A B) (hk:w'.heap[b]? =w.heap[b]?):LkW w' b c m A B:=by
 obtain ⟨cs,⟨h1,h2⟩,h3⟩:=h;refine ⟨cs,⟨h1,?_⟩,h3⟩;rcases h2 with h|⟨g',cap',cur,he,hB,hh,hr⟩
 . exact .inl h
 . obtain ⟨rfl,rfl⟩:b=g'/\c=cap':=by simpa using he
   exact .inr ⟨b,c,cur,rfl,hB,hk.trans hh,hr⟩
theorem LkW.len {cs:List Value} (h:w.ownsRow 0 191 2 (.slice (some ⟨b,0,none⟩) m c) m cs):cs.length=m*2:=h.1
theorem LkW.JW (h:LkW w b c m A B) {i:Nat} (hi:i<m) (x:Nat):LkW (w.setCell ⟨b,i*2,none⟩ (x:Int)) b c m (upd A i x) B:=by
 obtain ⟨cs,h1,h2⟩:=h;have hl:=LkW.len h1;refine ⟨_,(World.ownsRow.stored h1 (i*2) _).1,fun j hj=>?_⟩;rw [List.getElem?_set,List.getElem?_set];by_cases hij:i=j
 . subst hij
   refine ⟨?_,?_⟩
   . rw [if_pos rfl,if_pos (by omega),upd_same]
   . rw [if_neg (by omega)];exact (h2 i hj).2
 . refine ⟨?_,?_⟩
   . rw [if_neg (by omega),aX _ _ (fun e=>hij e.symm)];exact (h2 j hj).1
   . rw [if_neg (by omega)];exact (h2 j hj).2
theorem LkW.JX (h:LkW w b c m A B) {i:Nat} (hi:i<m) (x:Nat):LkW (w.setCell ⟨b,i*2+1,none⟩ (x:Int)) b c m A (upd B i x):=by
 obtain ⟨cs,h1,h2⟩:=h;have hl:=LkW.len h1;refine ⟨_,(World.ownsRow.stored h1 (i*2+1) _).1,fun j hj=>?_⟩;rw [List.getElem?_set,List.getElem?_set];by_cases hij:i=j
 . subst hij
   refine ⟨?_,?_⟩
   . rw [if_neg (by omega)];exact (h2 i hj).1
   . rw [if_pos rfl,if_pos (by omega),upd_same]
 . refine ⟨?_,?_⟩
   . rw [if_neg (by omega)];exact (h2 j hj).1
   . rw [if_neg (by omega),aX _ _ (fun e=>hij e.symm)];exact (h2 j hj).2
end
structure ChW (w:World) (g b c n:Nat) (k:Int) (A B:Nat->Nat):Prop where
 hd:w.heap[g]? =some (.cells #[.slice (some ⟨b,0,none⟩) (n+1) c,k] 193 (0,0))
 lk:LkW w b c (n+1) A B
 lo:1<=n
 hi:n<=4096
section
variable {w w':World} {g b c n:Nat} {k:Int} {A B:Nat->Nat}
theorem ChW.CV (h:ChW w g b c n k A B):g<w.heap.size:=(Array.getElem?_eq_some_iff.1 h.hd).1
theorem ChW.ne (h:ChW w g b c n k A B):g≠b:=by
 rintro rfl;obtain ⟨cur,hh⟩:=h.lk.heap;rw [h.hd] at hh;simp at hh
theorem ChW.cells (h:ChW w g b c n k A B):w.cell? ⟨g,0,none⟩=some (.slice (some ⟨b,0,none⟩) (n+1) c)/\w.cell? ⟨g,1,none⟩=some (.int .i64 k):=by
 have:=h.hd;simp [World.cell?,this]
theorem ChW.JY (h:ChW w g b c n k A B) (j:Nat):w.frozen? ⟨g,j,none⟩=false:=by
 have:=h.hd;simp [World.frozen?,this]
theorem ChW.keep (h:ChW w g b c n k A B) (hg:w'.heap[g]? =w.heap[g]?) (hb:w'.heap[b]? =w.heap[b]?):ChW w' g b c n k A B:=⟨hg.trans h.hd,h.lk.keep hb,h.lo,h.hi⟩
theorem ChW.kept (h:ChW w g b c n k A B) (hb:Bw w w'):ChW w' g b c n k A B:=h.keep (hb.block g h.CV) (hb.block b h.lk.lt)
theorem Gq {S:List Nat} (w:World) (a:Addr) (v:Value) (ha:a.block∈S):Flow.Into S w (w.setCell a v):=
 ⟨rfl,rfl,rfl,by simp [World.setCell],fun k _ hn=>Below.heap_setCell _ _ _ _ (by rintro rfl;exact hn ha)⟩
theorem ChW.JW (h:ChW w g b c n k A B) {i:Nat} (hi:i<=n) (x:Nat):ChW (w.setCell ⟨b,i*2,none⟩ (x:Int)) g b c n k (upd A i x) B:=
 ⟨(Below.heap_setCell _ _ _ _ h.ne).trans h.hd,h.lk.JW (by omega) x,h.lo,h.hi⟩
theorem ChW.JX (h:ChW w g b c n k A B) {i:Nat} (hi:i<=n) (x:Nat):ChW (w.setCell ⟨b,i*2+1,none⟩ (x:Int)) g b c n k A (upd B i x):=
 ⟨(Below.heap_setCell _ _ _ _ h.ne).trans h.hd,h.lk.JX (by omega) x,h.lo,h.hi⟩
theorem ChW.Qf (h:ChW w g b c n k A B) (k':Int):ChW (w.setCell ⟨g,1,none⟩ k') g b c n k' A B:=by
 refine ⟨?_,h.lk.keep (Below.heap_setCell _ _ _ _ (fun e=>h.ne e.symm)),h.lo,h.hi⟩;have:=h.hd;have hg:=h.CV;simp only [World.setCell,Array.getElem?_modify,this];simp
end
def Chn (w:World) (g b n:Nat) (l:List Nat):Prop:=∃c A B,ChW w g b c n (l.length:Int) A B/\Ring n A B l
section
variable {w w':World} {g b n:Nat} {l:List Nat}
theorem Chn.kept (h:Chn w g b n l) (hb:Bw w w'):Chn w' g b n l:=by
 obtain ⟨c,A,B,h1,h2⟩:=h;exact ⟨c,A,B,h1.kept hb,h2⟩
theorem Chn.into {S:List Nat} (h:Chn w g b n l) (hb:Flow.Into S w w') (hg:g∉S) (hbb:b∉S):Chn w' g b n l:=by
 obtain ⟨c,A,B,h1,h2⟩:=h;exact ⟨c,A,B,h1.keep (hb.block g h1.CV hg) (hb.block b h1.lk.lt hbb),h2⟩
theorem Chn.lt (h:Chn w g b n l):g<w.heap.size/\b<w.heap.size/\g≠b/\1<=n/\n<=4096/\l.length<=n/\l.Nodup/\∀x∈l,x<n:=by
 obtain ⟨c,A,B,h1,h2⟩:=h;exact ⟨h1.CV,h1.lk.lt,h1.ne,h1.lo,h1.hi,h2.yA,h2.nd,h2.lt⟩
end
end Cn
end Go.Proofs.YtjpjjnalpdpljaaGreatDoor
namespace Go.Proofs.YtjpjjnalpdpljaaGreatDoor
open Go.RowKit
open Go.Lib (hid)
namespace Cn
open Mem
theorem oP (g b c n:Nat) (k:Int) (A B:Nat->Nat) (w:World) (h:ChW w g b c n k A B):CW 127 #[g] w (.int .i64 (n:Int)):=by
 obtain ⟨c0,-⟩:=h.cells;have h1:=h.hi;have h2:((n+1:Nat):Int)-1=(n:Int):=by omega
 clear h;go_enter Tryz.func127,Tryz.ntmps127
 go_wp2
 go_ret
 exact ⟨rfl,rfl⟩
theorem kE (g b c n:Nat) (k:Int) (A B:Nat->Nat) (w:World) (h:ChW w g b c n k A B):CW 161 #[g] w (.int .i64 k):=by
 obtain ⟨-,c1⟩:=h.cells;clear h;go_enter Tryz.func161,Tryz.ntmps161
 go_wp2
 go_ret
 exact ⟨rfl,rfl⟩
theorem dI (g b c n:Nat) (k:Int) (A B:Nat->Nat) (i:Int) (w:World) (h:ChW w g b c n k A B) (h0:0<=i) (h1:i<n):CW 121 #[g,i] w (.int .i64 0):=by
 obtain ⟨c0,-⟩:=h.cells;have cE:=fun w h=>hid (oP g b c n k A B w h);have HR:=hid h;have hn0:(((n+1:Nat):Int)==0)=false:=by simp;omega
 have hn:=h.hi;clear h;go_enter Tryz.func121,Tryz.ntmps121
 go_wp2_with (go_at_call 127;refine (cE _ HR.out).out.mono ?_;rintro e w' ⟨rfl,rfl⟩)
 go_ret
 exact ⟨rfl,rfl⟩
theorem fD (g b c n:Nat) (k:Int) (A B:Nat->Nat) (i:Int) (w:World) (h:ChW w g b c n k A B) (h0:¬(0<=i/\i<n)):CW 121 #[g,i] w (.int .i64 4):=by
 obtain ⟨c0,-⟩:=h.cells;have cE:=fun w h=>hid (oP g b c n k A B w h);have HR:=hid h;have hn0:(((n+1:Nat):Int)==0)=false:=by simp;omega
 have hn:=h.hi;clear h;by_cases hi:i<0
 . clear h0
   go_enter Tryz.func121,Tryz.ntmps121
   go_wp2_with (go_at_call 127;refine (cE _ HR.out).out.mono ?_;rintro e w' ⟨rfl,rfl⟩)
   go_ret
   exact ⟨rfl,rfl⟩
 . have h1:(n:Int)<=i:=by omega
   have h2:0<=i:=(by omega);clear h0 hi;go_enter Tryz.func121,Tryz.ntmps121
   go_wp2_with (go_at_call 127;refine (cE _ HR.out).out.mono ?_;rintro e w' ⟨rfl,rfl⟩)
   go_ret
   exact ⟨rfl,rfl⟩
theorem kX (g b c n i:Nat) (k:Int) (A B:Nat->Nat) (w:World) (h:ChW w g b c n k A B) (h1:i<n):CW 122 #[g,(i:Int)] w (.bool (B i != i)):=by
 have HR:=hid h;obtain ⟨c0,-⟩:=h.cells;have cP:=fun w h=>hid (dI g b c n k A B i w h (by omega) (by omega));have c2:=h.lk.wN (i:=i) (by omega);have hn:=h.hi;have hb:((B i:Int) != (i:Int))=(B i != i):=by rw [Bool.eq_iff_iff];simp;omega
 generalize (B i != i)=v at hb ⊢;generalize (B i:Int)=x at hb c2;clear h;go_enter Tryz.func122,Tryz.ntmps122
 go_wp2_with (go_at_call 121;refine (cP _ HR.out).out.mono ?_;rintro e w' ⟨rfl,rfl⟩)
 go_ret
 exact ⟨rfl,rfl⟩
theorem wO (g b c n:Nat) (i:Int) (k:Int) (A B:Nat->Nat) (w:World) (h:ChW w g b c n k A B) (h1:¬(0<=i/\i<n)):CW 122 #[g,i] w (.bool false):=by
 have HR:=hid h;have cP:=fun w h=>hid (fD g b c n k A B i w h h1);clear h h1;go_enter Tryz.func122,Tryz.ntmps122
 go_wp2_with (go_at_call 121;refine (cP _ HR.out).out.mono ?_;rintro e w' ⟨rfl,rfl⟩)
 go_ret
 exact ⟨rfl,rfl⟩
end Cn
end Go.Proofs.YtjpjjnalpdpljaaGreatDoor
set_option maxHeartbeats 1000000
namespace Go.Proofs.YtjpjjnalpdpljaaGreatDoor
open Go.RowKit
open Go.Lib (hid)
namespace Cn
open Mem
theorem CX (g b c n:Nat) (k:Int) (A B:Nat->Nat) (w:World) (h:ChW w g b c n k A B) (hk:(k==0)=false):CB 124 #[g] w (.tuple #[(A n:Int),.bool true]):=by
 have HR:=hid h;have cL:=fun w h=>hid (kE g b c n k A B w h);have cE:=fun w h=>hid (oP g b c n k A B w h);obtain ⟨d0,-⟩:=h.cells;have d1:=h.lk.rZ (i:=n) (by omega);have hn:=h.hi;have hL:(n:Int)<(n:Int)+1:=by omega
 generalize (A n:Int)=x at*;have e0:=ah.tc d0;have e1:=ah.tc d1;clear h d0 d1;go_enter Tryz.func124,Tryz.ntmps124
 go_wp2_with (go_at_call 161;refine (cL _ HR.out).out.mono ?_;rintro e w' ⟨rfl,rfl⟩)
 refine ah.aj [] [(0,[]),(1,[]),(2,[]),(3,[]),(4,[]),(5,[]),(6,[]),(7,[]),(8,[]),(9,[]),(10,[])] [] [] (by kernel_rfl) (by kernel_rfl) (by simp) ?_;simp only [ah.pick,ah.aO,ah.dL]
 repeat (refine ah.ak (fun K hK=>?_);go_simp;first|(refine hK _ ?_;clear hK K)|(apply Exists.intro;refine ⟨fun q=>?_,hK _ ?_⟩;(go_at_call 127;exact (cE _ (HR.out.keep (q.into.block g HR.out.CV (by simp)) (q.into.block b HR.out.lk.lt (by simp)))).out.mono fun e w' ⟨he,hw⟩=>⟨he,by subst hw;exact Below.refl _ _⟩);clear hK K))
 refine ah.walk_nil ?_;intro w2 hb2 _;have HB2:=hid hb2;clear hb2;simp only [lC,List.drop_nil,Nat.zero_add,Nat.reduceAdd];go_wp2_with fail
 exact bodyPost_ret (v:= .tuple #[x,.bool true]) (by simp [results,Tryz.results124,go_sem]) rfl ⟨rfl,HB2.out⟩
theorem CY (g b c n:Nat) (A B:Nat->Nat) (w:World) (h:ChW w g b c n 0 A B):CB 124 #[g] w (.tuple #[(0:Int),.bool false]):=by
 have HR:=hid h;have cL:=fun w h=>hid (kE g b c n 0 A B w h);clear h;go_enter Tryz.func124,Tryz.ntmps124
 go_wp2_with (go_at_call 161;refine (cL _ HR.out).out.mono ?_;rintro e w' ⟨rfl,rfl⟩)
 exact bodyPost_ret (v:= .tuple #[(0:Int),.bool false]) (by simp [results,Tryz.results124,go_sem]) rfl ⟨rfl,Below.refl _ _⟩
end Cn
end Go.Proofs.YtjpjjnalpdpljaaGreatDoor
set_option maxHeartbeats 1000000
namespace Go.Proofs.YtjpjjnalpdpljaaGreatDoor
open Go.RowKit
open Go.Lib (hid)
open ah (dL tc)
namespace Cn
open Mem
theorem bN {S:List Nat} {w w':World} (h:Flow.Into S w w') (a:Addr) (v:Value) (ha:a.block∈S):Flow.Into S w (w'.setCell a v):=h.trans (Gq w' a v ha)
theorem yQ (g b c n i a:Nat) (k:Int) (A B:Nat->Nat) (w:World) (h:ChW w g b c n k A B) (hi:i<=n) (ha:a<=n) (hb:B a<=n) (hk:0<=k/\k<=4096) (hia:i≠a) (hib:i≠B a):Calls Tryz.prog 126 #[g,(i:Int),(a:Int)] w fun e w'=>e=.returned (.tuple #[])/\ChW w' g b c n (k+1) (upd (upd A i a) (B a) i) (upd (upd B i (B a)) a i)/\Flow.Into [g,b] w w':=by
 have HR:=hid h;obtain ⟨d0,d1⟩:=h.cells;have d2:=h.lk.wN (i:=a) (by omega);have d3:=h.lk.rZ (i:=i) (by omega);have d4:=h.lk.wN (i:=i) (by omega);have d5:=h.lk.rZ (i:=B a) (by omega);have f0:=h.JY;have f1:=h.lk.free;have hn:=h.hi;have hne:=h.ne;have hwk:IntKind.i64.wrap (k+1)=k+1:=by rw [IntKind.wrap_i64];omega
 obtain ⟨x,hx⟩:∃x,x=B a:=⟨_,rfl⟩
 rw [<-hx] at d2 d5 hb hib ⊢;have HX:=hid hx;generalize (A i:Int)=y1 at d3;generalize (B i:Int)=y2 at d4;generalize (A x:Int)=y3 at d5;clear h hx;have n1:i*2≠a*2+1:=by omega
 have n2:a*2+1≠i*2:=by omega
 have n3:i*2+1≠x*2:=by omega
 have n4:x*2≠i*2+1:=by omega
 have n5:a*2+1≠x*2:=by omega
 have n6:x*2≠a*2+1:=by omega
 have hL1:(i:Int)<(n:Int)+1:=by omega
 have hL2:(a:Int)<(n:Int)+1:=by omega
 have hL3:(x:Int)<(n:Int)+1:=by omega
 have HB:=hid hb;have HI:=hid hi;have HA:=hid ha;clear hb hi ha;go_enter Tryz.func126,Tryz.ntmps126
 go_wp2
 go_end0
 refine ⟨rfl,((((HR.out.JW HI.out a).JX HI.out x).JX HA.out i).JW HB.out i).Qf _,?_⟩;refine bN (bN (bN (bN (bN (Flow.Into.refl _ _) _ _ ?_) _ _ ?_) _ _ ?_) _ _ ?_) _ _ ?_ <;>simp
theorem Ai (g b c n i:Nat) (k:Int) (A B:Nat->Nat) (w:World) (h:ChW w g b c n k A B) (hi:i<n) (hb:B i=i):CW 123 #[g,(i:Int)] w (.tuple #[]):=by
 have HR:=hid h;have cH:=fun w h=>hid (kX g b c n i k A B w h hi);rw [hb,bne_self_eq_false] at cH;clear h hb;go_enter Tryz.func123,Tryz.ntmps123
 go_wp2_with (go_at_call 122;refine (cH _ HR.out).out.mono ?_;rintro e w' ⟨rfl,rfl⟩)
 refine bodyPost_ret (results_none rfl _ _ _) rfl ⟨rfl,rfl⟩
theorem CZ (g b c n i:Nat) (k:Int) (A B:Nat->Nat) (w:World) (h:ChW w g b c n k A B) (hi:i<n) (hb:B i<=n) (ha:A i<=n) (hk:0<=k/\k<=4096) (hia:A i≠i) (hib:B i≠i):Calls Tryz.prog 123 #[g,(i:Int)] w fun e w'=>e=.returned (.tuple #[])/\ChW w' g b c n (k-1) (upd (upd A (B i) (A i)) i i) (upd (upd B (A i) (B i)) i i)/\Flow.Into [g,b] w w':=by
 have HR:=hid h;have cH:=fun w h=>hid (kX g b c n i k A B w h hi);rw [show (B i != i)=true by simpa using hib] at cH;obtain ⟨d0,d1⟩:=h.cells;have d3:=h.lk.rZ (i:=i) (by omega);have d4:=h.lk.wN (i:=i) (by omega);have d2:=h.lk.wN (i:=A i) (by omega);have d5:=h.lk.rZ (i:=B i) (by omega);have f0:=h.JY;have f1:=h.lk.free;have hn:=h.hi;have hne:=h.ne;have hwk:IntKind.i64.wrap (k-1)=k-1:=by rw [IntKind.wrap_i64];omega
 obtain ⟨x,hx⟩:∃x,x=B i:=⟨_,rfl⟩
 obtain ⟨a,hxa⟩:∃a,a=A i:=⟨_,rfl⟩
 rw [<-hx] at d4 d5 hb hib ⊢;rw [<-hxa] at d2 d3 ha hia ⊢;generalize (B a:Int)=y2 at d2;generalize (A x:Int)=y3 at d5;have hs:=h.CV;have hs2:=h.lk.lt;clear h hx hxa;have hL1:(i:Int)<(n:Int)+1:=by omega
 have hL2:(a:Int)<(n:Int)+1:=by omega
 have hL3:(x:Int)<(n:Int)+1:=by omega
 have HB:=hid hb;have HI:=hid hi;have HA:=hid ha;clear hb hi ha;go_enter Tryz.func123,Tryz.ntmps123
 go_wp2_with (go_at_call 122;refine (cH _ HR.out).out.mono ?_;rintro e w' ⟨rfl,rfl⟩)
 obtain ⟨w1,hw1⟩:∃w1,w1=w.alloc (Obj.cells #[(a:Int),(x:Int)] 191):=⟨_,rfl⟩
 have hB1:Bw w w1:=by rw [hw1];exact bAx
 have l0:w1.cell? ⟨w.heap.size,0,none⟩=some (.int .i64 (a:Int)):=by rw [hw1];exact congrArg (fun o=>match o with|some (Obj.cells c _ _)=>c[0]? |_=>none) (heap_alloc_new w (.cells #[(a:Int),(x:Int)] 191))
 have l1:w1.cell? ⟨w.heap.size,1,none⟩=some (.int .i64 (x:Int)):=by rw [hw1];exact congrArg (fun o=>match o with|some (Obj.cells c _ _)=>c[1]? |_=>none) (heap_alloc_new w (.cells #[(a:Int),(x:Int)] 191))
 have ht:w.heap.size<w1.heap.size:=by rw [hw1];simp
 rw [<-hw1];have HR1:=hid (HR.out.kept hB1);have HB1:=hid hB1;obtain ⟨t,htt⟩:∃t,t=w.heap.size:=⟨_,rfl⟩
 rw [<-htt] at l0 l1 ht hs hs2 ⊢;have HT:=hid htt;have hcd:=HR1.out.cells.1;have d2':=(Below.cell hB1 (p:=⟨b,a*2+1,none⟩) (by rw [<-htt];exact hs2)).trans d2;have d3':=(Below.cell hB1 (p:=⟨b,i*2,none⟩) (by rw [<-htt];exact hs2)).trans d3;have d4':=(Below.cell hB1 (p:=⟨b,i*2+1,none⟩) (by rw [<-htt];exact hs2)).trans d4;have d5':=(Below.cell hB1 (p:=⟨b,x*2,none⟩) (by rw [<-htt];exact hs2)).trans d5;clear hw1 hB1 htt d0 d1 d2 d3 d4 d5 f0 f1 cH;have e0:=tc hcd;have e1:=tc l0;have e2:=tc l1;have D2:=hid d2';have D3:=hid d3';have D4:=hid d4';have D5:=hid d5';have L0:=hid l0;have L1:=hid l1;clear hcd l0 l1 d2' d3' d4' d5';refine ah.aj [] [(0,[]),(1,[]),(2,[]),(3,[]),(4,[]),(5,[]),(6,[]),(7,[])] [] [] (by kernel_rfl) (by kernel_rfl) (by simp) ?_;simp only [ah.pick,ah.aO,dL]
 repeat (refine ah.ak (fun K hK=>?_);go_simp;refine hK _ ?_;clear hK K)
 refine ah.walk_nil ?_;intro w2 hb2 _;clear e0 e1 e2;have d2:=(Below.cell hb2 (p:=⟨b,a*2+1,none⟩) (Nat.lt_trans hs2 ht)).trans D2.out;have d3:=(Below.cell hb2 (p:=⟨b,i*2,none⟩) (Nat.lt_trans hs2 ht)).trans D3.out;have d4:=(Below.cell hb2 (p:=⟨b,i*2+1,none⟩) (Nat.lt_trans hs2 ht)).trans D4.out;have d5:=(Below.cell hb2 (p:=⟨b,x*2,none⟩) (Nat.lt_trans hs2 ht)).trans D5.out;have l0:=(Below.cell hb2 (p:=⟨t,0,none⟩) ht).trans L0.out;have l1:=(Below.cell hb2 (p:=⟨t,1,none⟩) ht).trans L1.out;have HR2:=hid (HR1.out.kept hb2);have HB2:=hid hb2;have f1:=HR2.out.lk.free;clear hb2 D2 D3 D4 D5 L0 L1;simp only [lC,Nat.zero_add,Nat.reduceAdd];go_wp2_with fail
 obtain ⟨w3,hw3⟩:∃w3,w3=w2.setCell ⟨b,a*2+1,none⟩ (x:Int):=⟨_,rfl⟩
 rw [<-hw3]
 have HI3:Hid (Flow.Into [g,b] w w3):=by
  rw [hw3];exact bN ((Flow.Into.of_below HB1.out).trans ((Flow.Into.of_below HB2.out))) _ _ (by simp)
 have HR3:Hid (ChW w3 g b c n k A (upd B a x)):=by rw [hw3];exact HR2.out.JX HA.out x
 have htb:t≠b:=by omega
 have htb':b≠t:=by omega
 have m0:w3.cell? ⟨t,0,none⟩=some (.int .i64 (a:Int)):=by rw [hw3,World.cell?_setCell_other w2 _ _ _ (by simp)];exact l0
 have m1:w3.cell? ⟨t,1,none⟩=some (.int .i64 (x:Int)):=by rw [hw3,World.cell?_setCell_other w2 _ _ _ (by simp)];exact l1
 have ht3:t<w3.heap.size:=World.block_lt_of_cell? w3 _ m0;clear hw3 l0 l1 d2 d3 d4 d5 f1 HR2 HR1;have hcd:=HR3.out.cells.1;have e0:=tc hcd;have e1:=tc m0;have e2:=tc m1;clear hcd m0 m1;refine ah.aj [] [(0,[]),(1,[]),(2,[]),(3,[]),(4,[]),(5,[]),(6,[]),(7,[])] [] [] (by kernel_rfl) (by kernel_rfl) (by simp) ?_;simp only [ah.pick,ah.aO,dL]
 repeat (refine ah.ak (fun K hK=>?_);go_simp;refine hK _ ?_;clear hK K)
 refine ah.walk_nil ?_;intro w4 hb4 _;clear e0 e1 e2;have HR4:=hid (HR3.out.kept hb4);have HI4:Hid (Flow.Into [g,b] w w4):=HI3.out.trans (Flow.Into.of_below hb4);clear hb4;obtain ⟨d0,d1⟩:=HR4.out.cells;have d3:=HR4.out.lk.rZ (i:=i) (by have:=HI.out;omega);have d4:=HR4.out.lk.wN (i:=i) (by have:=HI.out;omega);have d5:=HR4.out.lk.rZ (i:=x) (by have:=HB.out;omega);have f0:=HR4.out.JY;have f1:=HR4.out.lk.free;generalize (A i:Int)=z1 at d3;generalize (upd B a x i:Int)=z2 at d4;generalize (A x:Int)=z3 at d5;have n1:i*2≠x*2:=by omega
 have n2:x*2≠i*2:=by omega
 have n3:i*2+1≠x*2:=by omega
 have n4:x*2≠i*2+1:=by omega
 have n5:i*2+1≠i*2:=by omega
 simp only [lC,Nat.zero_add,Nat.reduceAdd];go_wp2_with fail
 go_end0
 refine ⟨rfl,(((HR4.out.JW HB.out a).JW (Nat.le_of_lt HI.out) i).JX (Nat.le_of_lt HI.out) i).Qf _,?_⟩;refine bN (bN (bN (bN HI4.out _ _ ?_) _ _ ?_) _ _ ?_) _ _ ?_ <;>simp
end Cn
end Go.Proofs.YtjpjjnalpdpljaaGreatDoor
namespace Go.Proofs.YtjpjjnalpdpljaaGreatDoor
open Go.RowKit
namespace Cn
open Mem
def inN (n:Nat) (i:Int):Bool:=decide (0<=i)&&decide (i<n)
theorem r9 {n:Nat} {i:Int} (h:inN n i=true):∃k:Nat,i=(k:Int)/\k<n:=by
 simp only [inN,Bool.and_eq_true,decide_eq_true_eq] at h;exact ⟨i.toNat,by omega,by omega⟩
theorem C8 {n k:Nat} (h:k<n):inN n (k:Int)=true:=by simp [inN];omega
theorem oU {n:Nat} {i:Int} (h:inN n i=false):¬(0<=i/\i<n):=by
 intro hh;have:inN n i=true:=by simp [inN];omega
 rw [this] at h;cases h
def C9 (l:List Nat) (i:Int):Bool:=decide (0<=i)&&l.contains i.toNat
def Od (n:Nat) (i:Int):Int:=if inN n i then 0 else 4
def Qg (n:Nat) (l:List Nat) (i:Int):Int:=if inN n i then (if C9 l i then 0 else 9) else 4
def JZ (n:Nat) (l:List Nat) (i:Int):List Nat:=if inN n i then i.toNat::del l i.toNat else l
def J2 (n:Nat) (l:List Nat) (i:Int):List Nat:=if inN n i then del l i.toNat++[i.toNat] else l
def OT (n:Nat) (l:List Nat) (i:Int):List Nat:=if inN n i then del l i.toNat else l
theorem yR (l:List Nat) (k:Nat):C9 l (k:Int)=l.contains k:=by simp [C9]
section
variable {w:World} {g b n:Nat} {l:List Nat}
theorem Qh (h:Chn w g b n l) (i:Int):CW 122 #[g,i] w (.bool (C9 l i)):=by
 obtain ⟨c,A,B,h1,h2⟩:=h;cases hi:inN n i with
 |true=>
  obtain ⟨k,rfl,hk⟩:=r9 hi
  have e:(B k != k)=C9 l k:=by
   have:=h2.has hk;rw [yR,Bool.eq_iff_iff];simp [this]
  rw [<-e];exact kX g b c n k _ A B w h1 hk
 |false=>
  have e:C9 l i=false:=by
   have:=oU hi;by_cases h0:0<=i
   . have:i.toNat∉l:=fun hm=>by have:=h2.lt _ hm;omega
     simp [C9,this]
   . simp [C9,h0]
  rw [e];exact wO g b c n i _ A B w h1 (oU hi)
theorem J3 (h:Chn w g b n l):CB 124 #[g] w (.tuple #[((lst 0 l:Nat):Int),.bool (decide (0<l.length))]):=by
 obtain ⟨c,A,B,h1,h2⟩:=h;cases l with
 |nil=>exact CY g b c n A B w h1
 |cons y r=>
  have:=CX g b c n _ A B w h1 (by simp;omega);rw [h2.ends.2] at this;simpa [Cn.lst] using this
theorem wP (h:Chn w g b n l) {i:Nat} (hi:i<n):Calls Tryz.prog 123 #[g,(i:Int)] w fun e w'=>e=.returned (.tuple #[])/\Chn w' g b n (del l i)/\Flow.Into [g,b] w w':=by
 obtain ⟨c,A,B,h1,h2⟩:=h;by_cases hm:i∈l
 . obtain ⟨l1,l2,rfl⟩:=List.append_of_mem hm
   obtain ⟨e1,e2,e3,e4⟩:=h2.next;obtain ⟨f1,f2,_,_,_,_,_,_⟩:=nY h2;have hl1:∀x∈l1,x<n:=fun x hx=>h2.lt x (by simp [hx])
   have hl2:∀x∈l2,x<n:=fun x hx=>h2.lt x (by simp [hx])
   have hlen:=h2.yA;have hn:=h1.hi;rw [BJ f1 f2];refine (CZ g b c n i _ A B w h1 hi (by rw [e1];exact LC hl2) (by rw [e3];exact IV hl1) ⟨by omega,by omega⟩ ?_ ?_).mono fun e w' ⟨he,hc,hI⟩=>⟨he,⟨c,_,_,?_,h2.loosen⟩,hI⟩
   . rw [e3]
     rintro he;rcases List.mem_cons.1 (j5 n l1) with hp|hp
     . omega
     . exact f1 (he▸hp)
   . rw [e1]
     rintro he;rcases qo l2 n with hp|hp
     . omega
     . exact f2 (he▸hp)
   . have e:((l1++i::l2).length:Int)-1=((l1++l2).length:Int):=by simp;omega
     rw [<-e];exact hc
 . rw [kN hm]
   exact (Ai g b c n i _ A B w h1 hi (h2.out i hi hm)).mono fun e w' ⟨he,hw⟩=>⟨he,hw▸⟨c,A,B,h1,h2⟩,hw▸Flow.Into.refl _ _⟩
theorem wR (h:Chn w g b n l) {i:Nat} (hi:i<n) (hm:i∉l):Calls Tryz.prog 126 #[g,(i:Int),(n:Int)] w fun e w'=>e=.returned (.tuple #[])/\Chn w' g b n (i::l)/\Flow.Into [g,b] w w':=by
 obtain ⟨c,A,B,h1,h2⟩:=h;have hlen:=h2.yA;have hn:=h1.hi;refine (yQ g b c n i n _ A B w h1 (Nat.le_of_lt hi) (Nat.le_refl _) (by rw [h2.ends.1];exact LC h2.lt) ⟨by omega,by omega⟩ (by omega) ?_).mono fun e w' ⟨he,hc,hI⟩=>⟨he,⟨c,_,_,?_,h2.front hi hm rfl⟩,hI⟩
 . rw [h2.ends.1]
   rintro he;rcases qo l n with hp|hp
   . omega
   . exact hm (he▸hp)
 . simpa using hc
end
end Cn
end Go.Proofs.YtjpjjnalpdpljaaGreatDoor
set_option maxHeartbeats 1000000
set_option maxRecDepth 100000
namespace Go.Proofs.YtjpjjnalpdpljaaGreatDoor
open Go.RowKit
open Go.Lib (hid)
namespace Cn
open Mem
section
variable {w:World} {g b n:Nat} {l:List Nat}
theorem kY (h:Chn w g b n l) {i:Nat} (hi:i<n):CW 121 #[g,(i:Int)] w (.int .i64 0):=by
 obtain ⟨c,A,B,h1,h2⟩:=h;exact dI g b c n _ A B i w h1 (by omega) (by omega)
theorem mD (h:Chn w g b n l) {i:Int} (hi:¬(0<=i/\i<n)):CW 121 #[g,i] w (.int .i64 4):=by
 obtain ⟨c,A,B,h1,h2⟩:=h;exact fD g b c n _ A B i w h1 hi
theorem Q6 (h:Chn w g b n l):CW 127 #[g] w (.int .i64 (n:Int)):=by
 obtain ⟨c,A,B,h1,h2⟩:=h;exact oP g b c n _ A B w h1
theorem Da (h:Chn w g b n l) {i:Int} (hi:¬(0<=i/\i<n)):CW 88 #[g,i] w (.int .i64 4):=by
 have cP:=hid (mD h hi);clear h hi;go_enter Tryz.func88,Tryz.ntmps88
 go_wp2_with (go_at_call 121;refine cP.out.mono ?_;rintro e w' ⟨rfl,rfl⟩)
 go_ret
 exact ⟨rfl,rfl⟩
theorem Gr (h:Chn w g b n l) {i:Nat} (hi:i<n):Calls Tryz.prog 88 #[g,(i:Int)] w fun e w'=>e=.returned (0:Int)/\Chn w' g b n (i::del l i)/\Flow.Into [g,b] w w':=by
 have cP:=hid (kY h hi);have cL:=hid (wP h hi);have cJ:=fun w (h:Chn w g b n (del l i))=>hid (wR h hi (gT l i));have cE:=fun w (h:Chn w g b n (del l i))=>hid (Q6 h);clear h hi;generalize del l i=l' at*;go_enter Tryz.func88,Tryz.ntmps88
 go_wp2_with (first
  |(go_at_call 121;refine cP.out.mono ?_;rintro e w' ⟨rfl,rfl⟩)
  |(go_at_call 123;refine cL.out.mono ?_;rintro e w1 ⟨rfl,hc,hI⟩;have HC:=hid hc;have HI:=hid hI;clear hc hI)
  |(go_at_call 127;refine (cE _ HC.out).out.mono ?_;rintro e w' ⟨rfl,rfl⟩)
  |(go_at_call 126;refine (cJ _ HC.out).out.mono ?_;rintro e w2 ⟨rfl,hc,hI⟩;have HC2:=hid hc;have HI2:=hid hI;clear hc hI))
 go_ret
 exact ⟨rfl,HC2.out,HI.out.trans HI2.out⟩
theorem Gs (h:Chn w g b n l) {i:Int} (hi:¬(0<=i/\i<n)):CW 108 #[g,i] w (.int .i64 4):=by
 have cP:=hid (mD h hi);clear h hi;go_enter Tryz.func108,Tryz.ntmps108
 go_wp2_with (go_at_call 121;refine cP.out.mono ?_;rintro e w' ⟨rfl,rfl⟩)
 go_ret
 exact ⟨rfl,rfl⟩
theorem Aj {c:Nat} {A B:Nat->Nat} (h1:ChW w g b c n (l.length:Int) A B) (h2:Ring n A B l) {i:Nat} (hi:i<n) (hm:i∉l):Calls Tryz.prog 126 #[g,(i:Int),(A n:Int)] w fun e w'=>e=.returned (.tuple #[])/\Chn w' g b n (l++[i])/\Flow.Into [g,b] w w':=by
 have hlen:=h2.yA;have hn:=h1.hi;have ha:A n<=n:=by rw [h2.ends.2];exact IV h2.lt
 have hb:B (A n)=n:=by
  have:=(fQ (l1:=l) (l2:=[])).1 (by simpa using h2.lk);rw [h2.ends.2];exact this.2.1
 refine (yQ g b c n i (A n) _ A B w h1 (Nat.le_of_lt hi) ha (by omega) ⟨by omega,by omega⟩ ?_ (by omega)).mono fun e w' ⟨he,hc,hI⟩=>⟨he,⟨c,_,_,?_,h2.back hi hm rfl rfl⟩,hI⟩
 . rw [h2.ends.2]
   rintro he;rcases List.mem_cons.1 (j5 n l) with hp|hp
   . omega
   . exact hm (he▸hp)
 . simpa using hc
theorem J4 (h:Chn w g b n l) {i:Nat} (hi:i<n):Calls Tryz.prog 108 #[g,(i:Int)] w fun e w'=>e=.returned (0:Int)/\Chn w' g b n (del l i++[i])/\Flow.Into [g,b] w w':=by
 have cP:=hid (kY h hi);have cL:=hid (wP h hi);have HD:=hid (gT l i);have HL:=hid hi;clear h hi;generalize del l i=l' at*;go_enter Tryz.func108,Tryz.ntmps108
 go_wp2_with (first
  |(go_at_call 121;refine cP.out.mono ?_;rintro e w' ⟨rfl,rfl⟩)
  |(go_at_call 123;refine cL.out.mono ?_;rintro e w1 ⟨rfl,hc,hI⟩;have HC:=hid hc;have HI:=hid hI;clear hc hI))
 obtain ⟨c,A,B,h1,h2⟩:=HC.out;have hb2:Below w1.heap.size w1 { w1 with drawn:=w1.drawn+1 }:=⟨rfl,rfl,rfl,Nat.le_refl _,fun _ _=>rfl⟩;have HH:=hid (h1.kept hb2);have HJ:=hid (Aj (h1.kept hb2) h2 HL.out HD.out);have HE:=hid (oP g b c n _ A B _ (h1.kept hb2));have HIn:Hid (Flow.Into [g,b] w { w1 with drawn:=w1.drawn+1 }):=HI.out.trans (Flow.Into.of_below hb2);have d0:=HH.out.cells.1;have d1:=HH.out.lk.rZ (i:=n) (by omega);have hL:(n:Int)<(n:Int)+1:=by omega
 generalize (A n:Int)=x at*;clear h1 h2 hb2;refine wp_region_still_tail 11 (by kernel_rfl) (by kernel_rfl) ?_;simp only [List.take_succ_cons,List.take_zero,List.drop_succ_cons,List.drop_zero];generalize { w1 with drawn:=w1.drawn+1 }=w2 at*
 repeat (refine wpStill_step (fun K hK=>?_);go_simp;first|(refine hK _ ?_;clear hK K)|(refine ⟨_,HE.out.mono fun e w' ⟨he,hw⟩=>⟨he,hw.symm⟩,hK _ ?_⟩;clear hK K))
 refine wpStill_nil ?_;go_wp2_with (go_at_call 126;refine HJ.out.mono ?_;rintro e w2 ⟨rfl,hc,hI⟩;have HC2:=hid hc;have HI2:=hid hI;clear hc hI)
 go_ret
 exact ⟨rfl,HC2.out,HIn.out.trans HI2.out⟩
theorem J5 (h:Chn w g b n l) {i:Int} (hi:¬(0<=i/\i<n)):CW 83 #[g,i] w (.int .i64 4):=by
 have cP:=hid (mD h hi);clear h hi;go_enter Tryz.func83,Tryz.ntmps83
 go_wp2_with (go_at_call 121;refine cP.out.mono ?_;rintro e w' ⟨rfl,rfl⟩)
 go_ret
 exact ⟨rfl,rfl⟩
theorem Gt (h:Chn w g b n l) {i:Nat} (hi:i<n) (hm:C9 l (i:Int)=false):CW 83 #[g,(i:Int)] w (.int .i64 9):=by
 have cP:=hid (kY h hi);have cH:=hid (Qh h i);rw [hm] at cH;clear h hi hm;go_enter Tryz.func83,Tryz.ntmps83
 go_wp2_with (first
  |(go_at_call 121;refine cP.out.mono ?_;rintro e w' ⟨rfl,rfl⟩)
  |(go_at_call 122;refine cH.out.mono ?_;rintro e w' ⟨rfl,rfl⟩))
 go_ret
 exact ⟨rfl,rfl⟩
theorem Md (h:Chn w g b n l) {i:Nat} (hi:i<n) (hm:C9 l (i:Int)=true):Calls Tryz.prog 83 #[g,(i:Int)] w fun e w'=>e=.returned (0:Int)/\Chn w' g b n (del l i)/\Flow.Into [g,b] w w':=by
 have cP:=hid (kY h hi);have cH:=hid (Qh h i);have cL:=hid (wP h hi);rw [hm] at cH;clear h hi hm;generalize del l i=l' at*;go_enter Tryz.func83,Tryz.ntmps83
 go_wp2_with (first
  |(go_at_call 121;refine cP.out.mono ?_;rintro e w' ⟨rfl,rfl⟩)
  |(go_at_call 122;refine cH.out.mono ?_;rintro e w' ⟨rfl,rfl⟩)
  |(go_at_call 123;refine cL.out.mono ?_;rintro e w1 ⟨rfl,hc,hI⟩;have HC:=hid hc;have HI:=hid hI;clear hc hI))
 go_ret
 exact ⟨rfl,HC.out,HI.out⟩
theorem Me (h:Chn w g b n l) (i:Int):Calls Tryz.prog 88 #[g,i] w fun e w'=>e=.returned (Od n i:Int)/\Chn w' g b n (JZ n l i)/\Flow.Into [g,b] w w':=by
 unfold Od JZ;cases hi:inN n i with
 |true=>
  obtain ⟨k,rfl,hk⟩:=r9 hi;exact Gr h hk
 |false=>exact (Da h (oU hi)).mono fun e w' ⟨he,hw⟩=>⟨he,hw▸h,hw▸Flow.Into.refl _ _⟩
theorem OU (h:Chn w g b n l) (i:Int):Calls Tryz.prog 108 #[g,i] w fun e w'=>e=.returned (Od n i:Int)/\Chn w' g b n (J2 n l i)/\Flow.Into [g,b] w w':=by
 unfold Od J2;cases hi:inN n i with
 |true=>
  obtain ⟨k,rfl,hk⟩:=r9 hi;exact J4 h hk
 |false=>exact (Gs h (oU hi)).mono fun e w' ⟨he,hw⟩=>⟨he,hw▸h,hw▸Flow.Into.refl _ _⟩
theorem Q7 (h:Chn w g b n l) (i:Int):Calls Tryz.prog 83 #[g,i] w fun e w'=>e=.returned (Qg n l i:Int)/\Chn w' g b n (OT n l i)/\Flow.Into [g,b] w w':=by
 unfold Qg OT;cases hi:inN n i with
 |true=>
  obtain ⟨k,rfl,hk⟩:=r9 hi;cases hm:C9 l (k:Int) with
  |true=>exact Md h hk hm
  |false=>
   have:k∉l:=(by rw [yR] at hm;simpa using hm);have e:del l ((k:Int)).toNat=l:=kN (by simpa using this);simp only [if_true,e];exact (Gt h hk hm).mono fun e w' ⟨he,hw⟩=>⟨he,hw▸h,hw▸Flow.Into.refl _ _⟩
 |false=>exact (J5 h (oU hi)).mono fun e w' ⟨he,hw⟩=>⟨he,hw▸h,hw▸Flow.Into.refl _ _⟩
end
end Cn
end Go.Proofs.YtjpjjnalpdpljaaGreatDoor
namespace Go.Proofs.YtjpjjnalpdpljaaGreatDoor
open Go.RowKit
namespace Cn
open Mem
theorem Gu:(Tryz.prog.info? 191).map (fun i=>(i.zero,i.size,i.bytes))=some (some (.agg #[(0:Int),(0:Int)]),2,16):=by kernel_rfl
def Qi (l:List Nat):List Int:=l.map Int.ofNat
@[simp] theorem J6 (l:List Nat):(Qi l).length=l.length:=by simp [Qi]
section
variable {w:World} {g b n:Nat} {l:List Nat}
theorem Chn.step {A B:Nat->Nat} (h2:Ring n A B l) {k:Nat} (hk:k<l.length):B l[k]=hd (l.drop (k+1)) n:=by
 have e:l=l.take k++l[k]::l.drop (k+1):=by rw [<-List.drop_eq_getElem_cons hk,List.take_append_drop]
 have h3:Ring n A B (l.take k++l[k]::l.drop (k+1)):=by rw [<-e];exact h2
 exact h3.next.1
end
end Cn
end Go.Proofs.YtjpjjnalpdpljaaGreatDoor
namespace Go.Proofs.YtjpjjnalpdpljaaGreatDoor
open Go.RowKit
open List (getElem?_set mem_cons)
namespace Dv
open Mem
def Cells (U:TypeId) (w:World) (q:Nat) (C:List Value):Prop:=w.heap[q]? =some (.cells C.toArray U (0,0))
theorem oV {U:TypeId} {w:World} {q:Nat} {L L':List Value} (h:Cells U w q L) (h':Cells U w q L'):L=L':=by
 unfold Cells at h h';rw [h] at h';have h3:(Obj.cells L.toArray U (0,0))= .cells L'.toArray U (0,0):=Option.some.inj h';have h4:L.toArray=L'.toArray:=by injection h3
 simpa using h4
theorem Cells.lt {U:TypeId} {w:World} {q:Nat} {L:List Value} (h:Cells U w q L):q<w.heap.size:=(Array.getElem?_eq_some_iff.1 h).1
theorem aY (w:World) (a:Addr) (u:Value):Flow.Into [a.block] w (w.setCell a u):=
 ⟨rfl,rfl,rfl,by simp [World.setCell],fun k _ hn=>Below.heap_setCell _ _ _ _ (by simpa using hn)⟩
def win {α:Type} (L:List α) (o m:Nat):List α:=(L.drop o).take m
theorem win_length {α:Type} {L:List α} {o m:Nat} (h:o+m<=L.length):(win L o m).length=m:=by simp [win];omega
theorem J7 {α:Type} (l:List α):win l 0 l.length=l:=by simp [win]
theorem sj {α:Type} {L:List α} {o m k:Nat}:(win L o m)[k]? =if k<m then L[o+k]? else none:=by
 unfold win;rw [List.getElem?_take];split
 . rw [List.getElem?_drop]
 . rfl
theorem qB {α:Type} {L l:List α} {o k:Nat} (h:o+l.length<=L.length):(splice L o l)[k]? =if o<=k/\k<o+l.length then l[k-o]? else L[k]? :=by
 unfold splice;have ht:(L.take o).length=o:=by simp;omega
 by_cases h1:k<o
 . rw [if_neg (by omega),List.getElem?_append_left (by omega),List.getElem?_take,if_pos h1]
 . rw [List.getElem?_append_right (by omega),ht]
   by_cases h2:k<o+l.length
   . rw [if_pos (by omega),List.getElem?_append_left (by omega)]
   . rw [if_neg (by omega),List.getElem?_append_right (by omega),List.getElem?_drop]
     congr 1;omega
theorem Ak {α:Type} {L l:List α} {o:Nat} (h:o+l.length<=L.length):win (splice L o l) o l.length=l:=by
 apply List.ext_getElem?;intro k;rw [sj];by_cases hk:k<l.length
 . rw [if_pos hk,qB h,if_pos (by omega)];congr 1;omega
 . rw [if_neg hk,List.getElem?_eq_none (by omega)]
theorem Db {α:Type} {L l:List α} {o o' m:Nat} (h:o+l.length<=L.length) (ha:o+l.length<=o'\/o'+m<=o):win (splice L o l) o' m=win L o' m:=by
 apply List.ext_getElem?;intro k;rw [sj,sj];by_cases hk:k<m
 . rw [if_pos hk,if_pos hk,qB h,if_neg (by omega)]
 . rw [if_neg hk,if_neg hk]
theorem oW {U:TypeId} {w:World} {q:Nat} {C:List Value} (h:Cells U w q C) {o m:Nat} {x:List UInt8} (hl:o+m<=C.length) (hx:win C o m=aI x):x.length=m/\BL w (some ⟨q,o,none⟩) x:=by
 have hm:x.length=m:=by rw [<-bM,<-hx,win_length hl]
 refine ⟨hm,fun _=>⟨q,o,rfl,fun i hi=>?_⟩⟩;have h1:(aI x)[i]? =C[o+i]? :=by rw [<-hx,sj,if_pos (by omega)]
 unfold Cells at h;simp only [World.cell?,h];have:C[o+i]? =some (j6 x[i]):=by rw [<-h1];simp [aI,hi]
 simpa using this
abbrev Bk:=Option (Nat × Nat × Nat)
def bkV (m:Nat):Bk->Value
 |none=> .slice none 0 0
 |some (q,o,k)=> .slice (some ⟨q,o,none⟩) m k
def foot (g b:Nat) (bks:List Bk):List Nat:=g::b::bks.filterMap (·.map (·.1))
theorem mE {g b i q o k:Nat} {bks:List Bk} (h:bks[i]? =some (some (q,o,k))):q∈foot g b bks:=by
 unfold foot;refine List.mem_cons_of_mem _ (List.mem_cons_of_mem _ (List.mem_filterMap.2 ⟨some (q,o,k),List.mem_of_getElem? h,rfl⟩))
theorem su {g b q:Nat} {bks:List Bk} (h:q∈foot g b bks):q=g\/q=b\/∃i o k:Nat,bks[i]? =some (some (q,o,k)):=by
 unfold foot at h;rcases mem_cons.1 h with h|h
 . exact .inl h
 rcases mem_cons.1 h with h|h
 . exact .inr (.inl h)
 obtain ⟨x,hx,e⟩:=List.mem_filterMap.1 h;cases x with
 |none=>cases e
 |some x=>
  obtain ⟨q',o,k⟩:=x;obtain rfl:q'=q:=by simpa using e
  obtain ⟨i,hi⟩:=List.getElem?_of_mem hx;exact .inr (.inr ⟨i,o,k,hi⟩)
theorem Gv {g b i q o k x:Nat} {bks:List Bk} (h:x∈foot g b (bks.set i (some (q,o,k)))):x=q\/x∈foot g b bks:=by
 rcases su h with rfl|rfl|⟨j,o',k',hj⟩
 . exact .inr (by simp [foot])
 . exact .inr (by simp [foot])
 . rw [getElem?_set] at hj
   split at hj
   . split at hj
     . left;simp at hj;exact hj.1.symm
     . cases hj
   . exact .inr (mE hj)
structure iC (w:World) (g b c m:Nat) (bks:List Bk) (ls:List (List UInt8)) (r s:Nat):Prop where
 hd:w.heap[g]? =some (.cells #[(m:Int),.slice (some ⟨b,0,none⟩) bks.length c,.int .u64 (r:Int),.int .u64 (s:Int)] 104 (0,0))
 ow:Ow 72 w b c (bks.map (bkV m))
 len:bks.length=ls.length
 ll:∀l,l∈ls->l.length=m
 no:∀i:Nat,bks[i]? =some none->ls[i]? =some (List.replicate m 0)
 yes:∀i q o k:Nat,bks[i]? =some (some (q,o,k))->q≠g/\q≠b/\m<=k/\∃C x,Cells 5 w q C/\o+m<=C.length/\ls[i]? =some x/\win C o m=aI x
 ap:∀i j q o k o' k':Nat,i≠j->bks[i]? =some (some (q,o,k))->bks[j]? =some (some (q,o',k'))->o+m<=o'\/o'+m<=o
section
variable {w w':World} {g b c m:Nat} {bks:List Bk} {ls:List (List UInt8)} {r s:Nat}
theorem iC.ne (h:iC w g b c m bks ls r s):g≠b:=by
 rintro rfl;obtain ⟨_,h2⟩:=h.ow;rcases h2 with ⟨h',_⟩|⟨g',cap',cur,he,_,hh,_⟩
 . cases h'
 . obtain ⟨rfl,rfl⟩:g=g'/\c=cap':=by simpa using he
   rw [h.hd] at hh;simp at hh
theorem iC.lt (h:iC w g b c m bks ls r s):∀k,k∈foot g b bks->k<w.heap.size:=by
 intro k hk;rcases su hk with rfl|rfl|⟨i,o,k',hi⟩
 . exact (Array.getElem?_eq_some_iff.1 h.hd).1
 . exact h.ow.lt
 . obtain ⟨_,_,_,C,x,hr,_⟩:=h.yes i _ _ _ hi
   exact hr.lt
theorem iC.cells (h:iC w g b c m bks ls r s):w.cell? ⟨g,0,none⟩=some (.int .i64 (m:Int))/\w.cell? ⟨g,1,none⟩=some (.slice (some ⟨b,0,none⟩) bks.length c)/\w.cell? ⟨g,2,none⟩=some (.int .u64 (r:Int))/\w.cell? ⟨g,3,none⟩=some (.int .u64 (s:Int)):=by
 have:=h.hd;simp [World.cell?,this]
theorem iC.free (h:iC w g b c m bks ls r s) (i:Nat):w.frozen? ⟨g,i,none⟩=false:=by
 have:=h.hd;simp [World.frozen?,this]
theorem iC.OV (h:iC w g b c m bks ls r s) (i:Nat):w.frozen? ⟨b,i,none⟩=false:=h.ow.free i
theorem iC.Gw (h:iC w g b c m bks ls r s) {i:Nat} {x:Bk} (hi:bks[i]? =some x):w.cell? ⟨b,i,none⟩=some (bkV m x):=by
 obtain ⟨h1,h2⟩:=List.getElem?_eq_some_iff.1 hi;rw [h.ow.cell (by simpa using h1)];simp [h2]
theorem iC.keep (h:iC w g b c m bks ls r s) (hk:∀k,k∈foot g b bks->w'.heap[k]? =w.heap[k]?):iC w' g b c m bks ls r s:=
 ⟨(hk g (by simp [foot])).trans h.hd,h.ow.keep (hk b (by simp [foot])),h.len,h.ll,h.no,fun i q o k hi=>by
   obtain ⟨h1,h2,h3,C,x,h4,h5⟩:=h.yes i q o k hi
   exact ⟨h1,h2,h3,C,x,(hk q (mE hi)).trans h4,h5⟩,h.ap⟩
theorem iC.kept (h:iC w g b c m bks ls r s) (hb:Bw w w'):iC w' g b c m bks ls r s:=h.keep fun k hk=>hb.block k (h.lt k hk)
theorem iC.into {S:List Nat} (h:iC w g b c m bks ls r s) (hb:Flow.Into S w w') (hn:∀k,k∈foot g b bks->k∉S):iC w' g b c m bks ls r s:=h.keep fun k hk=>hb.block k (h.lt k hk) (hn k hk)
theorem iC.head (h:iC w g b c m bks ls r s) {r' s':Nat} (hi:Flow.Into [g] w w') (hh:w'.heap[g]? =some (.cells #[(m:Int),.slice (some ⟨b,0,none⟩) bks.length c,.int .u64 (r':Int),.int .u64 (s':Int)] 104 (0,0))):iC w' g b c m bks ls r' s':=by
 have hb:∀k,k∈foot g b bks->k≠g->w'.heap[k]? =w.heap[k]? :=fun k hk hn=>hi.block k (h.lt k hk) (by simpa using hn)
 exact ⟨hh,h.ow.keep (hb b (by simp [foot]) h.ne.symm),h.len,h.ll,h.no,fun i q o k hi=>by
  obtain ⟨h1,h2,h3,C,x,h4,h5⟩:=h.yes i q o k hi
  exact ⟨h1,h2,h3,C,x,(hb q (mE hi) h1).trans h4,h5⟩,h.ap⟩
theorem iC.read (h:iC w g b c m bks ls r s):iC (w.setCell ⟨g,2,none⟩ (.int .u64 ((r:Int)+1))) g b c m bks ls (r+1) s/\Flow.Into [g] w (w.setCell ⟨g,2,none⟩ (.int .u64 ((r:Int)+1))):=by
 have hi:=aY w ⟨g,2,none⟩ (.int .u64 ((r:Int)+1));refine ⟨h.head hi ?_,hi⟩;have:=h.hd;simp [World.setCell,Array.getElem?_modify,this]
theorem iC.wrote (h:iC w g b c m bks ls r s):iC (w.setCell ⟨g,3,none⟩ (.int .u64 ((s:Int)+1))) g b c m bks ls r (s+1)/\Flow.Into [g] w (w.setCell ⟨g,3,none⟩ (.int .u64 ((s:Int)+1))):=by
 have hi:=aY w ⟨g,3,none⟩ (.int .u64 ((s:Int)+1));refine ⟨h.head hi ?_,hi⟩;have:=h.hd;simp [World.setCell,Array.getElem?_modify,this]
theorem iC.put (h:iC w g b c m bks ls r s) {i q o k:Nat} {C:List Value} {x:List UInt8} (hi:i<bks.length) (hq:Cells 5 w q C) (hg:q≠g) (hb:q≠b) (hl:o+m<=C.length) (hx:win C o m=aI x) (hk:m<=k)
 (ha:∀j o' k':Nat,i≠j->bks[j]? =some (some (q,o',k'))->o+m<=o'\/o'+m<=o):
 iC (w.setCell ⟨b,i,none⟩ (bkV m (some (q,o,k)))) g b c m (bks.set i (some (q,o,k))) (ls.set i x) r s/\Flow.Into [b] w (w.setCell ⟨b,i,none⟩ (bkV m (some (q,o,k)))):=by
 have hin:=aY w ⟨b,i,none⟩ (bkV m (some (q,o,k)));have hbl:∀x,x<w.heap.size->x≠b->(w.setCell ⟨b,i,none⟩ (bkV m (some (q,o,k)))).heap[x]? =w.heap[x]? :=fun x hx hn=>hin.block x hx (by simpa using hn)
 have hil:i<ls.length:=by rw [<-h.len];exact hi
 refine ⟨⟨?_,?_,by simp [h.len],?_,?_,?_,?_⟩,hin⟩
 . rw [hbl g (h.lt g (by simp [foot])) h.ne,h.hd,List.length_set]
 . have:=(h.ow.set i (bkV m (some (q,o,k)))).1
   rw [List.map_set];exact this
 . intro l hl'
   rcases List.mem_or_eq_of_mem_set hl' with h'|rfl
   . exact h.ll l h'
   . exact (oW hq hl hx).1
 . intro j hj
   rw [getElem?_set] at hj ⊢;by_cases e:i=j
   . subst e;simp [hi] at hj
   . simp only [e,if_false] at hj ⊢
     exact h.no j hj
 . intro j q' o' k' hj
   rw [getElem?_set] at hj;rw [getElem?_set];by_cases e:i=j
   . subst e
     simp only [if_true,hi,Option.some.injEq,Prod.mk.injEq] at hj;obtain ⟨rfl,rfl,rfl⟩:=hj;exact ⟨hg,hb,hk,C,x,(hbl q hq.lt hb).trans hq,hl,by simp [hil],hx⟩
   . simp only [e,if_false] at hj ⊢
     obtain ⟨h1,h2,h3,C',x',h4,h5,h6⟩:=h.yes j q' o' k' hj;exact ⟨h1,h2,h3,C',x',(hbl q' h4.lt h2).trans h4,h5,h6⟩
 . intro j j' q' o1 k1 o2 k2 hn h1 h2
   rw [getElem?_set] at h1 h2;by_cases e:i=j
   . subst e
     have e':¬i=j':=hn;simp only [if_true,hi,Option.some.injEq,Prod.mk.injEq] at h1;simp only [e',if_false] at h2;obtain ⟨rfl,rfl,rfl⟩:=h1;exact ha j' o2 k2 hn h2
   . simp only [e,if_false] at h1
     by_cases e':i=j'
     . subst e'
       simp only [if_true,hi,Option.some.injEq,Prod.mk.injEq] at h2;obtain ⟨rfl,rfl,rfl⟩:=h2;rcases ha j o1 k1 (Ne.symm hn) h1 with h'|h'
       . exact .inr h'
       . exact .inl h'
     . simp only [e',if_false] at h2
       exact h.ap j j' q' o1 k1 o2 k2 hn h1 h2
theorem iC.splice (h:iC w g b c m bks ls r s) {i q o k:Nat} {C:List Value} {l:List UInt8} (hi:bks[i]? =some (some (q,o,k))) (hq:Cells 5 w q C) (hl:l.length=m) (hw:Flow.Into [q] w w') (hq':Cells 5 w' q (Go.splice C o (aI l))):iC w' g b c m bks (ls.set i l) r s:=by
 obtain ⟨hg,hb,hk,L0,x0,h4,h5,h6,h7⟩:=h.yes i q o k hi;obtain rfl:=oV hq h4;have hfit:o+(aI l).length<=C.length:=by rw [bM];omega
 have hbl:∀x,x<w.heap.size->x≠q->w'.heap[x]? =w.heap[x]? :=fun x hx hn=>hw.block x hx (by simpa using hn)
 have hil:i<ls.length:=(List.getElem?_eq_some_iff.1 h6).1;refine ⟨?_,h.ow.keep (hbl b (h.lt b (by simp [foot])) hb.symm),by simp [h.len],?_,?_,?_,h.ap⟩
 . rw [hbl g (h.lt g (by simp [foot])) hg.symm,h.hd]
 . intro l' hl'
   rcases List.mem_or_eq_of_mem_set hl' with h'|rfl
   . exact h.ll l' h'
   . exact hl
 . intro j hj
   rw [getElem?_set];by_cases e:i=j
   . subst e;rw [hi] at hj;cases hj
   . simp only [e,if_false];exact h.no j hj
 . intro j q' o' k' hj
   rw [getElem?_set];obtain ⟨g1,g2,g3,C',x',g4,g5,g6,g7⟩:=h.yes j q' o' k' hj;by_cases eq:q'=q
   . subst eq
     obtain rfl:=oV hq g4;by_cases e:i=j
     . subst e
       rw [hi] at hj;simp only [Option.some.injEq,Prod.mk.injEq] at hj;obtain ⟨-,rfl,rfl⟩:=hj;refine ⟨g1,g2,g3,_,l,hq',by rw [length_splice C o (aI l) hfit];exact g5,by simp [hil],?_⟩;have:=Ak hfit;rw [bM,hl] at this;exact this
     . refine ⟨g1,g2,g3,_,x',hq',by rw [length_splice C o (aI l) hfit];exact g5,by simp only [e,if_false];exact g6,?_⟩
       rw [Db hfit,g7];rw [bM,hl];exact h.ap i j q' o k o' k' e hi hj
   . refine ⟨g1,g2,g3,C',x',(hbl q' g4.lt eq).trans g4,g5,?_,g7⟩
     by_cases e:i=j
     . subst e
       rw [hi] at hj;simp only [Option.some.injEq,Prod.mk.injEq] at hj;exact absurd hj.1.symm eq
     . simp only [e,if_false];exact g6
end
structure Dev (w:World) (S:List Nat) (g m:Nat) (ls:List (List UInt8)) (r s:Nat):Prop where
 ex:∃b c bks,iC w g b c m bks ls r s/\∀k,k∈foot g b bks->k∈S
 m1:1<=m
 m2:m<=65536
 n1:5<=ls.length
 n2:ls.length<=65536
 lt:∀k,k∈S->k<w.heap.size
def Df (w:World) (S S':List Nat):Prop:=∀k,k∈S'->k∈S\/w.heap.size<=k
section
variable {w w':World} {S:List Nat} {g m:Nat} {ls:List (List UInt8)} {r s:Nat}
theorem Dev.keep (h:Dev w S g m ls r s) (hk:∀k,k∈S->w'.heap[k]? =w.heap[k]?):Dev w' S g m ls r s:=by
 obtain ⟨⟨b,c,bks,h1,h2⟩,h3,h4,h5,h6,h7⟩:=h;exact ⟨⟨b,c,bks,h1.keep fun k hk'=>hk k (h2 k hk'),h2⟩,h3,h4,h5,h6,fun k hk'=>(Array.getElem?_eq_some_iff.1 ((hk k hk').trans (Array.getElem?_eq_getElem (h7 k hk')))).1⟩
theorem Dev.kept (h:Dev w S g m ls r s) (hb:Bw w w'):Dev w' S g m ls r s:=by
 obtain ⟨⟨b,c,bks,h1,h2⟩,h3,h4,h5,h6,h7⟩:=h;exact ⟨⟨b,c,bks,h1.kept hb,h2⟩,h3,h4,h5,h6,fun k hk=>Nat.lt_of_lt_of_le (h7 k hk) hb.size⟩
theorem Dev.into {S':List Nat} (h:Dev w S g m ls r s) (hb:Flow.Into S' w w') (hn:∀k,k∈S->k∉S'):Dev w' S g m ls r s:=by
 obtain ⟨⟨b,c,bks,h1,h2⟩,h3,h4,h5,h6,h7⟩:=h;exact ⟨⟨b,c,bks,h1.into hb fun k hk=>hn k (h2 k hk),h2⟩,h3,h4,h5,h6,fun k hk=>Nat.lt_of_lt_of_le (h7 k hk) hb.size⟩
theorem Dev.OW (h:Dev w S g m ls r s):g∈S:=by
 obtain ⟨⟨b,c,bks,h1,h2⟩,_⟩:=h;exact h2 g (by simp [foot])
theorem Dev.cells (h:Dev w S g m ls r s):∃b c,w.cell? ⟨g,0,none⟩=some (.int .i64 (m:Int))/\w.cell? ⟨g,1,none⟩=some (.slice (some ⟨b,0,none⟩) ls.length c)/\w.cell? ⟨g,2,none⟩=some (.int .u64 (r:Int))/\w.cell? ⟨g,3,none⟩=some (.int .u64 (s:Int)):=by
 obtain ⟨⟨b,c,bks,h1,h2⟩,_⟩:=h;have:=h1.cells;rw [h1.len] at this;exact ⟨b,c,this⟩
end
theorem kZ {S:List Nat} {B:Nat} {w w':World} (h:Flow.Into S w w') (hS:∀k,k∈S->B<=k) (hB:B<=w.heap.size):Below B w w':=
 ⟨h.os,h.tape,h.output,h.size,fun k hk=>h.block k (by omega) fun hh=>by have:=hS k hh;omega⟩
theorem eG {P:Program} {w:World} {ops:Array Oper} {rest:List Oper} {o:Oper} {a:Act} {Q:Exit->Act->World->Prop} (hgd:o.guard=none) (d s:Operand) (dT sT:TypeId)
 (ho:o.op= .call { callee:= .builtin .copy,args:= #[d,s],argTypes:= #[dT,sT] }) (U:TypeId) (hu:P.underlying dT=some (.slice U)) (hsz:(P.info? U).map (·.size)=some 1)
 (q off n c1 m c2:Nat) (sp:Option Addr) (hd:a.eval d= .slice (some ⟨q,off,none⟩) n c1) (hs:a.eval s= .slice sp m c2)
 (L:List Value) (l:List UInt8) (hg:Cells U w q L) (hl:l.length=m) (hb:BL w sp l) (hmn:m<=n) (hn:off+n<=L.length)
 (h:∀w',Hid (Cells U w' q (splice L off (aI l)))->Hid (Flow.Into [q] w w')->wpList P ops Q rest (a.put o.dst (goInt m)) w'):wpList P ops Q (o::rest) a w:=by
 subst hl;by_cases h0:l.length=0
 . obtain rfl:l=[]:=List.eq_nil_of_length_eq_zero h0
   refine wpList_copy_nothing hgd d s dT sT ho U hu hsz _ sp n c1 0 c2 hd hs (by simp) ?_;exact h w (by unfold Hid;simpa [splice,aI] using hg) (by unfold Hid;exact Flow.Into.refl _ _)
 . obtain ⟨b,o',rfl,hc⟩:=hb (by omega)
   refine wpList_copy_own hgd d s dT sT ho U hu hsz q off n c1 ⟨b,o',none⟩ l.length c2 hd hs L.toArray U hg (aI l) (by simpa using (Nat.min_eq_left hmn).symm) (fun j v hj=>?_) (by simp;omega) (l8 l) ?_
   . have hjl:j<l.length:=by
      rcases Nat.lt_or_ge j l.length with h'|h'
      . exact h'
      . rw [List.getElem?_eq_none (by simpa using h')] at hj;cases hj
     have hv:v=j6 l[j]:=(by simpa [aI,hjl] using hj.symm);rw [hv,<-hc j hjl];by_cases h0:j=0<;>simp [Addr.add,h0]
   . rw [bM]
     refine h _ ?_ ?_
     . unfold Hid Cells
       have:=setRow_heap w q _ (splice L off (aI l)).toArray U _ hg;simpa [splice] using this
     . unfold Hid
       exact ⟨rfl,rfl,rfl,by simp [World.setRow],fun k _ hk=>setRow_other w q k _ (by simpa using hk)⟩
end Dv
end Go.Proofs.YtjpjjnalpdpljaaGreatDoor
set_option maxHeartbeats 1000000
namespace Go.Proofs.YtjpjjnalpdpljaaGreatDoor
open Go.RowKit
open List (replicate)
namespace Dv
open Mem
theorem Mf:(Tryz.prog.info? 72).map (fun i=>(i.zero,i.size,i.bytes))=some (some (.slice none 0 0),1,24):=by kernel_rfl
theorem gH:(Tryz.prog.info? 5).map (fun i=>(i.zero,i.size,i.bytes))=some (some (.int .u8 0),1,1):=by kernel_rfl
theorem oL:(Tryz.prog.info? 5).map (·.size)=some 1:=by kernel_rfl
theorem Am (m:Int) (w:World) (h0:1<=m) (h1:m<=65536):CW 64 #[m] w (.bool true):=by
 go_enter Tryz.func64,Tryz.ntmps64
 go_wp2
 go_ret
 exact ⟨rfl,rfl⟩
theorem wS (n i:Nat) (x:Nat × Nat × Nat):(replicate n (none:Bk))[i]? ≠some (some x):=fun h=>by
 rw [List.getElem?_replicate] at h;split at h<;>simp at h
theorem J8 {w2:World} {g b n m:Nat} (hb:Ow 72 w2 b n (replicate n (.slice none 0 0))) (hg:w2.heap[g]? =some (.cells #[(m:Int),.slice (some ⟨b,0,none⟩) n n,.int .u64 0,.int .u64 0] 104 (0,0))):
 iC w2 g b n m (replicate n none) (replicate n (replicate m 0)) 0 0:=by
 refine ⟨by simpa using hg,?_,by simp,fun l hl=>?_,fun i hi=>?_,fun i q o k hi=>absurd hi (wS n i _),fun i j q o k o' k' _ hi=>absurd hi (wS n i _)⟩
 . rw [List.map_replicate];exact hb
 . rw [List.eq_of_mem_replicate hl];simp
 . rw [List.getElem?_replicate] at hi ⊢
   split at hi
   . rename_i h;rw [if_pos h]
   . cases hi
def Q8 (w w':World) (n m:Nat) (e:Ending):Prop:=∃g b,e=.returned (.tuple #[(g:Nat),(0:Int)])/\iC w' g b n m (replicate n none) (replicate n (replicate m 0)) 0 0/\w.heap.size<=g/\w.heap.size<=b
theorem OX (n m:Nat) (w:World) (n1:5<=n) (n2:n<=65536) (m1:1<=m) (m2:m<=65536):Calls Tryz.prog 29 #[(n:Int),(m:Int)] w fun e w'=>Q8 w w' n m e/\Bw w w':=by
 have hmk:=fun w=>eH (P:=Tryz.prog) Tryz.underlying102 Mf rfl (by omega) n (by omega) w;have cS:=fun w=>Lib.hid (Am m w (by omega) (by omega));have HM:Hid (n<=1048576):=by unfold Hid;omega
 go_enter Tryz.func29,Tryz.ntmps29
 go_wp2_with (go_at_call 64;refine (cS _).out.mono ?_;rintro e w' ⟨rfl,rfl⟩)
 have hw0:Ow 72 (w.alloc (.cells (Array.replicate n (.slice none 0 0)) 72)) w.heap.size n (replicate n (.slice none 0 0)):=by
  have:=qZ 72 w (.slice none 0 0) n HM.out;simpa using this
 have hb1:Bw w (w.alloc (.cells (Array.replicate n (.slice none 0 0)) 72)):=bAx;have hs1:(w.alloc (.cells (Array.replicate n (.slice none 0 0)) 72)).heap.size=w.heap.size+1:=by simp
 generalize w.alloc (.cells (Array.replicate n (.slice none 0 0)) 72)=w1 at*;refine bodyPost_ret (v:= .tuple #[.pointer (some ⟨w.heap.size+1,0,none⟩),(0:Int)]) (by simp [results,Tryz.results29,go_sem]) rfl ⟨?_,hb1.alloc hb1.size _⟩;exact ⟨w.heap.size+1,w.heap.size,rfl,J8 (hw0.kept ((Below.refl _ _).alloc (Nat.le_refl _) (.cells #[(m:Int),.slice (some ⟨w.heap.size,0,none⟩) n n,.int .u64 0,.int .u64 0] 104))) (by rw [<-hs1,heap_alloc_new]),by omega,Nat.le_refl _⟩
def Made (w w':World) (m:Nat) (ls:List (List UInt8)) (r s:Nat) (e:Ending):Prop:=∃g S,e=.returned (.tuple #[(g:Nat),(0:Int)])/\Dev w' S g m ls r s/\∀k,k∈S->w.heap.size<=k
theorem lg (n m:Nat) (w:World) (n1:5<=n) (n2:n<=65536) (m1:1<=m) (m2:m<=65536):Calls Tryz.prog 29 #[(n:Int),(m:Int)] w fun e w'=>Made w w' m (replicate n (replicate m 0)) 0 0 e/\Bw w w':=
 (OX n m w n1 n2 m1 m2).mono fun e w' ⟨⟨g,b,he,hd,hg,hb⟩,hbl⟩=>⟨⟨g,foot g b (replicate n none),he,⟨⟨b,n,_,hd,fun k hk=>hk⟩,m1,m2,by simpa using n1,by simpa using n2,hd.lt⟩,fun k hk=>by
   rcases su hk with rfl|rfl|⟨i,o,k',hi⟩
   . exact hg
   . exact hb
   . exact absurd hi (wS n i _)⟩,hbl⟩
section
variable {w:World} {S:List Nat} {g m:Nat} {ls:List (List UInt8)} {r s:Nat}
theorem gM (h:Dev w S g m ls r s):CW 32 #[g] w (.int .i64 (ls.length:Int)):=by
 obtain ⟨b,c,h0,h1,h2,h3⟩:=h.cells;clear h h0 h2 h3;go_enter Tryz.func32,Tryz.ntmps32
 go_wp2
 go_ret
 exact ⟨rfl,rfl⟩
theorem uI (h:Dev w S g m ls r s):CW 33 #[g] w (.int .i64 (m:Int)):=by
 obtain ⟨b,c,h0,h1,h2,h3⟩:=h.cells;clear h h1 h2 h3;go_enter Tryz.func33,Tryz.ntmps33
 go_wp2
 go_ret
 exact ⟨rfl,rfl⟩
theorem uJ (h:Dev w S g m ls r s):CB 25 #[g] w (.agg #[.int .u64 (r:Int),.int .u64 (s:Int)]):=by
 obtain ⟨b,c,h0,h1,h2,h3⟩:=h.cells;have hg:g<w.heap.size:=Flow.lt_of_cell h2;clear h h0 h1;go_enter Tryz.func25,Tryz.ntmps25
 go_wp2
 refine bodyPost_ret (v:= .agg #[.int .u64 (r:Int),.int .u64 (s:Int)]) (by simp [results,Tryz.results25,go_sem]) rfl ⟨rfl,?_⟩;exact bAx
theorem dI (h:Dev w S g m ls r s) (i:Nat) (hi:i<ls.length):CW 60 #[g,.int .u32 (i:Int)] w (.int .i64 0):=by
 have cB:=Lib.hid (gM h);have n1:=h.n1;have n2:=h.n2;obtain ⟨n,hn⟩:∃n,n=ls.length:=⟨_,rfl⟩
 rw [<-hn] at cB hi n1 n2;have hn0:((n:Int)==0)=false:=by simp;omega
 clear h hn;go_enter Tryz.func60,Tryz.ntmps60
 go_wp2_with (go_at_call 32;refine cB.out.mono ?_;rintro e w' ⟨rfl,rfl⟩)
 go_ret
 exact ⟨rfl,rfl⟩
theorem fD (h:Dev w S g m ls r s) (i:Nat) (hi:ls.length<=i):CW 60 #[g,.int .u32 (i:Int)] w (.int .i64 4):=by
 have cB:=Lib.hid (gM h);have n1:=h.n1;have n2:=h.n2;obtain ⟨n,hn⟩:∃n,n=ls.length:=⟨_,rfl⟩
 rw [<-hn] at cB hi n1 n2;have hn0:((n:Int)==0)=false:=by simp;omega
 clear h hn;go_enter Tryz.func60,Tryz.ntmps60
 go_wp2_with (go_at_call 32;refine cB.out.mono ?_;rintro e w' ⟨rfl,rfl⟩)
 go_ret
 exact ⟨rfl,rfl⟩
end
end Dv
end Go.Proofs.YtjpjjnalpdpljaaGreatDoor
