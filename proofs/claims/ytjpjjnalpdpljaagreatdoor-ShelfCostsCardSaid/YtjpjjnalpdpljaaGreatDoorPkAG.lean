import Derived.Test.YtjpjjnalpdpljaaGreatDoorChecked
import Derived.Test.YtjpjjnalpdpljaaGreatDoorPkAA
import Derived.Test.YtjpjjnalpdpljaaGreatDoorPkAB
import Derived.Test.YtjpjjnalpdpljaaGreatDoorPqDrift
import Derived.WalkSpells
import Derived.StillTailTactics
set_option maxHeartbeats 1000000
set_option maxRecDepth 100000
namespace Go.Proofs.YtjpjjnalpdpljaaGreatDoor
open Go.RowKit
namespace Cn
open Mem
theorem ret_bool {a b:Bool} (h:a=b):Ending.returned (.bool a)= .returned (.bool b):=by rw [h]
theorem ret_i64 {a b:Int} (h:a=b):Ending.returned (.int .i64 a)= .returned (.int .i64 b):=by rw [h]
def LkW (w:World) (b c m:Nat) (A B:Nat->Nat):Prop:=
 ∃cs:List Value,w.ownsRow 0 191 2 (.slice (some ⟨b,0,none⟩) m c) m cs/\∀i,i<m->cs[i*2]? =some (.int .i64 (A i:Int))/\cs[i*2+1]? =some (.int .i64 (B i:Int))
section
variable {w w':World} {b c m:Nat} {A B:Nat->Nat}
theorem LkW.heap (h:LkW w b c m A B):∃cur,w.heap[b]? =some (.cells cur 191 (0,0)):=by
 obtain ⟨cs,⟨_,h2⟩,_⟩:=h
 rcases h2 with ⟨h',_⟩|⟨g',cap',cur,he,_,hh,_⟩
 . cases h'
 . obtain ⟨rfl,_⟩:b=g'/\c=cap':=by simpa using he
   exact ⟨cur,hh⟩
theorem LkW.lt (h:LkW w b c m A B):b<w.heap.size:=by
 obtain ⟨cur,hh⟩:=h.heap
 exact (Array.getElem?_eq_some_iff.1 hh).1
theorem LkW.cellA (h:LkW w b c m A B) {i:Nat} (hi:i<m):w.cell? ⟨b,i*2,none⟩=some (.int .i64 (A i:Int)):=by
 obtain ⟨cs,h1,h2⟩:=h
 rw [World.ownsRow.cellAt h1 (i*2) (by omega)];exact (h2 i hi).1
theorem LkW.cellB (h:LkW w b c m A B) {i:Nat} (hi:i<m):w.cell? ⟨b,i*2+1,none⟩=some (.int .i64 (B i:Int)):=by
 obtain ⟨cs,h1,h2⟩:=h
 rw [World.ownsRow.cellAt h1 (i*2+1) (by omega)];exact (h2 i hi).2
theorem LkW.free (h:LkW w b c m A B) (j:Nat):w.frozen? ⟨b,j,none⟩=false:=by
 obtain ⟨cs,h1,h2⟩:=h
 exact World.ownsRow.frozenAt h1 j
theorem LkW.keep (h:LkW w b c m A B) (hk:w'.heap[b]? =w.heap[b]?):LkW w' b c m A B:=by
 obtain ⟨cs,⟨h1,h2⟩,h3⟩:=h
 refine ⟨cs,⟨h1,?_⟩,h3⟩
 rcases h2 with h|⟨g',cap',cur,he,hB,hh,hr⟩
 . exact .inl h
 . obtain ⟨rfl,rfl⟩:b=g'/\c=cap':=by simpa using he
   exact .inr ⟨b,c,cur,rfl,hB,hk.trans hh,hr⟩
theorem LkW.len {cs:List Value} (h:w.ownsRow 0 191 2 (.slice (some ⟨b,0,none⟩) m c) m cs):cs.length=m*2:=h.1
theorem LkW.setA (h:LkW w b c m A B) {i:Nat} (hi:i<m) (x:Nat):LkW (w.setCell ⟨b,i*2,none⟩ (.int .i64 (x:Int))) b c m (upd A i x) B:=by
 obtain ⟨cs,h1,h2⟩:=h
 have hl:=LkW.len h1
 refine ⟨_,(World.ownsRow.stored h1 (i*2) _).1,fun j hj=>?_⟩
 rw [List.getElem?_set,List.getElem?_set]
 by_cases hij:i=j
 . subst hij
   refine ⟨?_,?_⟩
   . rw [if_pos rfl,if_pos (by omega),upd_same]
   . rw [if_neg (by omega)];exact (h2 i hj).2
 . refine ⟨?_,?_⟩
   . rw [if_neg (by omega),upd_other _ _ (fun e=>hij e.symm)];exact (h2 j hj).1
   . rw [if_neg (by omega)];exact (h2 j hj).2
theorem LkW.setB (h:LkW w b c m A B) {i:Nat} (hi:i<m) (x:Nat):LkW (w.setCell ⟨b,i*2+1,none⟩ (.int .i64 (x:Int))) b c m A (upd B i x):=by
 obtain ⟨cs,h1,h2⟩:=h
 have hl:=LkW.len h1
 refine ⟨_,(World.ownsRow.stored h1 (i*2+1) _).1,fun j hj=>?_⟩
 rw [List.getElem?_set,List.getElem?_set]
 by_cases hij:i=j
 . subst hij
   refine ⟨?_,?_⟩
   . rw [if_neg (by omega)];exact (h2 i hj).1
   . rw [if_pos rfl,if_pos (by omega),upd_same]
 . refine ⟨?_,?_⟩
   . rw [if_neg (by omega)];exact (h2 j hj).1
   . rw [if_neg (by omega),upd_other _ _ (fun e=>hij e.symm)];exact (h2 j hj).2
end
structure ChW (w:World) (g b c n:Nat) (k:Int) (A B:Nat->Nat):Prop where
 hd:w.heap[g]? =some (.cells #[.slice (some ⟨b,0,none⟩) (n+1) c, .int .i64 k] 193 (0,0))
 lk:LkW w b c (n+1) A B
 lo:1<=n
 hi:n<=4096
section
variable {w w':World} {g b c n:Nat} {k:Int} {A B:Nat->Nat}
theorem ChW.g_lt (h:ChW w g b c n k A B):g<w.heap.size:=(Array.getElem?_eq_some_iff.1 h.hd).1
theorem ChW.ne (h:ChW w g b c n k A B):g≠b:=by
 rintro rfl
 obtain ⟨cur,hh⟩:=h.lk.heap
 rw [h.hd] at hh
 simp at hh
theorem ChW.cells (h:ChW w g b c n k A B):w.cell? ⟨g,0,none⟩=some (.slice (some ⟨b,0,none⟩) (n+1) c)/\w.cell? ⟨g,1,none⟩=some (.int .i64 k):=by
 have:=h.hd
 simp [World.cell?,this]
theorem ChW.gfree (h:ChW w g b c n k A B) (j:Nat):w.frozen? ⟨g,j,none⟩=false:=by
 have:=h.hd
 simp [World.frozen?,this]
theorem ChW.keep (h:ChW w g b c n k A B) (hg:w'.heap[g]? =w.heap[g]?) (hb:w'.heap[b]? =w.heap[b]?):ChW w' g b c n k A B:=⟨hg.trans h.hd,h.lk.keep hb,h.lo,h.hi⟩
theorem ChW.kept (h:ChW w g b c n k A B) (hb:Below w.heap.size w w'):ChW w' g b c n k A B:=h.keep (hb.block g h.g_lt) (hb.block b h.lk.lt)
theorem into_set {S:List Nat} (w:World) (a:Addr) (v:Value) (ha:a.block∈S):Flow.Into S w (w.setCell a v):=
 ⟨rfl,rfl,rfl,by simp [World.setCell],fun k _ hn=>Below.heap_setCell _ _ _ _ (by rintro rfl;exact hn ha)⟩
theorem ChW.setA (h:ChW w g b c n k A B) {i:Nat} (hi:i<=n) (x:Nat):ChW (w.setCell ⟨b,i*2,none⟩ (.int .i64 (x:Int))) g b c n k (upd A i x) B:=
 ⟨(Below.heap_setCell _ _ _ _ h.ne).trans h.hd,h.lk.setA (by omega) x,h.lo,h.hi⟩
theorem ChW.setB (h:ChW w g b c n k A B) {i:Nat} (hi:i<=n) (x:Nat):ChW (w.setCell ⟨b,i*2+1,none⟩ (.int .i64 (x:Int))) g b c n k A (upd B i x):=
 ⟨(Below.heap_setCell _ _ _ _ h.ne).trans h.hd,h.lk.setB (by omega) x,h.lo,h.hi⟩
theorem ChW.setK (h:ChW w g b c n k A B) (k':Int):ChW (w.setCell ⟨g,1,none⟩ (.int .i64 k')) g b c n k' A B:=by
 refine ⟨?_,h.lk.keep (Below.heap_setCell _ _ _ _ (fun e=>h.ne e.symm)),h.lo,h.hi⟩
 have:=h.hd
 have hg:=h.g_lt
 simp only [World.setCell,Array.getElem?_modify,this]
 simp
end
def Chn (w:World) (g b n:Nat) (l:List Nat):Prop:=∃c A B,ChW w g b c n (l.length:Int) A B/\Ring n A B l
section
variable {w w':World} {g b n:Nat} {l:List Nat}
theorem Chn.kept (h:Chn w g b n l) (hb:Below w.heap.size w w'):Chn w' g b n l:=by
 obtain ⟨c,A,B,h1,h2⟩:=h;exact ⟨c,A,B,h1.kept hb,h2⟩
theorem Chn.into {S:List Nat} (h:Chn w g b n l) (hb:Flow.Into S w w') (hg:g∉S) (hbb:b∉S):Chn w' g b n l:=by
 obtain ⟨c,A,B,h1,h2⟩:=h;exact ⟨c,A,B,h1.keep (hb.block g h1.g_lt hg) (hb.block b h1.lk.lt hbb),h2⟩
theorem Chn.lt (h:Chn w g b n l):g<w.heap.size/\b<w.heap.size/\g≠b/\1<=n/\n<=4096/\l.length<=n/\l.Nodup/\∀x∈l,x<n:=by
 obtain ⟨c,A,B,h1,h2⟩:=h;exact ⟨h1.g_lt,h1.lk.lt,h1.ne,h1.lo,h1.hi,h2.len_le,h2.nd,h2.lt⟩
end
end Cn
end Go.Proofs.YtjpjjnalpdpljaaGreatDoor
namespace Go.Proofs.YtjpjjnalpdpljaaGreatDoor
open Go.RowKit
namespace Cn
open Mem
theorem end_any (g b c n:Nat) (k:Int) (A B:Nat->Nat) (w:World) (h:ChW w g b c n k A B):Calls Tryz.prog 127 #[.pointer (some ⟨g,0,none⟩)] w fun e w'=>e= .returned (.int .i64 (n:Int))/\w=w':=by
 obtain ⟨c0,-⟩:=h.cells
 have h1:=h.hi
 have h2:((n+1:Nat):Int)-1=(n:Int):=by omega
 clear h
 go_enter Tryz.func127,Tryz.ntmps127
 go_wp2
 go_ret
 exact ⟨rfl,rfl⟩
theorem Len_any (g b c n:Nat) (k:Int) (A B:Nat->Nat) (w:World) (h:ChW w g b c n k A B):Calls Tryz.prog 161 #[.pointer (some ⟨g,0,none⟩)] w fun e w'=>e= .returned (.int .i64 k)/\w=w':=by
 obtain ⟨-,c1⟩:=h.cells
 clear h
 go_enter Tryz.func161,Tryz.ntmps161
 go_wp2
 go_ret
 exact ⟨rfl,rfl⟩
theorem place_in (g b c n:Nat) (k:Int) (A B:Nat->Nat) (i:Int) (w:World) (h:ChW w g b c n k A B) (h0:0<=i) (h1:i<n):Calls Tryz.prog 121 #[.pointer (some ⟨g,0,none⟩), .int .i64 i] w fun e w'=>e= .returned (.int .i64 0)/\w=w':=by
 obtain ⟨c0,-⟩:=h.cells
 have cE:=fun w h=>Lib.hid (end_any g b c n k A B w h)
 have HR:=Lib.hid h
 have hn0:(((n+1:Nat):Int)==0)=false:=by simp;omega
 have hn:=h.hi
 clear h
 go_enter Tryz.func121,Tryz.ntmps121
 go_wp2_with (go_at_call 127;refine (cE _ HR.out).out.mono ?_;rintro e w' ⟨rfl,rfl⟩)
 go_ret
 exact ⟨rfl,rfl⟩
theorem place_out (g b c n:Nat) (k:Int) (A B:Nat->Nat) (i:Int) (w:World) (h:ChW w g b c n k A B) (h0:¬(0<=i/\i<n)):Calls Tryz.prog 121 #[.pointer (some ⟨g,0,none⟩), .int .i64 i] w fun e w'=>e= .returned (.int .i64 4)/\w=w':=by
 obtain ⟨c0,-⟩:=h.cells
 have cE:=fun w h=>Lib.hid (end_any g b c n k A B w h)
 have HR:=Lib.hid h
 have hn0:(((n+1:Nat):Int)==0)=false:=by simp;omega
 have hn:=h.hi
 clear h
 by_cases hi:i<0
 . clear h0
   go_enter Tryz.func121,Tryz.ntmps121
   go_wp2_with (go_at_call 127;refine (cE _ HR.out).out.mono ?_;rintro e w' ⟨rfl,rfl⟩)
   go_ret
   exact ⟨rfl,rfl⟩
 . have h1:(n:Int)<=i:=by omega
   have h2:0<=i:=by omega
   clear h0 hi
   go_enter Tryz.func121,Tryz.ntmps121
   go_wp2_with (go_at_call 127;refine (cE _ HR.out).out.mono ?_;rintro e w' ⟨rfl,rfl⟩)
   go_ret
   exact ⟨rfl,rfl⟩
theorem Has_in (g b c n i:Nat) (k:Int) (A B:Nat->Nat) (w:World) (h:ChW w g b c n k A B) (h1:i<n):Calls Tryz.prog 122 #[.pointer (some ⟨g,0,none⟩), .int .i64 (i:Int)] w fun e w'=>e= .returned (.bool (B i != i))/\w=w':=by
 have HR:=Lib.hid h
 obtain ⟨c0,-⟩:=h.cells
 have cP:=fun w h=>Lib.hid (place_in g b c n k A B i w h (by omega) (by omega))
 have c2:=h.lk.cellB (i:=i) (by omega)
 have hn:=h.hi
 have hb:((B i:Int) != (i:Int))=(B i != i):=by rw [Bool.eq_iff_iff];simp;omega
 generalize (B i != i)=v at hb ⊢
 generalize (B i:Int)=x at hb c2
 clear h
 go_enter Tryz.func122,Tryz.ntmps122
 go_wp2_with (go_at_call 121;refine (cP _ HR.out).out.mono ?_;rintro e w' ⟨rfl,rfl⟩)
 go_ret
 exact ⟨rfl,rfl⟩
theorem Has_out (g b c n:Nat) (i:Int) (k:Int) (A B:Nat->Nat) (w:World) (h:ChW w g b c n k A B) (h1:¬(0<=i/\i<n)):Calls Tryz.prog 122 #[.pointer (some ⟨g,0,none⟩), .int .i64 i] w fun e w'=>e= .returned (.bool false)/\w=w':=by
 have HR:=Lib.hid h
 have cP:=fun w h=>Lib.hid (place_out g b c n k A B i w h h1)
 clear h h1
 go_enter Tryz.func122,Tryz.ntmps122
 go_wp2_with (go_at_call 121;refine (cP _ HR.out).out.mono ?_;rintro e w' ⟨rfl,rfl⟩)
 go_ret
 exact ⟨rfl,rfl⟩
end Cn
end Go.Proofs.YtjpjjnalpdpljaaGreatDoor
namespace Go.Proofs.YtjpjjnalpdpljaaGreatDoor
open Go.RowKit
namespace Cn
open Mem
theorem Last_some (g b c n:Nat) (k:Int) (A B:Nat->Nat) (w:World) (h:ChW w g b c n k A B) (hk:(k==0)=false):Calls Tryz.prog 124 #[.pointer (some ⟨g,0,none⟩)] w fun e w'=>e= .returned (.tuple #[.int .i64 (A n:Int), .bool true])/\Below w.heap.size w w':=by
 have HR:=Lib.hid h
 have cL:=fun w h=>Lib.hid (Len_any g b c n k A B w h)
 have cE:=fun w h=>Lib.hid (end_any g b c n k A B w h)
 obtain ⟨d0,-⟩:=h.cells
 have d1:=h.lk.cellA (i:=n) (by omega)
 have hn:=h.hi
 have hL:(n:Int)<(n:Int)+1:=by omega
 generalize (A n:Int)=x at*
 have e0:=fun q:Drift.Tide [] w []=>Drift.Tide.cell d0 (by simp) q
 have e1:=fun q:Drift.Tide [] w []=>Drift.Tide.cell d1 (by simp) q
 clear h d0 d1
 go_enter Tryz.func124,Tryz.ntmps124
 go_wp2_with (go_at_call 161;refine (cL _ HR.out).out.mono ?_;rintro e w' ⟨rfl,rfl⟩)
 refine Drift.wp_region_drift [] [(0,[]),(1,[]),(2,[]),(3,[]),(4,[]),(5,[]),(6,[]),(7,[]),(8,[]),(9,[]),(10,[])] [] [] (by kernel_rfl) (by kernel_rfl) (by simp) ?_
 simp only [Drift.pick,Drift.opsAt,List.getElem?_toArray,List.getElem?_cons_zero,List.getElem?_cons_succ,List.cons_append,List.nil_append,List.filterMap_nil]
 repeat (refine Drift.walk_step (fun K hK=>?_);go_simp;first|(refine hK _ ?_;clear hK K)|(apply Exists.intro;refine ⟨fun q=>?_,hK _ ?_⟩;(go_at_call 127;exact (cE _ (HR.out.keep (q.into.block g HR.out.g_lt (by simp)) (q.into.block b HR.out.lk.lt (by simp)))).out.mono fun e w' ⟨he,hw⟩=>⟨he,by subst hw;exact Below.refl _ _⟩);clear hK K))
 refine Drift.walk_nil ?_
 intro w2 hb2 _
 have HB2:=Lib.hid hb2
 clear hb2
 simp only [List.length_cons,List.length_nil,List.drop_succ_cons,List.drop_nil,Nat.zero_add,Nat.reduceAdd]
 go_wp2_with fail
 exact bodyPost_ret (v:= .tuple #[.int .i64 x, .bool true]) (by simp [results,Tryz.results124,go_sem]) rfl ⟨rfl,HB2.out⟩
theorem Last_none (g b c n:Nat) (A B:Nat->Nat) (w:World) (h:ChW w g b c n 0 A B):Calls Tryz.prog 124 #[.pointer (some ⟨g,0,none⟩)] w fun e w'=>e= .returned (.tuple #[.int .i64 0, .bool false])/\Below w.heap.size w w':=by
 have HR:=Lib.hid h
 have cL:=fun w h=>Lib.hid (Len_any g b c n 0 A B w h)
 clear h
 go_enter Tryz.func124,Tryz.ntmps124
 go_wp2_with (go_at_call 161;refine (cL _ HR.out).out.mono ?_;rintro e w' ⟨rfl,rfl⟩)
 exact bodyPost_ret (v:= .tuple #[.int .i64 0, .bool false]) (by simp [results,Tryz.results124,go_sem]) rfl ⟨rfl,Below.refl _ _⟩
end Cn
end Go.Proofs.YtjpjjnalpdpljaaGreatDoor
namespace Go.Proofs.YtjpjjnalpdpljaaGreatDoor
open Go.RowKit
namespace Cn
open Mem
theorem into_more {S:List Nat} {w w':World} (h:Flow.Into S w w') (a:Addr) (v:Value) (ha:a.block∈S):Flow.Into S w (w'.setCell a v):=h.trans (into_set w' a v ha)
theorem join_any (g b c n i a:Nat) (k:Int) (A B:Nat->Nat) (w:World) (h:ChW w g b c n k A B) (hi:i<=n) (ha:a<=n) (hb:B a<=n) (hk:0<=k/\k<=4096) (hia:i≠a) (hib:i≠B a):Calls Tryz.prog 126 #[.pointer (some ⟨g,0,none⟩), .int .i64 (i:Int), .int .i64 (a:Int)] w fun e w'=>e= .returned (.tuple #[])/\ChW w' g b c n (k+1) (upd (upd A i a) (B a) i) (upd (upd B i (B a)) a i)/\Flow.Into [g,b] w w':=by
 have HR:=Lib.hid h
 obtain ⟨d0,d1⟩:=h.cells
 have d2:=h.lk.cellB (i:=a) (by omega)
 have d3:=h.lk.cellA (i:=i) (by omega)
 have d4:=h.lk.cellB (i:=i) (by omega)
 have d5:=h.lk.cellA (i:=B a) (by omega)
 have f0:=h.gfree
 have f1:=h.lk.free
 have hn:=h.hi
 have hne:=h.ne
 have hwk:IntKind.i64.wrap (k+1)=k+1:=by rw [IntKind.wrap_i64];omega
 obtain ⟨x,hx⟩:∃x,x=B a:=⟨_,rfl⟩
 rw [<-hx] at d2 d5 hb hib ⊢
 have HX:=Lib.hid hx
 generalize (A i:Int)=y1 at d3
 generalize (B i:Int)=y2 at d4
 generalize (A x:Int)=y3 at d5
 clear h hx
 have n1:i*2≠a*2+1:=by omega
 have n2:a*2+1≠i*2:=by omega
 have n3:i*2+1≠x*2:=by omega
 have n4:x*2≠i*2+1:=by omega
 have n5:a*2+1≠x*2:=by omega
 have n6:x*2≠a*2+1:=by omega
 have hL1:(i:Int)<(n:Int)+1:=by omega
 have hL2:(a:Int)<(n:Int)+1:=by omega
 have hL3:(x:Int)<(n:Int)+1:=by omega
 have HB:=Lib.hid hb
 have HI:=Lib.hid hi
 have HA:=Lib.hid ha
 clear hb hi ha
 go_enter Tryz.func126,Tryz.ntmps126
 go_wp2
 go_end0
 refine ⟨rfl,((((HR.out.setA HI.out a).setB HI.out x).setB HA.out i).setA HB.out i).setK _,?_⟩
 refine into_more (into_more (into_more (into_more (into_more (Flow.Into.refl _ _) _ _ ?_) _ _ ?_) _ _ ?_) _ _ ?_) _ _ ?_ <;>simp
theorem loosen_out (g b c n i:Nat) (k:Int) (A B:Nat->Nat) (w:World) (h:ChW w g b c n k A B) (hi:i<n) (hb:B i=i):Calls Tryz.prog 123 #[.pointer (some ⟨g,0,none⟩), .int .i64 (i:Int)] w fun e w'=>e= .returned (.tuple #[])/\w=w':=by
 have HR:=Lib.hid h
 have cH:=fun w h=>Lib.hid (Has_in g b c n i k A B w h hi)
 rw [hb,bne_self_eq_false] at cH
 clear h hb
 go_enter Tryz.func123,Tryz.ntmps123
 go_wp2_with (go_at_call 122;refine (cH _ HR.out).out.mono ?_;rintro e w' ⟨rfl,rfl⟩)
 refine bodyPost_ret (results_none rfl _ _ _) rfl ⟨rfl,rfl⟩
theorem loosen_in (g b c n i:Nat) (k:Int) (A B:Nat->Nat) (w:World) (h:ChW w g b c n k A B) (hi:i<n) (hb:B i<=n) (ha:A i<=n) (hk:0<=k/\k<=4096) (hia:A i≠i) (hib:B i≠i):Calls Tryz.prog 123 #[.pointer (some ⟨g,0,none⟩), .int .i64 (i:Int)] w fun e w'=>e= .returned (.tuple #[])/\ChW w' g b c n (k-1) (upd (upd A (B i) (A i)) i i) (upd (upd B (A i) (B i)) i i)/\Flow.Into [g,b] w w':=by
 have HR:=Lib.hid h
 have cH:=fun w h=>Lib.hid (Has_in g b c n i k A B w h hi)
 rw [show (B i != i)=true by simpa using hib] at cH
 obtain ⟨d0,d1⟩:=h.cells
 have d3:=h.lk.cellA (i:=i) (by omega)
 have d4:=h.lk.cellB (i:=i) (by omega)
 have d2:=h.lk.cellB (i:=A i) (by omega)
 have d5:=h.lk.cellA (i:=B i) (by omega)
 have f0:=h.gfree
 have f1:=h.lk.free
 have hn:=h.hi
 have hne:=h.ne
 have hwk:IntKind.i64.wrap (k-1)=k-1:=by rw [IntKind.wrap_i64];omega
 obtain ⟨x,hx⟩:∃x,x=B i:=⟨_,rfl⟩
 obtain ⟨a,hxa⟩:∃a,a=A i:=⟨_,rfl⟩
 rw [<-hx] at d4 d5 hb hib ⊢
 rw [<-hxa] at d2 d3 ha hia ⊢
 generalize (B a:Int)=y2 at d2
 generalize (A x:Int)=y3 at d5
 have hs:=h.g_lt
 have hs2:=h.lk.lt
 clear h hx hxa
 have hL1:(i:Int)<(n:Int)+1:=by omega
 have hL2:(a:Int)<(n:Int)+1:=by omega
 have hL3:(x:Int)<(n:Int)+1:=by omega
 have HB:=Lib.hid hb
 have HI:=Lib.hid hi
 have HA:=Lib.hid ha
 clear hb hi ha
 go_enter Tryz.func123,Tryz.ntmps123
 go_wp2_with (go_at_call 122;refine (cH _ HR.out).out.mono ?_;rintro e w' ⟨rfl,rfl⟩)
 obtain ⟨w1,hw1⟩:∃w1,w1=w.alloc (Obj.cells #[.int .i64 (a:Int), .int .i64 (x:Int)] 191):=⟨_,rfl⟩
 have hB1:Below w.heap.size w w1:=by rw [hw1];exact (Below.refl _ _).alloc (Nat.le_refl _) _
 have l0:w1.cell? ⟨w.heap.size,0,none⟩=some (.int .i64 (a:Int)):=by rw [hw1];exact congrArg (fun o=>match o with|some (Obj.cells c _ _)=>c[0]? |_=>none) (heap_alloc_new w (.cells #[.int .i64 (a:Int), .int .i64 (x:Int)] 191))
 have l1:w1.cell? ⟨w.heap.size,1,none⟩=some (.int .i64 (x:Int)):=by rw [hw1];exact congrArg (fun o=>match o with|some (Obj.cells c _ _)=>c[1]? |_=>none) (heap_alloc_new w (.cells #[.int .i64 (a:Int), .int .i64 (x:Int)] 191))
 have ht:w.heap.size<w1.heap.size:=by rw [hw1];simp
 rw [<-hw1]
 have HR1:=Lib.hid (HR.out.kept hB1)
 have HB1:=Lib.hid hB1
 obtain ⟨t,htt⟩:∃t,t=w.heap.size:=⟨_,rfl⟩
 rw [<-htt] at l0 l1 ht hs hs2 ⊢
 have HT:=Lib.hid htt
 have hcd:=HR1.out.cells.1
 have d2':=(Below.cell hB1 (p:=⟨b,a*2+1,none⟩) (by rw [<-htt];exact hs2)).trans d2
 have d3':=(Below.cell hB1 (p:=⟨b,i*2,none⟩) (by rw [<-htt];exact hs2)).trans d3
 have d4':=(Below.cell hB1 (p:=⟨b,i*2+1,none⟩) (by rw [<-htt];exact hs2)).trans d4
 have d5':=(Below.cell hB1 (p:=⟨b,x*2,none⟩) (by rw [<-htt];exact hs2)).trans d5
 clear hw1 hB1 htt d0 d1 d2 d3 d4 d5 f0 f1 cH
 have e0:=fun q:Drift.Tide [] w1 []=>Drift.Tide.cell hcd (by simp) q
 have e1:=fun q:Drift.Tide [] w1 []=>Drift.Tide.cell l0 (by simp) q
 have e2:=fun q:Drift.Tide [] w1 []=>Drift.Tide.cell l1 (by simp) q
 have D2:=Lib.hid d2'
 have D3:=Lib.hid d3'
 have D4:=Lib.hid d4'
 have D5:=Lib.hid d5'
 have L0:=Lib.hid l0
 have L1:=Lib.hid l1
 clear hcd l0 l1 d2' d3' d4' d5'
 refine Drift.wp_region_drift [] [(0,[]),(1,[]),(2,[]),(3,[]),(4,[]),(5,[]),(6,[]),(7,[])] [] [] (by kernel_rfl) (by kernel_rfl) (by simp) ?_
 simp only [Drift.pick,Drift.opsAt,List.getElem?_toArray,List.getElem?_cons_zero,List.getElem?_cons_succ,List.cons_append,List.nil_append,List.filterMap_nil]
 repeat (refine Drift.walk_step (fun K hK=>?_);go_simp;refine hK _ ?_;clear hK K)
 refine Drift.walk_nil ?_
 intro w2 hb2 _
 clear e0 e1 e2
 have d2:=(Below.cell hb2 (p:=⟨b,a*2+1,none⟩) (Nat.lt_trans hs2 ht)).trans D2.out
 have d3:=(Below.cell hb2 (p:=⟨b,i*2,none⟩) (Nat.lt_trans hs2 ht)).trans D3.out
 have d4:=(Below.cell hb2 (p:=⟨b,i*2+1,none⟩) (Nat.lt_trans hs2 ht)).trans D4.out
 have d5:=(Below.cell hb2 (p:=⟨b,x*2,none⟩) (Nat.lt_trans hs2 ht)).trans D5.out
 have l0:=(Below.cell hb2 (p:=⟨t,0,none⟩) ht).trans L0.out
 have l1:=(Below.cell hb2 (p:=⟨t,1,none⟩) ht).trans L1.out
 have HR2:=Lib.hid (HR1.out.kept hb2)
 have HB2:=Lib.hid hb2
 have f1:=HR2.out.lk.free
 clear hb2 D2 D3 D4 D5 L0 L1
 simp only [List.length_cons,List.length_nil,List.drop_succ_cons,Nat.zero_add,Nat.reduceAdd]
 go_wp2_with fail
 obtain ⟨w3,hw3⟩:∃w3,w3=w2.setCell ⟨b,a*2+1,none⟩ (.int .i64 (x:Int)):=⟨_,rfl⟩
 rw [<-hw3]
 have HI3:Hid (Flow.Into [g,b] w w3):=by
  rw [hw3]
  exact into_more ((Flow.Into.of_below HB1.out).trans ((Flow.Into.of_below HB2.out))) _ _ (by simp)
 have HR3:Hid (ChW w3 g b c n k A (upd B a x)):=by rw [hw3];exact HR2.out.setB HA.out x
 have htb:t≠b:=by omega
 have htb':b≠t:=by omega
 have m0:w3.cell? ⟨t,0,none⟩=some (.int .i64 (a:Int)):=by rw [hw3,World.cell?_setCell_other w2 _ _ _ (by simp)];exact l0
 have m1:w3.cell? ⟨t,1,none⟩=some (.int .i64 (x:Int)):=by rw [hw3,World.cell?_setCell_other w2 _ _ _ (by simp)];exact l1
 have ht3:t<w3.heap.size:=World.block_lt_of_cell? w3 _ m0
 clear hw3 l0 l1 d2 d3 d4 d5 f1 HR2 HR1
 have hcd:=HR3.out.cells.1
 have e0:=fun q:Drift.Tide [] w3 []=>Drift.Tide.cell hcd (by simp) q
 have e1:=fun q:Drift.Tide [] w3 []=>Drift.Tide.cell m0 (by simp) q
 have e2:=fun q:Drift.Tide [] w3 []=>Drift.Tide.cell m1 (by simp) q
 clear hcd m0 m1
 refine Drift.wp_region_drift [] [(0,[]),(1,[]),(2,[]),(3,[]),(4,[]),(5,[]),(6,[]),(7,[])] [] [] (by kernel_rfl) (by kernel_rfl) (by simp) ?_
 simp only [Drift.pick,Drift.opsAt,List.getElem?_toArray,List.getElem?_cons_zero,List.getElem?_cons_succ,List.cons_append,List.nil_append,List.filterMap_nil]
 repeat (refine Drift.walk_step (fun K hK=>?_);go_simp;refine hK _ ?_;clear hK K)
 refine Drift.walk_nil ?_
 intro w4 hb4 _
 clear e0 e1 e2
 have HR4:=Lib.hid (HR3.out.kept hb4)
 have HI4:Hid (Flow.Into [g,b] w w4):=HI3.out.trans (Flow.Into.of_below hb4)
 clear hb4
 obtain ⟨d0,d1⟩:=HR4.out.cells
 have d3:=HR4.out.lk.cellA (i:=i) (by have:=HI.out;omega)
 have d4:=HR4.out.lk.cellB (i:=i) (by have:=HI.out;omega)
 have d5:=HR4.out.lk.cellA (i:=x) (by have:=HB.out;omega)
 have f0:=HR4.out.gfree
 have f1:=HR4.out.lk.free
 generalize (A i:Int)=z1 at d3
 generalize (upd B a x i:Int)=z2 at d4
 generalize (A x:Int)=z3 at d5
 have n1:i*2≠x*2:=by omega
 have n2:x*2≠i*2:=by omega
 have n3:i*2+1≠x*2:=by omega
 have n4:x*2≠i*2+1:=by omega
 have n5:i*2+1≠i*2:=by omega
 simp only [List.length_cons,List.length_nil,List.drop_succ_cons,Nat.zero_add,Nat.reduceAdd]
 go_wp2_with fail
 go_end0
 refine ⟨rfl,(((HR4.out.setA HB.out a).setA (Nat.le_of_lt HI.out) i).setB (Nat.le_of_lt HI.out) i).setK _,?_⟩
 refine into_more (into_more (into_more (into_more HI4.out _ _ ?_) _ _ ?_) _ _ ?_) _ _ ?_ <;>simp
end Cn
end Go.Proofs.YtjpjjnalpdpljaaGreatDoor
namespace Go.Proofs.YtjpjjnalpdpljaaGreatDoor
open Go.RowKit
namespace Cn
open Mem
def inN (n:Nat) (i:Int):Bool:=decide (0<=i)&&decide (i<n)
theorem inN_nat {n:Nat} {i:Int} (h:inN n i=true):∃k:Nat,i=(k:Int)/\k<n:=by
 simp only [inN,Bool.and_eq_true,decide_eq_true_eq] at h
 exact ⟨i.toNat,by omega,by omega⟩
theorem inN_of {n k:Nat} (h:k<n):inN n (k:Int)=true:=by simp [inN];omega
theorem inN_not {n:Nat} {i:Int} (h:inN n i=false):¬(0<=i/\i<n):=by
 intro hh
 have:inN n i=true:=by simp [inN];omega
 rw [this] at h;cases h
def hasR (l:List Nat) (i:Int):Bool:=decide (0<=i)&&l.contains i.toNat
def errE (n:Nat) (i:Int):Int:=if inN n i then 0 else 4
def cutE (n:Nat) (l:List Nat) (i:Int):Int:=if inN n i then (if hasR l i then 0 else 9) else 4
def fronT (n:Nat) (l:List Nat) (i:Int):List Nat:=if inN n i then i.toNat::del l i.toNat else l
def backT (n:Nat) (l:List Nat) (i:Int):List Nat:=if inN n i then del l i.toNat++[i.toNat] else l
def cutT (n:Nat) (l:List Nat) (i:Int):List Nat:=if inN n i then del l i.toNat else l
theorem hasR_nat (l:List Nat) (k:Nat):hasR l (k:Int)=l.contains k:=by simp [hasR]
section
variable {w:World} {g b n:Nat} {l:List Nat}
theorem CHas (h:Chn w g b n l) (i:Int):Calls Tryz.prog 122 #[.pointer (some ⟨g,0,none⟩), .int .i64 i] w fun e w'=>e= .returned (.bool (hasR l i))/\w=w':=by
 obtain ⟨c,A,B,h1,h2⟩:=h
 cases hi:inN n i with
 |true=>
  obtain ⟨k,rfl,hk⟩:=inN_nat hi
  have e:(B k != k)=hasR l k:=by
   have:=h2.has hk
   rw [hasR_nat,Bool.eq_iff_iff]
   simp [this]
  rw [<-e]
  exact Has_in g b c n k _ A B w h1 hk
 |false=>
  have e:hasR l i=false:=by
   have:=inN_not hi
   by_cases h0:0<=i
   . have:i.toNat∉l:=fun hm=>by have:=h2.lt _ hm;omega
     simp [hasR,this]
   . simp [hasR,h0]
  rw [e]
  exact Has_out g b c n i _ A B w h1 (inN_not hi)
theorem CLast (h:Chn w g b n l):Calls Tryz.prog 124 #[.pointer (some ⟨g,0,none⟩)] w fun e w'=>e= .returned (.tuple #[.int .i64 (lst 0 l:Nat), .bool (decide (0<l.length))])/\Below w.heap.size w w':=by
 obtain ⟨c,A,B,h1,h2⟩:=h
 cases l with
 |nil=>exact Last_none g b c n A B w h1
 |cons y r=>
  have:=Last_some g b c n _ A B w h1 (by simp;omega)
  rw [h2.ends.2] at this
  simpa [Cn.lst] using this
theorem Cloosen (h:Chn w g b n l) {i:Nat} (hi:i<n):Calls Tryz.prog 123 #[.pointer (some ⟨g,0,none⟩), .int .i64 (i:Int)] w fun e w'=>e= .returned (.tuple #[])/\Chn w' g b n (del l i)/\Flow.Into [g,b] w w':=by
 obtain ⟨c,A,B,h1,h2⟩:=h
 by_cases hm:i∈l
 . obtain ⟨l1,l2,rfl⟩:=List.append_of_mem hm
   obtain ⟨e1,e2,e3,e4⟩:=h2.next
   obtain ⟨f1,f2,_,_,_,_,_,_⟩:=split_facts h2
   have hl1:∀x∈l1,x<n:=fun x hx=>h2.lt x (by simp [hx])
   have hl2:∀x∈l2,x<n:=fun x hx=>h2.lt x (by simp [hx])
   have hlen:=h2.len_le
   have hn:=h1.hi
   rw [del_split f1 f2]
   refine (loosen_in g b c n i _ A B w h1 hi (by rw [e1];exact hd_lt hl2) (by rw [e3];exact lst_lt hl1) ⟨by omega,by omega⟩ ?_ ?_).mono fun e w' ⟨he,hc,hI⟩=>⟨he,⟨c,_,_,?_,h2.loosen⟩,hI⟩
   . rw [e3]
     rintro he
     rcases List.mem_cons.1 (lst_mem n l1) with hp|hp
     . omega
     . exact f1 (he▸hp)
   . rw [e1]
     rintro he
     rcases hd_mem l2 n with hp|hp
     . omega
     . exact f2 (he▸hp)
   . have e:((l1++i::l2).length:Int)-1=((l1++l2).length:Int):=by simp;omega
     rw [<-e];exact hc
 . rw [del_none hm]
   exact (loosen_out g b c n i _ A B w h1 hi (h2.out i hi hm)).mono fun e w' ⟨he,hw⟩=>⟨he,hw▸⟨c,A,B,h1,h2⟩,hw▸Flow.Into.refl _ _⟩
theorem Cjoin_front (h:Chn w g b n l) {i:Nat} (hi:i<n) (hm:i∉l):Calls Tryz.prog 126 #[.pointer (some ⟨g,0,none⟩), .int .i64 (i:Int), .int .i64 (n:Int)] w fun e w'=>e= .returned (.tuple #[])/\Chn w' g b n (i::l)/\Flow.Into [g,b] w w':=by
 obtain ⟨c,A,B,h1,h2⟩:=h
 have hlen:=h2.len_le
 have hn:=h1.hi
 refine (join_any g b c n i n _ A B w h1 (Nat.le_of_lt hi) (Nat.le_refl _) (by rw [h2.ends.1];exact hd_lt h2.lt) ⟨by omega,by omega⟩ (by omega) ?_).mono fun e w' ⟨he,hc,hI⟩=>⟨he,⟨c,_,_,?_,h2.front hi hm rfl⟩,hI⟩
 . rw [h2.ends.1]
   rintro he
   rcases hd_mem l n with hp|hp
   . omega
   . exact hm (he▸hp)
 . simpa using hc
end
end Cn
end Go.Proofs.YtjpjjnalpdpljaaGreatDoor
namespace Go.Proofs.YtjpjjnalpdpljaaGreatDoor
open Go.RowKit
namespace Cn
open Mem
section
variable {w:World} {g b n:Nat} {l:List Nat}
theorem Cplace_in (h:Chn w g b n l) {i:Nat} (hi:i<n):Calls Tryz.prog 121 #[.pointer (some ⟨g,0,none⟩), .int .i64 (i:Int)] w fun e w'=>e= .returned (.int .i64 0)/\w=w':=by
 obtain ⟨c,A,B,h1,h2⟩:=h
 exact place_in g b c n _ A B i w h1 (by omega) (by omega)
theorem Cplace_out (h:Chn w g b n l) {i:Int} (hi:¬(0<=i/\i<n)):Calls Tryz.prog 121 #[.pointer (some ⟨g,0,none⟩), .int .i64 i] w fun e w'=>e= .returned (.int .i64 4)/\w=w':=by
 obtain ⟨c,A,B,h1,h2⟩:=h
 exact place_out g b c n _ A B i w h1 hi
theorem Cend (h:Chn w g b n l):Calls Tryz.prog 127 #[.pointer (some ⟨g,0,none⟩)] w fun e w'=>e= .returned (.int .i64 (n:Int))/\w=w':=by
 obtain ⟨c,A,B,h1,h2⟩:=h
 exact end_any g b c n _ A B w h1
theorem Front_out (h:Chn w g b n l) {i:Int} (hi:¬(0<=i/\i<n)):Calls Tryz.prog 88 #[.pointer (some ⟨g,0,none⟩), .int .i64 i] w fun e w'=>e= .returned (.int .i64 4)/\w=w':=by
 have cP:=Lib.hid (Cplace_out h hi)
 clear h hi
 go_enter Tryz.func88,Tryz.ntmps88
 go_wp2_with (go_at_call 121;refine cP.out.mono ?_;rintro e w' ⟨rfl,rfl⟩)
 go_ret
 exact ⟨rfl,rfl⟩
theorem Front_in (h:Chn w g b n l) {i:Nat} (hi:i<n):Calls Tryz.prog 88 #[.pointer (some ⟨g,0,none⟩), .int .i64 (i:Int)] w fun e w'=>e= .returned (.int .i64 0)/\Chn w' g b n (i::del l i)/\Flow.Into [g,b] w w':=by
 have cP:=Lib.hid (Cplace_in h hi)
 have cL:=Lib.hid (Cloosen h hi)
 have cJ:=fun w (h:Chn w g b n (del l i))=>Lib.hid (Cjoin_front h hi (del_notin l i))
 have cE:=fun w (h:Chn w g b n (del l i))=>Lib.hid (Cend h)
 clear h hi
 generalize del l i=l' at*
 go_enter Tryz.func88,Tryz.ntmps88
 go_wp2_with (first
  |(go_at_call 121;refine cP.out.mono ?_;rintro e w' ⟨rfl,rfl⟩)
  |(go_at_call 123;refine cL.out.mono ?_;rintro e w1 ⟨rfl,hc,hI⟩;have HC:=Lib.hid hc;have HI:=Lib.hid hI;clear hc hI)
  |(go_at_call 127;refine (cE _ HC.out).out.mono ?_;rintro e w' ⟨rfl,rfl⟩)
  |(go_at_call 126;refine (cJ _ HC.out).out.mono ?_;rintro e w2 ⟨rfl,hc,hI⟩;have HC2:=Lib.hid hc;have HI2:=Lib.hid hI;clear hc hI))
 go_ret
 exact ⟨rfl,HC2.out,HI.out.trans HI2.out⟩
theorem Back_out (h:Chn w g b n l) {i:Int} (hi:¬(0<=i/\i<n)):Calls Tryz.prog 108 #[.pointer (some ⟨g,0,none⟩), .int .i64 i] w fun e w'=>e= .returned (.int .i64 4)/\w=w':=by
 have cP:=Lib.hid (Cplace_out h hi)
 clear h hi
 go_enter Tryz.func108,Tryz.ntmps108
 go_wp2_with (go_at_call 121;refine cP.out.mono ?_;rintro e w' ⟨rfl,rfl⟩)
 go_ret
 exact ⟨rfl,rfl⟩
theorem Cjoin_back {c:Nat} {A B:Nat->Nat} (h1:ChW w g b c n (l.length:Int) A B) (h2:Ring n A B l) {i:Nat} (hi:i<n) (hm:i∉l):Calls Tryz.prog 126 #[.pointer (some ⟨g,0,none⟩), .int .i64 (i:Int), .int .i64 (A n:Int)] w fun e w'=>e= .returned (.tuple #[])/\Chn w' g b n (l++[i])/\Flow.Into [g,b] w w':=by
 have hlen:=h2.len_le
 have hn:=h1.hi
 have ha:A n<=n:=by rw [h2.ends.2];exact lst_lt h2.lt
 have hb:B (A n)=n:=by
  have:=(lk_split (l1:=l) (l2:=[])).1 (by simpa using h2.lk)
  rw [h2.ends.2];exact this.2.1
 refine (join_any g b c n i (A n) _ A B w h1 (Nat.le_of_lt hi) ha (by omega) ⟨by omega,by omega⟩ ?_ (by omega)).mono fun e w' ⟨he,hc,hI⟩=>⟨he,⟨c,_,_,?_,h2.back hi hm rfl rfl⟩,hI⟩
 . rw [h2.ends.2]
   rintro he
   rcases List.mem_cons.1 (lst_mem n l) with hp|hp
   . omega
   . exact hm (he▸hp)
 . simpa using hc
theorem Back_in (h:Chn w g b n l) {i:Nat} (hi:i<n):Calls Tryz.prog 108 #[.pointer (some ⟨g,0,none⟩), .int .i64 (i:Int)] w fun e w'=>e= .returned (.int .i64 0)/\Chn w' g b n (del l i++[i])/\Flow.Into [g,b] w w':=by
 have cP:=Lib.hid (Cplace_in h hi)
 have cL:=Lib.hid (Cloosen h hi)
 have HD:=Lib.hid (del_notin l i)
 have HL:=Lib.hid hi
 clear h hi
 generalize del l i=l' at*
 go_enter Tryz.func108,Tryz.ntmps108
 go_wp2_with (first
  |(go_at_call 121;refine cP.out.mono ?_;rintro e w' ⟨rfl,rfl⟩)
  |(go_at_call 123;refine cL.out.mono ?_;rintro e w1 ⟨rfl,hc,hI⟩;have HC:=Lib.hid hc;have HI:=Lib.hid hI;clear hc hI))
 obtain ⟨c,A,B,h1,h2⟩:=HC.out
 have hb2:Below w1.heap.size w1 { w1 with drawn:=w1.drawn+1 }:=⟨rfl,rfl,rfl,Nat.le_refl _,fun _ _=>rfl⟩
 have HH:=Lib.hid (h1.kept hb2)
 have HJ:=Lib.hid (Cjoin_back (h1.kept hb2) h2 HL.out HD.out)
 have HE:=Lib.hid (end_any g b c n _ A B _ (h1.kept hb2))
 have HIn:Hid (Flow.Into [g,b] w { w1 with drawn:=w1.drawn+1 }):=HI.out.trans (Flow.Into.of_below hb2)
 have d0:=HH.out.cells.1
 have d1:=HH.out.lk.cellA (i:=n) (by omega)
 have hL:(n:Int)<(n:Int)+1:=by omega
 generalize (A n:Int)=x at*
 clear h1 h2 hb2
 refine wp_region_still_tail 11 (by kernel_rfl) (by kernel_rfl) ?_
 simp only [List.take_succ_cons,List.take_zero,List.drop_succ_cons,List.drop_zero]
 generalize { w1 with drawn:=w1.drawn+1 }=w2 at*
 repeat (refine wpStill_step (fun K hK=>?_);go_simp;first|(refine hK _ ?_;clear hK K)|(refine ⟨_,HE.out.mono fun e w' ⟨he,hw⟩=>⟨he,hw.symm⟩,hK _ ?_⟩;clear hK K))
 refine wpStill_nil ?_
 go_wp2_with (go_at_call 126;refine HJ.out.mono ?_;rintro e w2 ⟨rfl,hc,hI⟩;have HC2:=Lib.hid hc;have HI2:=Lib.hid hI;clear hc hI)
 go_ret
 exact ⟨rfl,HC2.out,HIn.out.trans HI2.out⟩
theorem Cut_out (h:Chn w g b n l) {i:Int} (hi:¬(0<=i/\i<n)):Calls Tryz.prog 83 #[.pointer (some ⟨g,0,none⟩), .int .i64 i] w fun e w'=>e= .returned (.int .i64 4)/\w=w':=by
 have cP:=Lib.hid (Cplace_out h hi)
 clear h hi
 go_enter Tryz.func83,Tryz.ntmps83
 go_wp2_with (go_at_call 121;refine cP.out.mono ?_;rintro e w' ⟨rfl,rfl⟩)
 go_ret
 exact ⟨rfl,rfl⟩
theorem Cut_none (h:Chn w g b n l) {i:Nat} (hi:i<n) (hm:hasR l (i:Int)=false):Calls Tryz.prog 83 #[.pointer (some ⟨g,0,none⟩), .int .i64 (i:Int)] w fun e w'=>e= .returned (.int .i64 9)/\w=w':=by
 have cP:=Lib.hid (Cplace_in h hi)
 have cH:=Lib.hid (CHas h i)
 rw [hm] at cH
 clear h hi hm
 go_enter Tryz.func83,Tryz.ntmps83
 go_wp2_with (first
  |(go_at_call 121;refine cP.out.mono ?_;rintro e w' ⟨rfl,rfl⟩)
  |(go_at_call 122;refine cH.out.mono ?_;rintro e w' ⟨rfl,rfl⟩))
 go_ret
 exact ⟨rfl,rfl⟩
theorem Cut_in (h:Chn w g b n l) {i:Nat} (hi:i<n) (hm:hasR l (i:Int)=true):Calls Tryz.prog 83 #[.pointer (some ⟨g,0,none⟩), .int .i64 (i:Int)] w fun e w'=>e= .returned (.int .i64 0)/\Chn w' g b n (del l i)/\Flow.Into [g,b] w w':=by
 have cP:=Lib.hid (Cplace_in h hi)
 have cH:=Lib.hid (CHas h i)
 have cL:=Lib.hid (Cloosen h hi)
 rw [hm] at cH
 clear h hi hm
 generalize del l i=l' at*
 go_enter Tryz.func83,Tryz.ntmps83
 go_wp2_with (first
  |(go_at_call 121;refine cP.out.mono ?_;rintro e w' ⟨rfl,rfl⟩)
  |(go_at_call 122;refine cH.out.mono ?_;rintro e w' ⟨rfl,rfl⟩)
  |(go_at_call 123;refine cL.out.mono ?_;rintro e w1 ⟨rfl,hc,hI⟩;have HC:=Lib.hid hc;have HI:=Lib.hid hI;clear hc hI))
 go_ret
 exact ⟨rfl,HC.out,HI.out⟩
theorem CFront (h:Chn w g b n l) (i:Int):Calls Tryz.prog 88 #[.pointer (some ⟨g,0,none⟩), .int .i64 i] w fun e w'=>e= .returned (.int .i64 (errE n i))/\Chn w' g b n (fronT n l i)/\Flow.Into [g,b] w w':=by
 unfold errE fronT
 cases hi:inN n i with
 |true=>
  obtain ⟨k,rfl,hk⟩:=inN_nat hi
  exact Front_in h hk
 |false=>exact (Front_out h (inN_not hi)).mono fun e w' ⟨he,hw⟩=>⟨he,hw▸h,hw▸Flow.Into.refl _ _⟩
theorem CBack (h:Chn w g b n l) (i:Int):Calls Tryz.prog 108 #[.pointer (some ⟨g,0,none⟩), .int .i64 i] w fun e w'=>e= .returned (.int .i64 (errE n i))/\Chn w' g b n (backT n l i)/\Flow.Into [g,b] w w':=by
 unfold errE backT
 cases hi:inN n i with
 |true=>
  obtain ⟨k,rfl,hk⟩:=inN_nat hi
  exact Back_in h hk
 |false=>exact (Back_out h (inN_not hi)).mono fun e w' ⟨he,hw⟩=>⟨he,hw▸h,hw▸Flow.Into.refl _ _⟩
theorem CCut (h:Chn w g b n l) (i:Int):Calls Tryz.prog 83 #[.pointer (some ⟨g,0,none⟩), .int .i64 i] w fun e w'=>e= .returned (.int .i64 (cutE n l i))/\Chn w' g b n (cutT n l i)/\Flow.Into [g,b] w w':=by
 unfold cutE cutT
 cases hi:inN n i with
 |true=>
  obtain ⟨k,rfl,hk⟩:=inN_nat hi
  cases hm:hasR l (k:Int) with
  |true=>exact Cut_in h hk hm
  |false=>
   have:k∉l:=by rw [hasR_nat] at hm;simpa using hm
   have e:del l ((k:Int)).toNat=l:=del_none (by simpa using this)
   simp only [if_true,e]
   exact (Cut_none h hk hm).mono fun e w' ⟨he,hw⟩=>⟨he,hw▸h,hw▸Flow.Into.refl _ _⟩
 |false=>exact (Cut_out h (inN_not hi)).mono fun e w' ⟨he,hw⟩=>⟨he,hw▸h,hw▸Flow.Into.refl _ _⟩
end
end Cn
end Go.Proofs.YtjpjjnalpdpljaaGreatDoor
namespace Go.Proofs.YtjpjjnalpdpljaaGreatDoor
open Go.RowKit
namespace Cn
open Mem
theorem linkinfo:(Tryz.prog.info? 191).map (fun i=>(i.zero,i.size,i.bytes))=some (some (.agg #[.int .i64 0, .int .i64 0]),2,16):=by kernel_rfl
def rowZ (l:List Nat):List Int:=l.map Int.ofNat
@[simp] theorem rowZ_length (l:List Nat):(rowZ l).length=l.length:=by simp [rowZ]
section
variable {w:World} {g b n:Nat} {l:List Nat}
theorem Chn.step {A B:Nat->Nat} (h2:Ring n A B l) {k:Nat} (hk:k<l.length):B l[k]=hd (l.drop (k+1)) n:=by
 have e:l=l.take k++l[k]::l.drop (k+1):=by rw [<-List.drop_eq_getElem_cons hk,List.take_append_drop]
 have h3:Ring n A B (l.take k++l[k]::l.drop (k+1)):=by rw [<-e];exact h2
 exact h3.next.1
end
end Cn
end Go.Proofs.YtjpjjnalpdpljaaGreatDoor
