import Derived.Test.YtjpjjnalpdpljaaGreatDoorProg
import Derived.Test.YtjpjjnalpdpljaaGreatDoorBitsPlain
import Derived.Laws.BitsAllLaws
import Derived.WalkKit
import Derived.WalkLawsBesides
import Derived.KernelRfl
import Derived.Lib.Hide
import Derived.Lib.TrailingZeros
import Derived.Test.YtjpjjnalpdpljaaGreatDoorPkAB
import Derived.Test.YtjpjjnalpdpljaaGreatDoorPqDrift
import Derived.WalkSpells
set_option maxHeartbeats 1000000
namespace Go.Proofs.YtjpjjnalpdpljaaGreatDoor
open Go.RowKit
namespace Bt
theorem ones1 (x:Nat) (hx:x<18446744073709551616):IntKind.u64.wrap (bits .and .u64 ((x:Int) / 2) 6148914691236517205+bits .and .u64 (x:Int) 6148914691236517205)=((s1 8 x:Nat):Int)/\s1 8 x<18446744073709551616:=by
 have e1:=u64_and_nat (x / 2) 6148914691236517205 (by omega) (by decide)
 have e2:=u64_and_nat x 6148914691236517205 hx (by decide)
 have e:s1 8 x=(x / 2&&& 6148914691236517205)+(x&&& 6148914691236517205):=rfl
 have b1:x / 2&&& 6148914691236517205<=6148914691236517205:=Nat.and_le_right
 have b2:x&&& 6148914691236517205<=6148914691236517205:=Nat.and_le_right
 rw [show (x:Int) / 2=((x / 2:Nat):Int) from rfl]
 rw [show ((6148914691236517205:Nat):Int)=6148914691236517205 from rfl] at e1 e2
 rw [e1,e2,e,IntKind.wrap_u64]
 omega
theorem ones2 (x:Nat) (hx:x<18446744073709551616):IntKind.u64.wrap (bits .and .u64 ((x:Int) / 4) 3689348814741910323+bits .and .u64 (x:Int) 3689348814741910323)=((s2 8 x:Nat):Int)/\s2 8 x<=7378697629483820646:=by
 have e1:=u64_and_nat (x / 4) 3689348814741910323 (by omega) (by decide)
 have e2:=u64_and_nat x 3689348814741910323 hx (by decide)
 have e:s2 8 x=(x / 4&&& 3689348814741910323)+(x&&& 3689348814741910323):=rfl
 have b1:x / 4&&& 3689348814741910323<=3689348814741910323:=Nat.and_le_right
 have b2:x&&& 3689348814741910323<=3689348814741910323:=Nat.and_le_right
 rw [show (x:Int) / 4=((x / 4:Nat):Int) from rfl]
 rw [show ((3689348814741910323:Nat):Int)=3689348814741910323 from rfl] at e1 e2
 rw [e1,e2,e,IntKind.wrap_u64]
 omega
theorem ones3 (x:Nat) (hx:x<=7378697629483820646):bits .and .u64 (IntKind.u64.wrap ((x:Int) / 16+(x:Int))) 1085102592571150095=((s3 8 x:Nat):Int):=by
 have e1:=u64_and_nat (x / 16+x) 1085102592571150095 (by omega) (by decide)
 rw [show ((1085102592571150095:Nat):Int)=1085102592571150095 from rfl] at e1
 rw [IntKind.wrap_u64,show ((x:Int) / 16+(x:Int)) % 18446744073709551616=((x / 16+x:Nat):Int) by omega,e1]
 rfl
theorem ones4 (x v t u:Nat) (hv:v=sb 8 x) (ht:t=v+v / 256) (hu:u=t+t / 65536):
 IntKind.u64.wrap ((v:Int)+(v:Int) / 256)=(t:Int)/\IntKind.u64.wrap ((t:Int)+(t:Int) / 65536)=(u:Int)/\IntKind.u64.wrap ((u:Int)+(u:Int) / 4294967296)=((u+u / 4294967296:Nat):Int)/\u+u / 4294967296<9223372036854775808/\(u+u / 4294967296) % 128=ones x:=by
 obtain ⟨h1,h2⟩:=ones_sum x v t u hv ht hu
 clear hv
 simp only [IntKind.wrap_u64]
 omega
theorem OnesCount64_any (x:Nat) (w:World) (hx:x<18446744073709551616):Calls Tryz.prog 162 #[.int .u64 (x:Int)] w fun e w'=>e= .returned (.int .i64 (ones x:Nat))/\w=w':=by
 obtain ⟨k1,l1⟩:=ones1 x hx
 obtain ⟨k2,l2⟩:=ones2 _ l1
 have k3:=ones3 _ l2
 have e3:s3 8 (s2 8 (s1 8 x))=sb 8 x:=s3_s21 8 x
 rw [e3] at k3
 obtain ⟨v,hv⟩:∃v,v=sb 8 x:=⟨_,rfl⟩
 obtain ⟨t,ht⟩:∃t,t=v+v / 256:=⟨_,rfl⟩
 obtain ⟨u,hu⟩:∃u,u=t+t / 65536:=⟨_,rfl⟩
 obtain ⟨k4,k5,k6,l6,k7⟩:=ones4 x v t u hv ht hu
 rw [<-hv] at k3
 generalize s2 8 (s1 8 x)=a2 at*
 generalize s1 8 x=a1 at*
 generalize u+u / 4294967296=q at*
 have k8:bits .and .i64 ((q:Int)) 127=(ones x:Nat):=by rw [i64_and127,<-k7];omega
 clear e3 l1 l2 k7 hv ht hu
 go_enter Tryz.func162,Tryz.ntmps162
 go_wp2
 go_ret
 exact ⟨rfl,rfl⟩
def Tab (w:World):Prop:=∀j,j<64->w.cell? ⟨0,j,none⟩=some (.int .u8 (Lib.deBruijn64tab.getD j 0:Nat))
theorem Tab.lt {w:World} (h:Tab w): 0 <w.heap.size:=by
 have h0:=h 0 (by omega)
 rcases Nat.lt_or_ge 0 w.heap.size with h'|h'
 . exact h'
 . simp [World.cell?,Array.getElem?_eq_none h'] at h0
theorem Tab.keep {w w':World} (h:Tab w) (hk:w'.heap[0]? =w.heap[0]?):Tab w':=fun j hj=>by
 rw [<-h j hj]
 exact World.cell?_of_block (w:=w) (a:=⟨0,j,none⟩) hk
theorem tz_key (x a:Nat) (hx0:x≠0) (hx:x<18446744073709551616) (hlow:x&&& (18446744073709551616-x)=a):
 IntKind.u64.wrap (bits BinOp.and IntKind.u64 (x:Int) (IntKind.u64.wrap (-(x:Int)))*285870213051353865) / 288230376151711744=((a*285870213051353865 % 18446744073709551616 / 288230376151711744:Nat):Int):=by
 have e1:IntKind.u64.wrap (-(x:Int))=((18446744073709551616-x:Nat):Int):=by rw [IntKind.wrap_u64];omega
 rw [e1,u64_and_nat x _ hx (by omega),hlow,IntKind.wrap_u64]
 omega
theorem tz_core (x k idx:Nat) (w:World) (hx0:((x:Int)==0)=false)
 (key:IntKind.u64.wrap (bits BinOp.and IntKind.u64 (x:Int) (IntKind.u64.wrap (-(x:Int)))*285870213051353865) / 288230376151711744=(idx:Int))
 (hi:idx<64) (hk:k<64) (hcell:w.cell? ⟨0,idx,none⟩=some (.int .u8 k)):
 Calls Tryz.prog 163 #[.int .u64 (x:Int)] w fun e w'=>e= .returned (.int .i64 k)/\w=w':=by
 go_enter Tryz.func163,Tryz.ntmps163
 go_wp2_with (simp only [key])
 go_ret
 exact ⟨rfl,rfl⟩
theorem TrailingZeros64_any (x:Nat) (w:World) (h0:x≠0) (hx:x<18446744073709551616) (hT:Tab w):
 Calls Tryz.prog 163 #[.int .u64 (x:Int)] w fun e w'=>e= .returned (.int .i64 (Lib.ctz 64 x:Nat))/\w=w':=by
 obtain ⟨hlow,hk⟩:=Lib.lowest_bit 64 x h0 hx
 obtain ⟨hi,htab⟩:=Lib.deBruijn64_at _ hk
 have hcell:=hT _ hi
 rw [htab] at hcell
 exact tz_core x _ _ w (by simp;omega) (tz_key x _ h0 hx hlow) hi hk hcell
theorem shl_one (i:Nat):IntKind.u64.wrap (2 ^ (i % 64))=((2 ^ (i % 64):Nat):Int):=by
 have:2 ^ (i % 64)<2 ^ 64:=Nat.pow_lt_pow_right (by omega) (by omega)
 rw [IntKind.wrap_u64]
 have e:(2:Int) ^ (i % 64)=((2 ^ (i % 64):Nat):Int):=by simp
 rw [e]
 generalize 2 ^ (i % 64)=p at*
 omega
theorem bit_any (i:Nat) (w:World) (hi:i<9223372036854775808):Calls Tryz.prog 131 #[.int .i64 (i:Int)] w fun e w'=>e= .returned (.int .u64 (2 ^ (i % 64):Nat))/\w=w':=by
 have k1:=shl_one i
 go_enter Tryz.func131,Tryz.ntmps131
 go_wp2
 go_ret
 exact ⟨by rw [k1];rfl,rfl⟩
end Bt
end Go.Proofs.YtjpjjnalpdpljaaGreatDoor
namespace Go.Proofs.YtjpjjnalpdpljaaGreatDoor
open Go.RowKit
namespace Bt
open Mem
theorem ret_bool {a b:Bool} (h:a=b):Ending.returned (.bool a)= .returned (.bool b):=by rw [h]
theorem ret_i64 {a b:Int} (h:a=b):Ending.returned (.int .i64 a)= .returned (.int .i64 b):=by rw [h]
def wordV (x:Nat):Value:= .int .u64 (x:Int)
structure RowW (w:World) (g b c:Nat) (ws:List Nat) (tb:List Bool):Prop where
 hd:w.heap[g]? =some (.cells #[.int .i64 (tb.length:Int), .slice (some ⟨b,0,none⟩) ws.length c] 170 (0,0))
 ow:Ow 62 w b c (ws.map wordV)
 rep:Rep ws tb
 lo:1<=tb.length
 hi:tb.length<=65536
def RowAt (w:World) (g b:Nat) (tb:List Bool):Prop:=∃c ws,RowW w g b c ws tb
section
variable {w w':World} {g b c:Nat} {ws:List Nat} {tb:List Bool}
theorem RowW.g_lt (h:RowW w g b c ws tb):g<w.heap.size:=(Array.getElem?_eq_some_iff.1 h.hd).1
theorem RowW.ne (h:RowW w g b c ws tb):g≠b:=by
 rintro rfl
 obtain ⟨_,h2⟩:=h.ow
 rcases h2 with ⟨h',_⟩|⟨g',cap',cur,he,_,hh,_⟩
 . cases h'
 . obtain ⟨rfl,rfl⟩:g=g'/\c=cap':=by simpa using he
   rw [h.hd] at hh
   simp at hh
theorem RowW.cells (h:RowW w g b c ws tb):w.cell? ⟨g,0,none⟩=some (.int .i64 (tb.length:Int))/\w.cell? ⟨g,1,none⟩=some (.slice (some ⟨b,0,none⟩) ws.length c):=by
 have:=h.hd
 simp [World.cell?,this]
theorem RowW.word (h:RowW w g b c ws tb) {j:Nat} (hj:j<ws.length):w.cell? ⟨b,j,none⟩=some (.int .u64 (ws[j]:Int)):=by
 rw [h.ow.cell (by simpa using hj)];simp [wordV]
theorem RowW.free (h:RowW w g b c ws tb) (j:Nat):w.frozen? ⟨b,j,none⟩=false:=h.ow.free j
theorem RowW.keep (h:RowW w g b c ws tb) (hg:w'.heap[g]? =w.heap[g]?) (hb:w'.heap[b]? =w.heap[b]?):RowW w' g b c ws tb:=⟨hg.trans h.hd,h.ow.keep hb,h.rep,h.lo,h.hi⟩
theorem RowW.kept (h:RowW w g b c ws tb) (hb:Below w.heap.size w w'):RowW w' g b c ws tb:=h.keep (hb.block g h.g_lt) (hb.block b h.ow.lt)
theorem RowAt.kept (h:RowAt w g b tb) (hb:Below w.heap.size w w'):RowAt w' g b tb:=by
 obtain ⟨c,ws,h⟩:=h;exact ⟨c,ws,h.kept hb⟩
theorem RowAt.into {S:List Nat} (h:RowAt w g b tb) (hb:Flow.Into S w w') (hg:g∉S) (hbb:b∉S):RowAt w' g b tb:=by
 obtain ⟨c,ws,h⟩:=h;exact ⟨c,ws,h.keep (hb.block g h.g_lt hg) (hb.block b h.ow.lt hbb)⟩
theorem RowAt.lt (h:RowAt w g b tb):g<w.heap.size/\b<w.heap.size/\g≠b/\1<=tb.length/\tb.length<=65536:=by
 obtain ⟨c,ws,h⟩:=h;exact ⟨h.g_lt,h.ow.lt,h.ne,h.lo,h.hi⟩
theorem RowAt.cell (h:RowAt w g b tb):w.cell? ⟨g,0,none⟩=some (.int .i64 (tb.length:Int)):=by
 obtain ⟨c,ws,h⟩:=h;exact h.cells.1
theorem RowW.store (h:RowW w g b c ws tb) {j x:Nat} {tb':List Bool} (hr:Rep (ws.set j x) tb') (hl:tb'.length=tb.length):RowAt (w.setCell ⟨b,j,none⟩ (.int .u64 (x:Int))) g b tb'/\Flow.Into [b] w (w.setCell ⟨b,j,none⟩ (.int .u64 (x:Int))):=by
 obtain ⟨h1,h2⟩:=h.ow.set j (.int .u64 (x:Int))
 refine ⟨⟨c,ws.set j x,?_,?_,hr,by rw [hl];exact h.lo,by rw [hl];exact h.hi⟩,h2⟩
 . rw [h2.block g h.g_lt (by simpa using h.ne),h.hd,hl,List.length_set]
 . rw [List.map_set];exact h1
end
theorem Len_any (g b:Nat) (tb:List Bool) (w:World) (h:RowAt w g b tb):Calls Tryz.prog 90 #[.pointer (some ⟨g,0,none⟩)] w fun e w'=>e= .returned (.int .i64 (tb.length:Int))/\w=w':=by
 have c0:=h.cell
 clear h
 go_enter Tryz.func90,Tryz.ntmps90
 go_wp2
 go_ret
 exact ⟨rfl,rfl⟩
theorem place_in (g b:Nat) (tb:List Bool) (i:Int) (w:World) (h:RowAt w g b tb) (h0:0<=i) (h1:i<tb.length):Calls Tryz.prog 130 #[.pointer (some ⟨g,0,none⟩), .int .i64 i] w fun e w'=>e= .returned (.int .i64 0)/\w=w':=by
 have c0:=h.cell
 have cL:=fun w h=>Lib.hid (Len_any g b tb w h)
 have HR:=Lib.hid h
 obtain ⟨n,hn⟩:∃n,n=tb.length:=⟨_,rfl⟩
 have hn0:((n:Int)==0)=false:=by simp;have:=h.lt;omega
 rw [<-hn] at c0 cL h1
 clear h hn
 go_enter Tryz.func130,Tryz.ntmps130
 go_wp2_with (go_at_call 90;refine (cL _ HR.out).out.mono ?_;rintro e w' ⟨rfl,rfl⟩)
 go_ret
 exact ⟨rfl,rfl⟩
theorem place_out (g b:Nat) (tb:List Bool) (i:Int) (w:World) (h:RowAt w g b tb) (h0:¬(0<=i/\i<tb.length)):Calls Tryz.prog 130 #[.pointer (some ⟨g,0,none⟩), .int .i64 i] w fun e w'=>e= .returned (.int .i64 4)/\w=w':=by
 have c0:=h.cell
 have cL:=fun w h=>Lib.hid (Len_any g b tb w h)
 have HR:=Lib.hid h
 obtain ⟨n,hn⟩:∃n,n=tb.length:=⟨_,rfl⟩
 have hn0:((n:Int)==0)=false:=by simp;have:=h.lt;omega
 rw [<-hn] at c0 cL h0
 clear h hn
 by_cases hi:i<0
 . clear h0
   go_enter Tryz.func130,Tryz.ntmps130
   go_wp2_with (go_at_call 90;refine (cL _ HR.out).out.mono ?_;rintro e w' ⟨rfl,rfl⟩)
   go_ret
   exact ⟨rfl,rfl⟩
 . have h1:(n:Int)<=i:=by omega
   have h2:0<=i:=by omega
   clear h0 hi
   go_enter Tryz.func130,Tryz.ntmps130
   go_wp2_with (go_at_call 90;refine (cL _ HR.out).out.mono ?_;rintro e w' ⟨rfl,rfl⟩)
   go_ret
   exact ⟨rfl,rfl⟩
theorem RowW.look {w:World} {g b c:Nat} {ws:List Nat} {tb:List Bool} (h:RowW w g b c ws tb) {i:Nat} (h1:i<tb.length):∃j x p:Nat,j<ws.length/\(i:Int) / 64=(j:Int)/\IntKind.i64.wrap (j:Int)=(j:Int)/\w.cell? ⟨b,j,none⟩=some (.int .u64 (x:Int))/\p=2 ^ (i % 64)/\
 bits .and .u64 (x:Int) (p:Int)=((x&&& p:Nat):Int)/\(((x&&& p:Nat):Int) != 0)=tb.getD i false/\bits .or .u64 (x:Int) (p:Int)=((x |||p:Nat):Int)/\bits .andNot .u64 (x:Int) (p:Int)=((x&&& (18446744073709551615-p):Nat):Int)/\
 Rep (ws.set j (x |||p)) (tb.set i true)/\Rep (ws.set j (x&&& (18446744073709551615-p))) (tb.set i false):=by
 have hj:=h.rep.word h1
 have hx:=h.rep.get_lt hj
 have hi:=h.hi
 have hp:2 ^ (i % 64)<18446744073709551616:=by have:2 ^ (i % 64)<2 ^ 64:=Nat.pow_lt_pow_right (by omega) (by omega);omega
 have e:ws.getD (i / 64) 0=ws[i / 64]:=by simp [List.getD,hj]
 refine ⟨i / 64,ws[i / 64],2 ^ (i % 64),hj,by omega,by rw [IntKind.wrap_i64];omega,h.word hj,rfl,u64_and_nat _ _ hx hp,?_,u64_or_nat _ _ hx hp,u64_andNot_nat _ _ hx hp,?_,?_⟩
 . rw [<-h.rep.bit i,bt_get hj,<-and_pow_zero,Bool.eq_iff_iff];simp
 . rw [<-e];exact h.rep.set h1
 . rw [<-e];exact h.rep.clear h1
theorem Has_in (g b i:Nat) (tb:List Bool) (w:World) (h:RowAt w g b tb) (h1:i<tb.length):Calls Tryz.prog 93 #[.pointer (some ⟨g,0,none⟩), .int .i64 (i:Int)] w fun e w'=>e= .returned (.bool (tb.getD i false))/\Below w.heap.size w w':=by
 have HR:=Lib.hid h
 obtain ⟨c,ws,hw⟩:=h
 have hi:=hw.hi
 have cP:=fun w h=>Lib.hid (place_in g b tb i w h (by omega) (by omega))
 have cB:=fun w=>Lib.hid (bit_any i w (by omega))
 obtain ⟨j,x,p,hj,hq,hwj,d2,hp,k1,k2,-⟩:=hw.look h1
 rw [<-hp] at cB
 obtain ⟨d0,d1⟩:=hw.cells
 obtain ⟨m,hm⟩:∃m,m=ws.length:=⟨_,rfl⟩
 rw [<-hm] at d1 hj
 generalize tb.getD i false=v at k2 ⊢
 clear hw hm hp
 have e1:=fun q:Drift.Tide [] w []=>Drift.Tide.cell d1 (by simp) q
 have e2:=fun q:Drift.Tide [] w []=>Drift.Tide.cell d2 (by simp) q
 clear d0 d1 d2
 go_enter Tryz.func93,Tryz.ntmps93
 go_wp2_with fail
 refine Drift.wp_region_drift [] [(0,[]),(1,[]),(2,[]),(3,[]),(4,[]),(5,[]),(6,[]),(7,[]),(8,[]),(9,[]),(10,[]),(11,[]),(12,[]),(13,[]),(14,[]),(15,[]),(16,[]),(17,[]),(18,[])] [] [] (by kernel_rfl) (by kernel_rfl) (by simp) ?_
 simp only [Drift.pick,Drift.opsAt,List.getElem?_toArray,List.getElem?_cons_zero,List.getElem?_cons_succ,List.cons_append,List.nil_append,List.filterMap_nil]
 repeat (refine Drift.walk_step (fun K hK=>?_);go_simp;first|(refine hK _ ?_;clear hK K)|(apply Exists.intro;refine ⟨fun q=>?_,hK _ ?_⟩;(first|(go_at_call 130;exact (cP _ (HR.out.into q.into (by simp) (by simp))).out.mono fun e w' ⟨he,hw⟩=>⟨he,by subst hw;exact Below.refl _ _⟩)|(go_at_call 131;exact (cB _).out.mono fun e w' ⟨he,hw⟩=>⟨he,by subst hw;exact Below.refl _ _⟩));clear hK K))
 refine Drift.walk_nil ?_
 intro w2 hb2 _
 have HB2:=Lib.hid hb2
 clear hb2
 simp only [List.length_cons,List.length_nil,List.drop_succ_cons,List.drop_nil,Nat.zero_add,Nat.reduceAdd]
 go_wp2_with fail
 go_ret
 exact ⟨rfl,HB2.out⟩
end Bt
end Go.Proofs.YtjpjjnalpdpljaaGreatDoor
namespace Go.Proofs.YtjpjjnalpdpljaaGreatDoor
open Go.RowKit
namespace Bt
open Mem
theorem Has_out (g b:Nat) (i:Int) (tb:List Bool) (w:World) (h:RowAt w g b tb) (h1:¬(0<=i/\i<tb.length)):Calls Tryz.prog 93 #[.pointer (some ⟨g,0,none⟩), .int .i64 i] w fun e w'=>e= .returned (.bool false)/\Below w.heap.size w w':=by
 have HR:=Lib.hid h
 have cP:=fun w h=>Lib.hid (place_out g b tb i w h h1)
 clear h h1
 go_enter Tryz.func93,Tryz.ntmps93
 go_wp2_with fail
 refine Drift.wp_region_drift [] [(0,[]),(1,[]),(2,[]),(3,[]),(4,[]),(5,[]),(6,[]),(7,[]),(8,[]),(9,[]),(10,[]),(11,[]),(12,[]),(13,[]),(14,[]),(15,[]),(16,[]),(17,[]),(18,[])] [] [] (by kernel_rfl) (by kernel_rfl) (by simp) ?_
 simp only [Drift.pick,Drift.opsAt,List.getElem?_toArray,List.getElem?_cons_zero,List.getElem?_cons_succ,List.cons_append,List.nil_append,List.filterMap_nil]
 repeat (refine Drift.walk_step (fun K hK=>?_);go_simp;first|(refine hK _ ?_;clear hK K)|(apply Exists.intro;refine ⟨fun q=>?_,hK _ ?_⟩;(first|(go_at_call 130;exact (cP _ (HR.out.into q.into (by simp) (by simp))).out.mono fun e w' ⟨he,hw⟩=>⟨he,by subst hw;exact Below.refl _ _⟩));clear hK K))
 refine Drift.walk_nil ?_
 intro w2 hb2 _
 have HB2:=Lib.hid hb2
 clear hb2
 simp only [List.length_cons,List.length_nil,List.drop_succ_cons,List.drop_nil,Nat.zero_add,Nat.reduceAdd]
 go_wp2_with fail
 go_ret
 exact ⟨rfl,HB2.out⟩
theorem Set_out (g b:Nat) (i:Int) (tb:List Bool) (w:World) (h:RowAt w g b tb) (h1:¬(0<=i/\i<tb.length)):Calls Tryz.prog 110 #[.pointer (some ⟨g,0,none⟩), .int .i64 i] w fun e w'=>e= .returned (.int .i64 4)/\w=w':=by
 have HR:=Lib.hid h
 have cP:=fun w h=>Lib.hid (place_out g b tb i w h h1)
 clear h h1
 go_enter Tryz.func110,Tryz.ntmps110
 go_wp2_with (go_at_call 130;refine (cP _ HR.out).out.mono ?_;rintro e w' ⟨rfl,rfl⟩)
 go_ret
 exact ⟨rfl,rfl⟩
theorem Set_twice (g b i:Nat) (tb:List Bool) (w:World) (h:RowAt w g b tb) (h1:i<tb.length) (h2:tb.getD i false=true):Calls Tryz.prog 110 #[.pointer (some ⟨g,0,none⟩), .int .i64 (i:Int)] w fun e w'=>e= .returned (.int .i64 10)/\Below w.heap.size w w':=by
 have HR:=Lib.hid h
 have cP:=fun w h=>Lib.hid (place_in g b tb i w h (by omega) (by omega))
 have cH:=fun w h=>Lib.hid (Has_in g b i tb w h h1)
 rw [h2] at cH
 clear h h1 h2
 go_enter Tryz.func110,Tryz.ntmps110
 go_wp2_with (first|(go_at_call 130;refine (cP _ HR.out).out.mono ?_;rintro e w' ⟨rfl,rfl⟩)|(go_at_call 93;refine (cH _ HR.out).out.mono ?_;rintro e w' ⟨rfl,hb⟩;have HB:=Lib.hid hb;clear hb))
 go_ret
 exact ⟨rfl,HB.out⟩
theorem Set_ok (g b i:Nat) (tb:List Bool) (w:World) (h:RowAt w g b tb) (h1:i<tb.length) (h2:tb.getD i false=false):Calls Tryz.prog 110 #[.pointer (some ⟨g,0,none⟩), .int .i64 (i:Int)] w fun e w'=>e= .returned (.int .i64 0)/\RowAt w' g b (tb.set i true)/\Flow.Into [b] w w':=by
 have HR:=Lib.hid h
 have hi:=h.lt
 have cP:=fun w h=>Lib.hid (place_in g b tb i w h (by omega) (by omega))
 have cH:=fun w h=>Lib.hid (Has_in g b i tb w h h1)
 have cB:=fun w=>Lib.hid (bit_any i w (by omega))
 rw [h2] at cH
 clear h2
 have HL:=Lib.hid h1
 clear h h1
 go_enter Tryz.func110,Tryz.ntmps110
 go_wp2_with (first|(go_at_call 130;refine (cP _ HR.out).out.mono ?_;rintro e w' ⟨rfl,rfl⟩)|(go_at_call 93;refine (cH _ HR.out).out.mono ?_;rintro e w1 ⟨rfl,hb⟩;have HB:=Lib.hid hb;clear hb))
 have HR1:=HR.out.kept HB.out
 obtain ⟨c,ws,hw⟩:=HR1
 obtain ⟨j,x,p,hj,hq,hwj,d2,hp,-,-,k3,-,k5,-⟩:=hw.look HL.out
 rw [<-hp] at cB
 obtain ⟨d0,d1⟩:=hw.cells
 obtain ⟨m,hm⟩:∃m,m=ws.length:=⟨_,rfl⟩
 rw [<-hm] at d1 hj
 have HW:=Lib.hid hw
 have HK:=Lib.hid k5
 clear hw hm hp k5 cP cH
 have e1:=fun q:Drift.Tide [] w1 []=>Drift.Tide.cell d1 (by simp) q
 have e2:=fun q:Drift.Tide [] w1 []=>Drift.Tide.cell d2 (by simp) q
 clear d0 d1
 have D2:=Lib.hid d2
 clear d2
 refine Drift.wp_region_drift [] [(0,[]),(1,[]),(2,[]),(3,[]),(4,[]),(5,[]),(6,[]),(7,[]),(8,[]),(9,[]),(10,[])] [] [] (by kernel_rfl) (by kernel_rfl) (by simp) ?_
 simp only [Drift.pick,Drift.opsAt,List.getElem?_toArray,List.getElem?_cons_zero,List.getElem?_cons_succ,List.cons_append,List.nil_append,List.filterMap_nil]
 repeat (refine Drift.walk_step (fun K hK=>?_);go_simp;first|(refine hK _ ?_;clear hK K)|(apply Exists.intro;refine ⟨fun q=>?_,hK _ ?_⟩;(first|(go_at_call 131;exact (cB _).out.mono fun e w' ⟨he,hw⟩=>⟨he,by subst hw;exact Below.refl _ _⟩));clear hK K))
 refine Drift.walk_nil ?_
 intro w2 hb2 _
 have HB2:=Lib.hid hb2
 have hf:=(HW.out.kept hb2).free j
 have hc2:=(Below.cell hb2 (p:=⟨b,j,none⟩) HW.out.ow.lt).trans D2.out
 have HS:=Lib.hid ((HW.out.kept hb2).store HK.out (by simp))
 clear hb2
 simp only [List.length_cons,List.length_nil,List.drop_succ_cons,Nat.zero_add,Nat.reduceAdd]
 go_wp2_with fail
 go_ret
 exact ⟨rfl,HS.out.1,(Flow.Into.of_below HB.out).trans ((Flow.Into.of_below HB2.out).trans HS.out.2)⟩
theorem Clear_out (g b:Nat) (i:Int) (tb:List Bool) (w:World) (h:RowAt w g b tb) (h1:¬(0<=i/\i<tb.length)):Calls Tryz.prog 115 #[.pointer (some ⟨g,0,none⟩), .int .i64 i] w fun e w'=>e= .returned (.int .i64 4)/\w=w':=by
 have HR:=Lib.hid h
 have cP:=fun w h=>Lib.hid (place_out g b tb i w h h1)
 clear h h1
 go_enter Tryz.func115,Tryz.ntmps115
 go_wp2_with (go_at_call 130;refine (cP _ HR.out).out.mono ?_;rintro e w' ⟨rfl,rfl⟩)
 go_ret
 exact ⟨rfl,rfl⟩
theorem Clear_twice (g b i:Nat) (tb:List Bool) (w:World) (h:RowAt w g b tb) (h1:i<tb.length) (h2:tb.getD i false=false):Calls Tryz.prog 115 #[.pointer (some ⟨g,0,none⟩), .int .i64 (i:Int)] w fun e w'=>e= .returned (.int .i64 9)/\Below w.heap.size w w':=by
 have HR:=Lib.hid h
 have cP:=fun w h=>Lib.hid (place_in g b tb i w h (by omega) (by omega))
 have cH:=fun w h=>Lib.hid (Has_in g b i tb w h h1)
 rw [h2] at cH
 clear h h1 h2
 go_enter Tryz.func115,Tryz.ntmps115
 go_wp2_with (first|(go_at_call 130;refine (cP _ HR.out).out.mono ?_;rintro e w' ⟨rfl,rfl⟩)|(go_at_call 93;refine (cH _ HR.out).out.mono ?_;rintro e w' ⟨rfl,hb⟩;have HB:=Lib.hid hb;clear hb))
 go_ret
 exact ⟨rfl,HB.out⟩
theorem Clear_ok (g b i:Nat) (tb:List Bool) (w:World) (h:RowAt w g b tb) (h1:i<tb.length) (h2:tb.getD i false=true):Calls Tryz.prog 115 #[.pointer (some ⟨g,0,none⟩), .int .i64 (i:Int)] w fun e w'=>e= .returned (.int .i64 0)/\RowAt w' g b (tb.set i false)/\Flow.Into [b] w w':=by
 have HR:=Lib.hid h
 have hi:=h.lt
 have cP:=fun w h=>Lib.hid (place_in g b tb i w h (by omega) (by omega))
 have cH:=fun w h=>Lib.hid (Has_in g b i tb w h h1)
 have cB:=fun w=>Lib.hid (bit_any i w (by omega))
 rw [h2] at cH
 clear h2
 have HL:=Lib.hid h1
 clear h h1
 go_enter Tryz.func115,Tryz.ntmps115
 go_wp2_with (first|(go_at_call 130;refine (cP _ HR.out).out.mono ?_;rintro e w' ⟨rfl,rfl⟩)|(go_at_call 93;refine (cH _ HR.out).out.mono ?_;rintro e w1 ⟨rfl,hb⟩;have HB:=Lib.hid hb;clear hb))
 have HR1:=HR.out.kept HB.out
 obtain ⟨c,ws,hw⟩:=HR1
 obtain ⟨j,x,p,hj,hq,hwj,d2,hp,-,-,-,k3,-,k5⟩:=hw.look HL.out
 rw [<-hp] at cB
 obtain ⟨d0,d1⟩:=hw.cells
 obtain ⟨m,hm⟩:∃m,m=ws.length:=⟨_,rfl⟩
 rw [<-hm] at d1 hj
 have HW:=Lib.hid hw
 have HK:=Lib.hid k5
 clear hw hm hp k5 cP cH
 have e1:=fun q:Drift.Tide [] w1 []=>Drift.Tide.cell d1 (by simp) q
 have e2:=fun q:Drift.Tide [] w1 []=>Drift.Tide.cell d2 (by simp) q
 clear d0 d1
 have D2:=Lib.hid d2
 clear d2
 refine Drift.wp_region_drift [] [(0,[]),(1,[]),(2,[]),(3,[]),(4,[]),(5,[]),(6,[]),(7,[]),(8,[]),(9,[]),(10,[])] [] [] (by kernel_rfl) (by kernel_rfl) (by simp) ?_
 simp only [Drift.pick,Drift.opsAt,List.getElem?_toArray,List.getElem?_cons_zero,List.getElem?_cons_succ,List.cons_append,List.nil_append,List.filterMap_nil]
 repeat (refine Drift.walk_step (fun K hK=>?_);go_simp;first|(refine hK _ ?_;clear hK K)|(apply Exists.intro;refine ⟨fun q=>?_,hK _ ?_⟩;(first|(go_at_call 131;exact (cB _).out.mono fun e w' ⟨he,hw⟩=>⟨he,by subst hw;exact Below.refl _ _⟩));clear hK K))
 refine Drift.walk_nil ?_
 intro w2 hb2 _
 have HB2:=Lib.hid hb2
 have hf:=(HW.out.kept hb2).free j
 have hc2:=(Below.cell hb2 (p:=⟨b,j,none⟩) HW.out.ow.lt).trans D2.out
 have HS:=Lib.hid ((HW.out.kept hb2).store HK.out (by simp))
 clear hb2
 simp only [List.length_cons,List.length_nil,List.drop_succ_cons,Nat.zero_add,Nat.reduceAdd]
 go_wp2_with fail
 go_ret
 exact ⟨rfl,HS.out.1,(Flow.Into.of_below HB.out).trans ((Flow.Into.of_below HB2.out).trans HS.out.2)⟩
theorem Has_any (g b:Nat) (i:Int) (tb:List Bool) (w:World) (h:RowAt w g b tb):Calls Tryz.prog 93 #[.pointer (some ⟨g,0,none⟩), .int .i64 i] w fun e w'=>e= .returned (.bool (hasB tb i))/\Below w.heap.size w w':=by
 cases hi:inB tb i with
 |true=>
  obtain ⟨k,rfl,hk⟩:=in_nat hi
  rw [has_nat]
  exact Has_in g b k tb w h hk
 |false=>
  rw [has_out hi]
  exact Has_out g b i tb w h (in_not hi)
theorem Set_any (g b:Nat) (i:Int) (tb:List Bool) (w:World) (h:RowAt w g b tb):Calls Tryz.prog 110 #[.pointer (some ⟨g,0,none⟩), .int .i64 i] w fun e w'=>e= .returned (.int .i64 (setE tb i))/\RowAt w' g b (setT tb i)/\Flow.Into [b] w w':=by
 cases hi:inB tb i with
 |true=>
  obtain ⟨k,rfl,hk⟩:=in_nat hi
  cases hv:tb.getD k false with
  |true=>
   have e1:setE tb k=10:=by unfold setE;rw [hi,has_nat,hv];rfl
   have e2:setT tb k=tb:=by unfold setT;rw [hi];exact set_same hk hv
   rw [e1,e2]
   exact (Set_twice g b k tb w h hk hv).mono fun e w' ⟨he,hb⟩=>⟨he,h.kept hb,Flow.Into.of_below hb⟩
  |false=>
   have e1:setE tb k=0:=by unfold setE;rw [hi,has_nat,hv];rfl
   have e2:setT tb k=tb.set k true:=by unfold setT;rw [hi];rfl
   rw [e1,e2]
   exact Set_ok g b k tb w h hk hv
 |false=>
  have e1:setE tb i=4:=by unfold setE;rw [hi];rfl
  have e2:setT tb i=tb:=by unfold setT;rw [hi];rfl
  rw [e1,e2]
  exact (Set_out g b i tb w h (in_not hi)).mono fun e w' ⟨he,hb⟩=>⟨he,hb▸h,hb▸Flow.Into.refl _ _⟩
theorem Clear_any (g b:Nat) (i:Int) (tb:List Bool) (w:World) (h:RowAt w g b tb):Calls Tryz.prog 115 #[.pointer (some ⟨g,0,none⟩), .int .i64 i] w fun e w'=>e= .returned (.int .i64 (clrE tb i))/\RowAt w' g b (clrT tb i)/\Flow.Into [b] w w':=by
 cases hi:inB tb i with
 |true=>
  obtain ⟨k,rfl,hk⟩:=in_nat hi
  cases hv:tb.getD k false with
  |false=>
   have e1:clrE tb k=9:=by unfold clrE;rw [hi,has_nat,hv];rfl
   have e2:clrT tb k=tb:=by unfold clrT;rw [hi];exact set_same hk hv
   rw [e1,e2]
   exact (Clear_twice g b k tb w h hk hv).mono fun e w' ⟨he,hb⟩=>⟨he,h.kept hb,Flow.Into.of_below hb⟩
  |true=>
   have e1:clrE tb k=0:=by unfold clrE;rw [hi,has_nat,hv];rfl
   have e2:clrT tb k=tb.set k false:=by unfold clrT;rw [hi];rfl
   rw [e1,e2]
   exact Clear_ok g b k tb w h hk hv
 |false=>
  have e1:clrE tb i=4:=by unfold clrE;rw [hi];rfl
  have e2:clrT tb i=tb:=by unfold clrT;rw [hi];rfl
  rw [e1,e2]
  exact (Clear_out g b i tb w h (in_not hi)).mono fun e w' ⟨he,hb⟩=>⟨he,hb▸h,hb▸Flow.Into.refl _ _⟩
end Bt
end Go.Proofs.YtjpjjnalpdpljaaGreatDoor
namespace Go.Proofs.YtjpjjnalpdpljaaGreatDoor
open Go.RowKit
namespace Bt
open Mem
theorem Count_any (g b:Nat) (tb:List Bool) (w:World) (h:RowAt w g b tb):Calls Tryz.prog 128 #[.pointer (some ⟨g,0,none⟩)] w fun e w'=>e= .returned (.int .i64 (cnt tb:Int))/\w=w':=by
 obtain ⟨c,ws,hw⟩:=h
 obtain ⟨d0,d1⟩:=hw.cells
 have hlen:=hw.rep.len
 have hhi:=hw.hi
 have hlt:=hw.rep.lt
 have HC:Hid (pc (bt ws) (64*ws.length)=cnt tb):=hw.rep.cnt
 have HP:Hid (∀j (h:j<ws.length),pc (bt ws) (64*(j+1))=pc (bt ws) (64*j)+ones ws[j]):=fun j h=>pc_word h
 have HD:Hid (∀j (h:j<ws.length),w.cell? ⟨b,j,none⟩=some (.int .u64 (ws[j]:Int))):=fun j h=>hw.word h
 have HX:Hid (∀j (h:j<ws.length),ws[j]<18446744073709551616):=fun j h=>hw.rep.get_lt h
 have cO:=fun x w hx=>Lib.hid (OnesCount64_any x w hx)
 obtain ⟨m,hm⟩:∃m,m=ws.length:=⟨_,rfl⟩
 have HM:=Lib.hid hm
 rw [<-hm] at d1 hlen HC
 have hm2:m<=1024:=by omega
 clear hw hm hlen hhi hlt d0
 go_enter Tryz.func128,Tryz.ntmps128
 go_wp2
 go_loopw [3,13] (fun x i wr=>∃k v:Nat,k<=m/\i= .int .i64 k/\x= .int .i64 (v:Int)/\v<=64*k/\Hid (v=pc (bt ws) (64*k))/\w=wr) (fun _ i _=>m-(intOf i).toNat)
 case atStart=>exact ⟨0,0,Nat.zero_le _,rfl,rfl,by omega,by unfold Hid;rfl,rfl⟩
 case round=>
  obtain ⟨k,v,hk,rfl,rfl,hv,HV,rfl⟩:=hrel
  by_cases hlt:k<m
  . have hkl:k<ws.length:=by rw [<-HM.out];exact hlt
    have hc:=HD.out k hkl
    have hx:=HX.out k hkl
    have HP1:=Lib.hid (HP.out k hkl)
    have ho:=ones_le ws[k]
    obtain ⟨x,hxx⟩:∃x,x=ws[k]:=⟨_,rfl⟩
    rw [<-hxx] at hc hx HP1 ho
    obtain ⟨u,hu⟩:∃u,u=ones x:=⟨_,rfl⟩
    have cO1:=cO x w hx
    rw [<-hu] at HP1 ho cO1
    clear hxx hkl hu cO hx
    go_wp2_with (go_at_call 162;refine cO1.out.mono ?_;rintro e w1 ⟨rfl,rfl⟩)
    exact ⟨⟨k+1,v+u,hlt,by go_num,by go_num,by omega,by unfold Hid;rw [HP1.out,HV.out],trivial⟩,by simp [intOf];omega⟩
  . obtain rfl:k=m:=by omega
    clear cO
    go_wp2
    go_ret
    exact ⟨ret_i64 (by rw [HV.out,HC.out]),rfl⟩
def Nope (tb:List Bool) (v:Bool) (a k:Nat):Prop:=∀j,a<=j->j<k->j<tb.length->tb.getD j false≠v
theorem Nope.none {tb:List Bool} {v:Bool} {f:Int} {k:Nat} (h:Nope tb v f.toNat k) (hk:tb.length<=k):firstO tb f v=none:=by
 cases ho:firstO tb f v with
 |none=>rfl
 |some r=>
  obtain ⟨h1,h2,h3,_⟩:=firstO_some ho
  exact absurd h3 (h r (by omega) (by omega) h2)
theorem Nope.some {tb:List Bool} {v:Bool} {f:Int} {k:Nat} (h:Nope tb v f.toNat k) (h0:f.toNat<=k) (hk:k<tb.length) (hv:tb.getD k false=v):firstO tb f v=some k:=by
 cases ho:firstO tb f v with
 |none=>exact absurd hv (firstO_none ho k (by omega) hk)
 |some r=>
  obtain ⟨h1,h2,h3,h4⟩:=firstO_some ho
  rcases Nat.lt_trichotomy r k with hlt|rfl|hlt
  . exact absurd h3 (h r (by omega) hlt h2)
  . rfl
  . exact absurd hv (h4 k (by omega) hlt)
theorem Nope.more {tb:List Bool} {v:Bool} {a k l:Nat} (h:Nope tb v a k) (hl:∀j,k<=j->j<l->tb.getD j false≠v):Nope tb v a l:=fun j h1 h2 h3=>by
 by_cases hj:j<k
 . exact h j h1 hj h3
 . exact hl j (by omega) h2
theorem first_any (g b:Nat) (f:Int) (turn:Bool) (tb:List Bool) (w:World) (h:RowAt w g b tb) (hT:Tab w) (hf:f<=9223372036854775807):
 Calls Tryz.prog 129 #[.pointer (some ⟨g,0,none⟩), .int .i64 f, .int .u64 (wt turn:Nat)] w fun e w'=>e= .returned (.tuple #[.int .i64 (foI (firstO tb f (!turn))), .bool (foB (firstO tb f (!turn)))])/\w=w':=by
 have HR:=Lib.hid h
 have HT:=Lib.hid hT
 have cL:=fun w h=>Lib.hid (Len_any g b tb w h)
 obtain ⟨c,ws,hw⟩:=h
 have HW:=Lib.hid hw
 obtain ⟨d0,d1⟩:=hw.cells
 have hhi:=hw.hi
 have hlo:=hw.lo
 obtain ⟨n,hn⟩:∃n,n=tb.length:=⟨_,rfl⟩
 have HN:=Lib.hid hn
 obtain ⟨m,hm⟩:∃m,m=ws.length:=⟨_,rfl⟩
 have HM:=Lib.hid hm
 obtain ⟨T,hTT⟩:∃T,T=wt turn:=⟨_,rfl⟩
 have HTT:=Lib.hid hTT
 obtain ⟨v,hv⟩:∃v,v= !turn:=⟨_,rfl⟩
 have HV:=Lib.hid hv
 rw [<-hv,<-hTT]
 rw [<-hn] at d0 cL hhi hlo
 rw [<-hm] at d1
 obtain ⟨a,ha⟩:∃a,a=f.toNat:=⟨_,rfl⟩
 have HA:=Lib.hid ha
 have ha1:a<=9223372036854775807:=by omega
 have HMAX:Hid (max f 0=(a:Int)):=by unfold Hid;omega
 have hmax:(if (0:Int)>f then (0:Int) else f)=(a:Int):=by split<;>omega
 clear hw hn hm hT hTT hv
 go_enter Tryz.func129,Tryz.ntmps129
 go_wp2
 go_loopw [8] (fun i wr=>∃k:Nat,a<=k/\k<=9223372036854775807/\i= .int .i64 k/\Hid (Nope tb v a k)/\w=wr) (fun i _=>n-(intOf i).toNat)
 case atStart=>exact ⟨a,Nat.le_refl _,ha1,by rw [HMAX.out],fun j h1 h2=>by omega,rfl⟩
 case round=>
  obtain ⟨k,hak,hk64,rfl,HK,rfl⟩:=hrel
  by_cases hlt:k<n
  . have hkt:k<tb.length:=by rw [<-HN.out];exact hlt
    have hj:=HW.out.rep.word hkt
    have hx:=HW.out.rep.get_lt hj
    have d2:=HW.out.word hj
    have hd64:=wd_lt64 HW.out.rep turn hkt
    have HS:=fun h0=>Lib.hid (wd_some HW.out.rep turn hkt h0)
    have HZ:=fun h0=>Lib.hid (fun j h1 h2=>wd_zero HW.out.rep turn (i:=k) h0 j h1 h2)
    have hxe:ws.getD (k / 64) 0=ws[k / 64]:=by simp [List.getD,hj]
    have hwd:(ws[k / 64] ^^^ T) / 2 ^ (k % 64)=wd ws turn k:=by unfold wd;rw [hxe,HTT.out]
    obtain ⟨x,hxx⟩:∃x,x=ws[k / 64]:=⟨_,rfl⟩
    rw [<-hxx] at d2 hx hwd
    obtain ⟨d,hdd⟩:∃d,d=wd ws turn k:=⟨_,rfl⟩
    rw [<-hdd] at hwd hd64 HS HZ
    rw [<-HV.out] at HS HZ
    rw [<-HM.out] at hj
    have kx:bits .xor .u64 (x:Int) (T:Int)=((x ^^^ T:Nat):Int):=u64_xor_nat x T hx (by rw [HTT.out];cases turn<;>simp [wt])
    obtain ⟨X,hX⟩:∃X,X=x ^^^ T:=⟨_,rfl⟩
    rw [<-hX] at kx hwd
    have ks:(X:Int) / 2 ^ (k % 64)=(d:Int):=by rw [<-hwd];simp
    have hq:(k:Int) / 64=((k / 64:Nat):Int):=by omega
    obtain ⟨j,hjj⟩:∃j,j=k / 64:=⟨_,rfl⟩
    rw [<-hjj] at d2 hj hq
    have hwj:IntKind.i64.wrap (j:Int)=(j:Int):=by rw [IntKind.wrap_i64];omega
    have hd:decide ((k:Int)<(n:Int))=true:=by simp;omega
    have hr0:0<=(k:Int) % 64:=by omega
    clear hxx hxe hX hwd hjj hkt hx
    by_cases h0:d=0
    . have HZ1:=HZ h0
      subst h0
      clear HS HZ hdd
      go_wp2_with (go_at_call 90;refine (cL _ HR.out).out.mono ?_;rintro e w' ⟨rfl,rfl⟩)
      exact ⟨⟨k+(64-k % 64),by omega,by omega,by congr 1;omega,HK.out.more HZ1.out,trivial⟩,by simp [intOf];omega⟩
    . have HS1:=HS h0
      have cT:=fun w hT=>Lib.hid (TrailingZeros64_any d w h0 hd64 hT)
      obtain ⟨q,hq1⟩:∃q,q=Lib.ctz 64 d:=⟨_,rfl⟩
      rw [<-hq1] at HS1 cT
      have hq2:q<64:=by have:=HS1.out;omega
      have hdz:((d:Int)==0)=false:=by simp;omega
      have hwa:IntKind.i64.wrap ((k:Int)+(q:Int))=(k:Int)+(q:Int):=by rw [IntKind.wrap_i64];omega
      clear HS HZ hdd hq1 hd64 h0
      by_cases ha2:k+q<n
      . have HO:Hid (firstO tb f v=some (k+q)):=by
         have h1:=HS1.out
         have h2:=HK.out.more (l:=k+q) h1.2.2
         rw [HA.out] at h2
         exact h2.some (by rw [<-HA.out];omega) (by rw [<-HN.out];exact ha2) h1.2.1
        have hd2:((n:Int)<=(k:Int)+(q:Int))=False:=by simp;omega
        clear HS1
        go_wp2_with (first|(go_at_call 90;refine (cL _ HR.out).out.mono ?_;rintro e w' ⟨rfl,rfl⟩)|(go_at_call 163;refine (cT _ HT.out).out.mono ?_;rintro e w' ⟨rfl,rfl⟩))
        exact bodyPost_ret (v:= .tuple #[.int .i64 ((k:Int)+(q:Int)), .bool true]) (by simp [results,Tryz.results129,go_sem]) rfl ⟨by rw [HO.out];simp [foI,foB],rfl⟩
      . have HO:Hid (firstO tb f v=none):=by
         have h1:=HS1.out
         have h2:=HK.out.more (l:=k+q) h1.2.2
         rw [HA.out] at h2
         exact h2.none (by rw [<-HN.out];omega)
        have hd2:(n:Int)<=(k:Int)+(q:Int):=by omega
        clear HS1
        go_wp2_with (first|(go_at_call 90;refine (cL _ HR.out).out.mono ?_;rintro e w' ⟨rfl,rfl⟩)|(go_at_call 163;refine (cT _ HT.out).out.mono ?_;rintro e w' ⟨rfl,rfl⟩))
        exact bodyPost_ret (v:= .tuple #[.int .i64 0, .bool false]) (by simp [results,Tryz.results129,go_sem]) rfl ⟨by rw [HO.out];rfl,rfl⟩
  . have HO:Hid (firstO tb f v=none):=by have:=HK.out;rw [HA.out] at this;exact this.none (by rw [<-HN.out];omega)
    have hd:decide ((k:Int)<(n:Int))=false:=by simp;omega
    go_wp2_with (go_at_call 90;refine (cL _ HR.out).out.mono ?_;rintro e w' ⟨rfl,rfl⟩)
    refine bodyPost_ret (v:= .tuple #[.int .i64 0, .bool false]) (by simp [results,Tryz.results129,go_sem]) rfl ⟨by rw [HO.out];rfl,rfl⟩
theorem Free_any (g b:Nat) (f:Int) (tb:List Bool) (w:World) (h:RowAt w g b tb) (hT:Tab w) (hf:f<=9223372036854775807):
 Calls Tryz.prog 157 #[.pointer (some ⟨g,0,none⟩), .int .i64 f] w fun e w'=>e= .returned (.tuple #[.int .i64 (foI (firstO tb f false)), .bool (foB (firstO tb f false))])/\w=w':=by
 have cF:∀w,RowAt w g b tb->Tab w->Hid (Calls Tryz.prog 129 #[.pointer (some ⟨g,0,none⟩), .int .i64 f, .int .u64 18446744073709551615] w fun e w'=>e= .returned (.tuple #[.int .i64 (foI (firstO tb f false)), .bool (foB (firstO tb f false))])/\w=w'):=fun w h hT=>first_any g b f true tb w h hT hf
 have HR:=Lib.hid h
 have HT:=Lib.hid hT
 generalize foI (firstO tb f false)=x at*
 generalize foB (firstO tb f false)=y at*
 clear h hT
 go_enter Tryz.func157,Tryz.ntmps157
 go_wp2_with (go_at_call 129;refine (cF _ HR.out HT.out).out.mono ?_;rintro e w' ⟨rfl,rfl⟩)
 exact bodyPost_ret (v:= .tuple #[.int .i64 x, .bool y]) (by simp [results,Tryz.results157,go_sem]) rfl ⟨rfl,rfl⟩
theorem Next_any (g b:Nat) (f:Int) (tb:List Bool) (w:World) (h:RowAt w g b tb) (hT:Tab w) (hf:f<=9223372036854775807):
 Calls Tryz.prog 92 #[.pointer (some ⟨g,0,none⟩), .int .i64 f] w fun e w'=>e= .returned (.tuple #[.int .i64 (foI (firstO tb f true)), .bool (foB (firstO tb f true))])/\w=w':=by
 have cF:∀w,RowAt w g b tb->Tab w->Hid (Calls Tryz.prog 129 #[.pointer (some ⟨g,0,none⟩), .int .i64 f, .int .u64 0] w fun e w'=>e= .returned (.tuple #[.int .i64 (foI (firstO tb f true)), .bool (foB (firstO tb f true))])/\w=w'):=fun w h hT=>first_any g b f false tb w h hT hf
 have HR:=Lib.hid h
 have HT:=Lib.hid hT
 generalize foI (firstO tb f true)=x at*
 generalize foB (firstO tb f true)=y at*
 clear h hT
 go_enter Tryz.func92,Tryz.ntmps92
 go_wp2_with (go_at_call 129;refine (cF _ HR.out HT.out).out.mono ?_;rintro e w' ⟨rfl,rfl⟩)
 exact bodyPost_ret (v:= .tuple #[.int .i64 x, .bool y]) (by simp [results,Tryz.results92,go_sem]) rfl ⟨rfl,rfl⟩
end Bt
end Go.Proofs.YtjpjjnalpdpljaaGreatDoor
namespace Go.Proofs.YtjpjjnalpdpljaaGreatDoor
open Go.RowKit
namespace Bt
open Mem
theorem u64info:(Tryz.prog.info? 62).map (fun i=>(i.zero,i.size,i.bytes))=some (some (.int .u64 0),1,8):=by kernel_rfl
theorem New_in (n:Nat) (w:World) (h0:1<=n) (h1:n<=65536):Calls Tryz.prog 109 #[.int .i64 (n:Int)] w fun e w'=>(∃g b,e= .returned (.tuple #[.pointer (some ⟨g,0,none⟩), .int .i64 0])/\RowAt w' g b (List.replicate n false)/\w.heap.size<=g/\w.heap.size<=b)/\Below w.heap.size w w':=by
 have HRP:=Lib.hid (rep_free n)
 obtain ⟨m,hm⟩:∃m,m=(n+63) / 64:=⟨_,rfl⟩
 rw [<-hm] at HRP
 have hmk:=fun w=>run_make_at (P:=Tryz.prog) Tryz.underlying168 u64info rfl (by omega) m (by omega) w
 have hq:((n:Int)+64-1) / 64=(m:Int):=by omega
 have hwm:IntKind.i64.wrap (m:Int)=(m:Int):=by rw [IntKind.wrap_i64];omega
 have HM:Hid (m<=1048576):=by unfold Hid;omega
 clear hm
 go_enter Tryz.func109,Tryz.ntmps109
 go_wp2
 have hw0:Ow 62 (w.alloc (.cells (Array.replicate m (.int .u64 0)) 62)) w.heap.size m ((List.replicate m 0).map wordV):=by
  have:=ow_made 62 w (.int .u64 0) m HM.out
  simpa [wordV] using this
 have hb1:Below w.heap.size w (w.alloc (.cells (Array.replicate m (.int .u64 0)) 62)):=(Below.refl _ _).alloc (Nat.le_refl _) _
 have hs1:(w.alloc (.cells (Array.replicate m (.int .u64 0)) 62)).heap.size=w.heap.size+1:=by simp
 generalize w.alloc (.cells (Array.replicate m (.int .u64 0)) 62)=w1 at*
 refine bodyPost_ret (v:= .tuple #[.pointer (some ⟨w.heap.size+1,0,none⟩), .int .i64 0]) (by simp [results,Tryz.results109,go_sem]) rfl ⟨⟨w.heap.size+1,w.heap.size,rfl,⟨m,List.replicate m 0,?_,?_,HRP.out,by simpa using h0,by simpa using h1⟩,by omega,Nat.le_refl _⟩,hb1.alloc hb1.size _⟩
 . rw [<-hs1,heap_alloc_new];simp
 . exact hw0.kept ((Below.refl _ _).alloc (Nat.le_refl _) _)
structure Rw (W w:World) (g b:Nat) (tb:List Bool):Prop where
 row:RowAt w g b tb
 tab:Tab w
 bel:Below W.heap.size W w
 hg:W.heap.size<=g
 hb:W.heap.size<=b
theorem Tab.below {W w:World} (h:Tab W) (hb:Below W.heap.size W w):Tab w:=h.keep (hb.block _ h.lt)
theorem below_into {B:Nat} {W w w':World} {S:List Nat} (h:Below B W w) (hi:Flow.Into S w w') (hS:∀k,k∈S->B<=k) (hB:B<=w.heap.size):Below B W w':=
 h.trans ⟨hi.os,hi.tape,hi.output,hi.size,fun k hk=>hi.block k (Nat.lt_of_lt_of_le hk hB) fun hh=>absurd hk (Nat.not_lt.2 (hS k hh))⟩
section
variable {W w w':World} {g b:Nat} {tb tb':List Bool}
theorem Rw.kept (h:Rw W w g b tb) (hT:Tab W) (hb:Below w.heap.size w w'):Rw W w' g b tb:=by
 have h1:=h.bel.trans (hb.mono h.bel.size)
 exact ⟨h.row.kept hb,hT.below h1,h1,h.hg,h.hb⟩
theorem Rw.into (h:Rw W w g b tb) (hT:Tab W) (hi:Flow.Into [b] w w') (hr:RowAt w' g b tb'):Rw W w' g b tb':=by
 have h1:=below_into h.bel hi (by simpa using h.hb) h.bel.size
 exact ⟨hr,hT.below h1,h1,h.hg,h.hb⟩
theorem Rw.Set (h:Rw W w g b tb) (hT:Tab W) (i:Int):Calls Tryz.prog 110 #[.pointer (some ⟨g,0,none⟩), .int .i64 i] w fun e w'=>e= .returned (.int .i64 (setE tb i))/\Rw W w' g b (setT tb i)/\Flow.Into [b] w w':=
 (Set_any g b i tb w h.row).mono fun _ _ ⟨he,hr,hi⟩=>⟨he,h.into hT hi hr,hi⟩
theorem Rw.Has (h:Rw W w g b tb) (hT:Tab W) (i:Int):Calls Tryz.prog 93 #[.pointer (some ⟨g,0,none⟩), .int .i64 i] w fun e w'=>e= .returned (.bool (hasB tb i))/\Rw W w' g b tb/\Below w.heap.size w w':=
 (Has_any g b i tb w h.row).mono fun _ _ ⟨he,hb⟩=>⟨he,h.kept hT hb,hb⟩
theorem Rw.Free (h:Rw W w g b tb) (f:Int) (hf:f<=9223372036854775807):Calls Tryz.prog 157 #[.pointer (some ⟨g,0,none⟩), .int .i64 f] w fun e w'=>e= .returned (.tuple #[.int .i64 (foI (firstO tb f false)), .bool (foB (firstO tb f false))])/\w=w':=
 Free_any g b f tb w h.row h.tab hf
theorem Rw.Next (h:Rw W w g b tb) (f:Int) (hf:f<=9223372036854775807):Calls Tryz.prog 92 #[.pointer (some ⟨g,0,none⟩), .int .i64 f] w fun e w'=>e= .returned (.tuple #[.int .i64 (foI (firstO tb f true)), .bool (foB (firstO tb f true))])/\w=w':=
 Next_any g b f tb w h.row h.tab hf
end
theorem New_rw (W w:World) (hT:Tab W) (hb:Below W.heap.size W w) (n:Nat) (h0:1<=n) (h1:n<=65536):Calls Tryz.prog 109 #[.int .i64 (n:Int)] w fun e w'=>∃g b,e= .returned (.tuple #[.pointer (some ⟨g,0,none⟩), .int .i64 0])/\Rw W w' g b (List.replicate n false)/\Below w.heap.size w w':=
 (New_in n w h0 h1).mono fun _ _ ⟨⟨g,b,he,hr,hg,hbb⟩,hbl⟩=>by
   have h2:=hb.trans (hbl.mono hb.size)
   exact ⟨g,b,he,⟨hr,hT.below h2,h2,Nat.le_trans hb.size hg,Nat.le_trans hb.size hbb⟩,hbl⟩
structure BoolAt (w:World) (h c n:Nat) (tb:List Bool):Prop where
 ow:Ow 4 w h c (tb.map Value.bool)
 len:tb.length=n
section
variable {w w':World} {h c n:Nat} {tb:List Bool}
theorem BoolAt.cell (H:BoolAt w h c n tb) {k:Nat} (hk:k<n):w.cell? ⟨h,k,none⟩=some (.bool (tb.getD k false)):=by
 have hk':k<tb.length:=by rw [H.len];exact hk
 rw [H.ow.cell (by simpa using hk')];simp [List.getD,hk']
theorem BoolAt.kept (H:BoolAt w h c n tb) (hb:Below w.heap.size w w'):BoolAt w' h c n tb:=⟨H.ow.kept hb,H.len⟩
theorem BoolAt.into {S:List Nat} (H:BoolAt w h c n tb) (hb:Flow.Into S w w') (hn:h∉S):BoolAt w' h c n tb:=⟨H.ow.into hb hn,H.len⟩
end
end Bt
end Go.Proofs.YtjpjjnalpdpljaaGreatDoor
namespace Go.Proofs.YtjpjjnalpdpljaaGreatDoor.Po
open Bt
def fill (tb:List Bool):Nat->List Bool
 |0=>tb
 |p+1=>(fill tb p).set p true
def frs (tb:List Bool):Nat->List Nat
 |0=>[]
 |p+1=>frs tb p++(if tb.getD p false then [] else [p])
def tks (tb:List Bool):Nat->List Nat
 |0=>[]
 |p+1=>tks tb p++(if tb.getD p false then [p] else [])
def free (tb:List Bool):Nat:=tb.length-cnt tb
theorem cnt_le (tb:List Bool):cnt tb<=tb.length:=pc_le _ _
theorem fill_len (tb:List Bool):∀p,(fill tb p).length=tb.length
 |0=>rfl
 |p+1=>by unfold fill;rw [List.length_set,fill_len tb p]
theorem fill_from (tb:List Bool):∀(p i:Nat),p<=i->(fill tb p).getD i false=tb.getD i false
 |0,_,_=>rfl
 |p+1,i,h=>by
  unfold fill
  by_cases hp:p<tb.length
  . rw [getD_set _ _ _ _ _ (by rw [fill_len];exact hp),if_neg (by omega),fill_from tb p i (by omega)]
  . rw [List.set_eq_of_length_le (by rw [fill_len];omega),fill_from tb p i (by omega)]
def Full (tb:List Bool) (p q:Nat):Prop:=∀j,p<=j->j<q->tb.getD j false=true
theorem fill_full (tb:List Bool) (p:Nat):∀d,p+d<=tb.length->Full tb p (p+d)->fill tb (p+d)=fill tb p/\frs tb (p+d)=frs tb p
 |0,_,_=>⟨rfl,rfl⟩
 |d+1,h,hf=>by
  obtain ⟨h1,h2⟩:=fill_full tb p d (by omega) fun j h3 h4=>hf j h3 (by omega)
  have h5:=hf (p+d) (by omega) (by omega)
  refine ⟨?_,?_⟩
  . show (fill tb (p+d)).set (p+d) true=fill tb p
    rw [set_same (by rw [fill_len];omega) (by rw [fill_from tb _ _ (Nat.le_refl _)];exact h5),h1]
  . show frs tb (p+d)++(if tb.getD (p+d) false then [] else [p+d])=frs tb p
    rw [h5,h2];simp
theorem frs_len (tb:List Bool):∀p,(frs tb p).length=pc (fun i=> !tb.getD i false) p
 |0=>rfl
 |p+1=>by
  unfold frs pc
  rw [List.length_append,frs_len tb p]
  cases tb.getD p false<;>rfl
theorem frs_all (tb:List Bool):(frs tb tb.length).length=free tb:=by rw [frs_len,pc_not];rfl
theorem frs_grow (tb:List Bool) (p:Nat):∀d,(frs tb p).length<=(frs tb (p+d)).length
 |0=>Nat.le_refl _
 |d+1=>by
  have:=frs_grow tb p d
  show _<=(frs tb (p+d)++_).length
  rw [List.length_append];omega
theorem frs_even (tb:List Bool) (p:Nat):∀d,(frs tb (p+d)).length=(frs tb p).length->Full tb p (p+d)
 |0,_=>fun j h1 h2=>by omega
 |d+1,h=>by
  have h1:=frs_grow tb p d
  have h2:(frs tb (p+d)++(if tb.getD (p+d) false then [] else [p+d])).length=(frs tb p).length:=h
  rw [List.length_append] at h2
  intro j h3 h4
  by_cases hj:j=p+d
  . subst hj
    cases hv:tb.getD (p+d) false with
    |true=>rfl
    |false=>rw [hv] at h2;simp at h2;omega
  . exact frs_even tb p d (by omega) j h3 (by omega)
def Got (tb:List Bool) (k:Nat) (t:List Bool) (l:List Nat):Prop:=∃p,p<=tb.length/\t=fill tb p/\l=frs tb p/\l.length=k
theorem Got.one {tb:List Bool} {k:Nat} {t t':List Bool} {l l':List Nat} (h:Got tb k t l) (h':Got tb k t' l'):t=t'/\l=l':=by
 have key:∀p q,p<=q->q<=tb.length->(frs tb p).length=(frs tb q).length->fill tb q=fill tb p/\frs tb q=frs tb p:=by
  intro p q h1 h2 h3
  obtain ⟨d,rfl⟩:∃d,q=p+d:=⟨q-p,by omega⟩
  exact fill_full tb p d h2 (frs_even tb p d h3.symm)
 obtain ⟨p,h1,rfl,rfl,h2⟩:=h
 obtain ⟨q,h3,rfl,rfl,h4⟩:=h'
 rcases Nat.le_total p q with hpq|hpq
 . obtain ⟨e1,e2⟩:=key p q hpq h3 (by omega)
   exact ⟨e1.symm,e2.symm⟩
 . obtain ⟨e1,e2⟩:=key q p hpq h1 (by omega)
   exact ⟨e1,e2⟩
theorem Got.len {tb:List Bool} {k:Nat} {t:List Bool} {l:List Nat} (h:Got tb k t l):t.length=tb.length/\l.length=k:=by
 obtain ⟨p,_,rfl,_,h4⟩:=h
 exact ⟨fill_len tb p,h4⟩
theorem frs_lt (tb:List Bool):∀(p x:Nat),x∈frs tb p->x<p
 |0,x,h=>by cases h
 |p+1,x,h=>by
  unfold frs at h
  rcases List.mem_append.1 h with h|h
  . exact Nat.lt_succ_of_lt (frs_lt tb p x h)
  . split at h
    . cases h
    . obtain rfl:x=p:=by simpa using h
      omega
theorem Got.lt {tb:List Bool} {k:Nat} {t:List Bool} {l:List Nat} (h:Got tb k t l) {x:Nat} (hx:x∈l):x<tb.length:=by
 obtain ⟨p,h1,_,rfl,_⟩:=h
 exact Nat.lt_of_lt_of_le (frs_lt tb p x hx) h1
theorem next_free {tb:List Bool} {q a k:Nat} (hq:q<=tb.length) (ha:a<=q) (hf:∀j,a<=j->j<q->(fill tb q).getD j false=true) (hk:(frs tb q).length<k) (hkf:k<=free tb):
 ∃r,q<=r/\r<tb.length/\firstO (fill tb q) (a:Int) false=some r/\(fill tb q).getD r false=false/\(fill tb q).set r true=fill tb (r+1)/\frs tb (r+1)=frs tb q++[r]:=by
 cases ho:firstO (fill tb q) (a:Int) false with
 |none=>
  have hno:=firstO_none ho
  obtain ⟨d,hd⟩:∃d,tb.length=q+d:=⟨tb.length-q,by omega⟩
  have hfull:Full tb q (q+d):=fun j h1 h2=>by
   have:=hno j (by omega) (by rw [fill_len];omega)
   rw [fill_from tb q j h1] at this
   simpa using this
  have:=(fill_full tb q d (by omega) hfull).2
  rw [<-hd] at this
  have h2:=frs_all tb
  rw [this] at h2
  omega
 |some r=>
  obtain ⟨h1,h2,h3,h4⟩:=firstO_some ho
  rw [fill_len] at h2
  have hqr:q<=r:=by
   rcases Nat.lt_or_ge r q with h|h
   . rw [hf r (by omega) h] at h3;cases h3
   . exact h
  obtain ⟨d,rfl⟩:∃d,r=q+d:=⟨r-q,by omega⟩
  have hfull:Full tb q (q+d):=fun j h5 h6=>by
   have:=h4 j (by omega) h6
   rw [fill_from tb q j h5] at this
   simpa using this
  obtain ⟨e1,e2⟩:=fill_full tb q d (by omega) hfull
  refine ⟨q+d,hqr,h2,rfl,h3,?_,?_⟩
  . show _=(fill tb (q+d)).set (q+d) true
    rw [e1]
  . show frs tb (q+d)++(if tb.getD (q+d) false then [] else [q+d])=_
    rw [fill_from tb q _ hqr] at h3
    rw [e2,h3];rfl
theorem fill_at (tb:List Bool) (r:Nat) (hr:r<tb.length):(fill tb (r+1)).getD r false=true:=by
 show ((fill tb r).set r true).getD r false=true
 rw [getD_set _ _ _ _ _ (by rw [fill_len];exact hr),if_pos rfl]
def gvE (tb:List Bool) (i:Nat):Int:=if i=0 then 2 else clrE tb i
def gvT (tb:List Bool) (i:Nat):List Bool:=if i=0 then tb else clrT tb i
theorem gvT_len (tb:List Bool) (i:Nat):(gvT tb i).length=tb.length:=by
 unfold gvT
 split
 . rfl
 . exact clrT_len _ _
theorem in_lt {tb:List Bool} {i:Nat} (h:i<tb.length):inB tb i=true:=by unfold inB;simp;omega
def setAll (tb:List Bool) (l:List Nat):List Bool:=l.foldl (fun t x=>t.set x true) tb
theorem setAll_append (tb:List Bool) (a b:List Nat):setAll tb (a++b)=setAll (setAll tb a) b:=by unfold setAll;rw [List.foldl_append]
theorem setAll_frs (tb:List Bool):∀p,p<=tb.length->setAll tb (frs tb p)=fill tb p
 |0,_=>rfl
 |p+1,h=>by
  have ih:=setAll_frs tb p (by omega)
  unfold frs
  rw [setAll_append,ih]
  cases hv:tb.getD p false with
  |true=>
   show fill tb p=(fill tb p).set p true
   exact (set_same (by rw [fill_len];omega) (by rw [fill_from tb p p (Nat.le_refl _)];exact hv)).symm
  |false=>rfl
def Fresh (tb:List Bool) (l:List Nat):Prop:=∀k (h:k<l.length),(setAll tb (l.take k)).getD l[k] false=false
theorem frs_fresh (tb:List Bool):∀p,p<=tb.length->Fresh tb (frs tb p)
 |0,_=>fun k h=>absurd h (by simp [frs])
 |p+1,hp=>by
  have ih:=frs_fresh tb p (by omega)
  cases hv:tb.getD p false with
  |true=>
   have e:frs tb (p+1)=frs tb p:=by
    show frs tb p++(if tb.getD p false then [] else [p])=_
    rw [hv];simp
   rw [e];exact ih
  |false=>
   have e:frs tb (p+1)=frs tb p++[p]:=by
    show frs tb p++(if tb.getD p false then [] else [p])=_
    rw [hv];rfl
   rw [e]
   intro k h
   by_cases hk:k<(frs tb p).length
   . rw [List.take_append_of_le_length (by omega),List.getElem_append_left hk]
     exact ih k hk
   . have hk':k=(frs tb p).length:=by simp at h;omega
     subst hk'
     rw [List.take_left',List.getElem_append_right (Nat.le_refl _)]
     . simp only [Nat.sub_self,List.getElem_cons_zero]
       rw [setAll_frs tb p (by omega),fill_from tb p p (Nat.le_refl _)]
       exact hv
     . rfl
theorem Got.fresh {tb:List Bool} {k:Nat} {t:List Bool} {l:List Nat} (h:Got tb k t l):Fresh tb l/\setAll tb l=t:=by
 obtain ⟨p,h1,rfl,rfl,_⟩:=h
 exact ⟨frs_fresh tb p h1,setAll_frs tb p h1⟩
end Go.Proofs.YtjpjjnalpdpljaaGreatDoor.Po
