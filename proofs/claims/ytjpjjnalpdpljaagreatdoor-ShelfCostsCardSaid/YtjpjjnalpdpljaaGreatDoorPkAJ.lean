import Derived.Test.YtjpjjnalpdpljaaGreatDoorPkAI
import Derived.Test.YtjpjjnalpdpljaaGreatDoorPkAG
set_option maxHeartbeats 4000000
set_option maxRecDepth 100000
namespace Go.Proofs.YtjpjjnalpdpljaaGreatDoor
open Go.RowKit
namespace Pq
open Mem Hp
theorem reverse_any {w:World} {g c n a b:Nat} {l:List Nat} (h:Ow 25 w g c (l.map nV)) (hl:l.length=n) (hab:a<b) (hbn:b<=n) (hn:n<=1000):Calls Tryz.prog 190 #[.slice (some ⟨g,0,none⟩) n c, .int .i64 (a:Int), .int .i64 (b:Int)] w fun e w'=>e= .returned (.tuple #[])/\∃L,US w w' g c n l L a b:=by
 have H0:=Lib.hid (US.start h hl a b)
 obtain ⟨b1,hb1⟩:∃b1,b=b1+1:=⟨b-1,by omega⟩
 have hw0:IntKind.i64.wrap ((b:Int)-1)=(b1:Int):=by rw [IntKind.wrap_i64];omega
 have hbb:b1<b:=by omega
 clear h hl hb1
 go_enter Tryz.func190,Tryz.ntmps190
 go_upto_block 0 with fail
 clear hw0
 go_wp2_with fail
 go_loopg [6,7] (b1+1-a) (fun gk iv jv wr=>∃(i j:Nat) (L:List Nat),gk=j+1-i/\iv= .int .i64 (i:Int)/\jv= .int .i64 (j:Int)/\a<=i/\j<b/\Hid (US w wr g c n l L a b))
 case atStart=>exact ⟨a,b1,l,rfl,rfl,rfl,Nat.le_refl _,hbb,H0⟩
 case round=>
  obtain ⟨i,j,L,rfl,rfl,rfl,hia,hjb,HS⟩:=hrel
  clear H0 hbb
  obtain ⟨wx,rfl⟩:∃wx:World,wx=wr:=⟨_,rfl⟩
  by_cases hij:i<j
  . obtain ⟨j1,hj1⟩:∃j1,j=j1+1:=⟨j-1,by omega⟩
    have hin:i<n:=by omega
    have hjn:j<n:=by omega
    have hib:i<b:=by omega
    have hja:a<=j:=by omega
    have hne:i≠j:=by omega
    have hne':j≠i:=by omega
    have hw1:IntKind.i64.wrap ((i:Int)+1)=((i+1:Nat):Int):=by rw [IntKind.wrap_i64];omega
    have hw2:IntKind.i64.wrap ((j:Int)-1)=(j1:Int):=by rw [IntKind.wrap_i64];omega
    have HJ:=Lib.hid hj1
    clear hj1
    go_upto_region 3 with fail
    have x0:=fun t:Drift.Tide [] wx []=>Drift.Tide.cell (HS.out.cell hin) (by simp) t
    have x1:=fun t:Drift.Tide [] wx []=>Drift.Tide.cell (HS.out.cell hjn) (by simp) t
    refine Drift.wp_region_drift_late [] [(0,[]),(1,[]),(2,[]),(3,[]),(4,[]),(5,[]),(6,[]),(7,[]),(8,[]),(9,[]),(10,[]),(11,[]),(12,[])] [] [] [2,3] (by kernel_rfl) (by kernel_rfl) (by simp) ?_
    simp only [Drift.pick,Drift.opsAt,List.getElem?_toArray,List.getElem?_cons_zero,List.getElem?_cons_succ,List.cons_append,List.nil_append,List.filterMap_nil]
    repeat (refine Drift.walk_step (fun K hK=>?_);go_simp;(refine hK _ ?_;clear hK K))
    refine Drift.walk_clear rfl (.slice (some ⟨g,0,none⟩) n c) (fun W=>by go_simp) ?_
    refine Drift.walk_clear rfl (.int .i64 (j:Int)) (fun W=>by go_simp) ?_
    repeat (refine Drift.walk_step (fun K hK=>?_);go_simp;(refine hK _ ?_;clear hK K))
    refine Drift.walk_nil ?_
    intro w6 hb6 _
    clear x0 x1
    have h6:=HS.out.kept hb6
    have f:=h6.free
    have e1:=h6.cell hin
    have e2:=h6.cell hjn
    have H7:=Lib.hid (h6.swap hbn hia hib hja hjb)
    clear h6 hb6 HS
    simp only [List.length_cons,List.length_nil,List.drop_succ_cons,List.drop_zero,Nat.zero_add,Nat.reduceAdd]
    go_wp2_with fail
    rw [Flow.Nrm_normal]
    clear e1 e2 f
    generalize (w6.setCell ⟨g,i,none⟩ (.int .u32 ((gt L j:Nat):Int))).setCell ⟨g,j,none⟩ (.int .u32 ((gt L i:Nat):Int))=w7 at*
    go_wp2_with fail
    go_roundg (j1+1-(i+1))
    case measure=>have:=HJ.out;omega
    case rel=>exact ⟨i+1,j1,_,rfl,by go_num,rfl,by omega,by have:=HJ.out;omega,H7⟩
  . have hij':j<=i:=by omega
    go_wp2_with fail
    go_end0
    exact ⟨rfl,L,HS.out⟩
structure MS (W w:World) (g c n s:Nat) (L:List Nat):Prop where
 ow:Ow 25 w g c (L.map nV)
 le:L.length=n
 box:∃z:Int,w.heap[s]? =some (.cells #[.int .i64 z] 3 (0,0))
 ne:g≠s
 hi:Flow.Into [s] W w
section
variable {W w w':World} {g c n s i:Nat} {L:List Nat}
theorem MS.kept (h:MS W w g c n s L) (hb:Below w.heap.size w w'):MS W w' g c n s L:=by
 obtain ⟨z,hz⟩:=h.box
 exact ⟨h.ow.kept hb,h.le,⟨z,(hb.block s (Array.getElem?_eq_some_iff.1 hz).1).trans hz⟩,h.ne,h.hi.trans (Flow.Into.of_below hb)⟩
theorem MS.cell (h:MS W w g c n s L) (hi:i<n):w.cell? ⟨g,i,none⟩=some (.int .u32 ((gt L i:Nat):Int)):=(US.start h.ow h.le 0 0).cell hi
theorem MS.set (h:MS W w g c n s L) (z:Int):MS W (w.setCell ⟨s,0,none⟩ (.int .i64 z)) g c n s L:=by
 obtain ⟨y,hy⟩:=h.box
 refine ⟨h.ow.keep (Below.heap_setCell _ _ _ _ h.ne),h.le,⟨z,?_⟩,h.ne,h.hi.trans ⟨rfl,rfl,rfl,by simp [World.setCell],fun i _ hn=>Below.heap_setCell _ _ _ _ (by simpa using hn)⟩⟩
 simp [World.setCell,Array.getElem?_modify,hy]
end
theorem order2_any {W w:World} {g c n s a b:Nat} {L:List Nat} (h:MS W w g c n s L) (ha:a<n) (hb:b<n):Calls Tryz.prog 213 #[.slice (some ⟨g,0,none⟩) n c, .int .i64 (a:Int), .int .i64 (b:Int), .pointer (some ⟨s,0,none⟩)] w fun e w'=>∃x y:Nat,e= .returned (.tuple #[.int .i64 (x:Int), .int .i64 (y:Int)])/\(x=a/\y=b\/x=b/\y=a)/\MS W w' g c n s L:=by
 obtain ⟨t,ht⟩:∃t:Bool,t=true↔gt L b<gt L a:=⟨decide (gt L b<gt L a),by simp⟩
 have cL:=fun w=>Lib.hid (Less_is ht w)
 have d1:=h.cell ha
 have d2:=h.cell hb
 have HM:=Lib.hid h
 clear h ht
 go_enter Tryz.func213,Tryz.ntmps213
 cases t with
 |true=>
  go_upto_region 1 with fail
  go_quiet ((go_at_call 192;exact Calls.quiet_of_same ((cL _).out.mono fun e w' ⟨he,hw⟩=>⟨he,hw.symm⟩)))
  go_upto_region 2 with fail
  have HM2:=Lib.hid (HM.out.kept (below_dn w nq))
  clear d1 d2 cL HM
  generalize w.drewN nq=w2 at*
  obtain ⟨z,hz⟩:=HM2.out.box
  have e1:w2.cell? ⟨s,0,none⟩=some (.int .i64 z):=by simp [World.cell?,hz]
  have e2:w2.frozen? ⟨s,0,none⟩=false:=by simp [World.frozen?,hz]
  obtain ⟨z1,hz1⟩:∃z1,IntKind.i64.wrap (z+1)=z1:=⟨_,rfl⟩
  have HM3:=Lib.hid (HM2.out.set z1)
  clear HM2 hz
  go_wp2_with fail
  exact bodyPost_ret (v:= .tuple #[.int .i64 (b:Int), .int .i64 (a:Int)]) (by simp [results,Tryz.results213,go_sem]) rfl ⟨b,a,rfl, .inr ⟨rfl,rfl⟩,HM3.out⟩
 |false=>
  go_upto_region 1 with fail
  go_quiet ((go_at_call 192;exact Calls.quiet_of_same ((cL _).out.mono fun e w' ⟨he,hw⟩=>⟨he,hw.symm⟩)))
  have HM2:=Lib.hid (HM.out.kept (below_dn w nq))
  clear d1 d2 cL HM
  go_wp2_with fail
  exact bodyPost_ret (v:= .tuple #[.int .i64 (a:Int), .int .i64 (b:Int)]) (by simp [results,Tryz.results213,go_sem]) rfl ⟨a,b,rfl, .inl ⟨rfl,rfl⟩,HM2.out⟩
theorem median_any {W w:World} {g c n s a b d:Nat} {L:List Nat} (h:MS W w g c n s L) (ha:a<n) (hb:b<n) (hd:d<n):Calls Tryz.prog 209 #[.slice (some ⟨g,0,none⟩) n c, .int .i64 (a:Int), .int .i64 (b:Int), .int .i64 (d:Int), .pointer (some ⟨s,0,none⟩)] w fun e w'=>∃x:Nat,e= .returned (.int .i64 (x:Int))/\(x=a\/x=b\/x=d)/\MS W w' g c n s L:=by
 have H0:=Lib.hid h
 clear h
 go_enter Tryz.func209,Tryz.ntmps209
 go_upto_region 2 with (go_at_call 213;refine (order2_any H0.out ha hb).mono ?_;rintro e w1 ⟨x1,y1,rfl,hx1,h1⟩)
 have H1:=Lib.hid h1
 have hx1n:x1<n:=by omega
 have hy1n:y1<n:=by omega
 have HX1:=Lib.hid hx1
 clear h1 hx1 H0
 go_upto_region 3 with (go_at_call 213;refine (order2_any H1.out hy1n hd).mono ?_;rintro e w2 ⟨x2,y2,rfl,hx2,h2⟩)
 have H2:=Lib.hid h2
 have hx2n:x2<n:=by omega
 have HX2:=Lib.hid hx2
 clear h2 hx2 H1
 go_wp2_with (go_at_call 213;refine (order2_any H2.out hx1n hx2n).mono ?_;rintro e w3 ⟨x3,y3,rfl,hx3,h3⟩)
 have H3:=Lib.hid h3
 have HX:Hid (y3=a\/y3=b\/y3=d):=by
  have:=HX1.out
  have:=HX2.out
  unfold Hid
  omega
 clear h3 hx3
 go_wp2_with fail
 go_ret
 exact ⟨y3,rfl,HX.out,H3.out⟩
theorem medianAdj_any {W w:World} {g c n s a:Nat} {L:List Nat} (h:MS W w g c n s L) (h1:1<=a) (ha:a+1<n) (hn:n<=1000):Calls Tryz.prog 208 #[.slice (some ⟨g,0,none⟩) n c, .int .i64 (a:Int), .pointer (some ⟨s,0,none⟩)] w fun e w'=>∃x:Nat,e= .returned (.int .i64 (x:Int))/\(a<=x+1/\x<=a+1)/\MS W w' g c n s L:=by
 obtain ⟨p,hp⟩:∃p,p=a-1:=⟨_,rfl⟩
 obtain ⟨q,hq⟩:∃q,q=a+1:=⟨_,rfl⟩
 have hw1:IntKind.i64.wrap ((a:Int)-1)=(p:Int):=by rw [IntKind.wrap_i64];omega
 have hw2:IntKind.i64.wrap ((a:Int)+1)=(q:Int):=by rw [IntKind.wrap_i64];omega
 have cM:=Lib.hid (median_any h (show p<n by omega) (show a<n by omega) (show q<n by omega))
 have HE:Hid (∀x,x=p\/x=a\/x=q->a<=x+1/\x<=a+1):=fun x hx=>by omega
 clear h hp hq h1 ha
 go_enter Tryz.func208,Tryz.ntmps208
 go_wp2_with (go_at_call 209;refine cM.out.mono ?_;rintro e w3 ⟨x,rfl,hx,h3⟩)
 go_ret
 exact ⟨x,rfl,HE.out x hx,h3⟩
theorem choosePivot_any {w:World} {g c n a b:Nat} {l:List Nat} (h:Ow 25 w g c (l.map nV)) (hl:l.length=n) (hab:a+12<b) (hbn:b<=n) (hn:n<=1000):Calls Tryz.prog 189 #[.slice (some ⟨g,0,none⟩) n c, .int .i64 (a:Int), .int .i64 (b:Int)] w fun e w'=>∃(x:Nat) (z:Int),e= .returned (.tuple #[.int .i64 (x:Int), .int .i64 z])/\(z=0\/z=1\/z=2)/\a<=x/\x<b/\Below w.heap.size w w':=by
 obtain ⟨m,hm⟩:∃m,m=b-a:=⟨_,rfl⟩
 obtain ⟨q,hq⟩:∃q,q=m / 4:=⟨_,rfl⟩
 obtain ⟨i,hi⟩:∃i,i=a+q:=⟨_,rfl⟩
 obtain ⟨j,hj⟩:∃j,j=a+2*q:=⟨_,rfl⟩
 obtain ⟨k,hk⟩:∃k,k=a+3*q:=⟨_,rfl⟩
 obtain ⟨q2,hq2⟩:∃q2,q2=2*q:=⟨_,rfl⟩
 obtain ⟨q3,hq3⟩:∃q3,q3=3*q:=⟨_,rfl⟩
 have hw1:IntKind.i64.wrap ((b:Int)-(a:Int))=(m:Int):=by rw [IntKind.wrap_i64];omega
 have hw2:(m:Int).tdiv 4=(q:Int):=by rw [Int.tdiv_eq_ediv_of_nonneg (by omega)];omega
 have hw3:IntKind.i64.wrap (q:Int)=(q:Int):=by rw [IntKind.wrap_i64];omega
 have hw4:IntKind.i64.wrap ((q:Int)*2)=(q2:Int):=by rw [IntKind.wrap_i64];omega
 have hw5:IntKind.i64.wrap ((q:Int)*3)=(q3:Int):=by rw [IntKind.wrap_i64];omega
 have hw6:IntKind.i64.wrap ((a:Int)+(q:Int))=(i:Int):=by rw [IntKind.wrap_i64];omega
 have hw7:IntKind.i64.wrap ((a:Int)+(q2:Int))=(j:Int):=by rw [IntKind.wrap_i64];omega
 have hw8:IntKind.i64.wrap ((a:Int)+(q3:Int))=(k:Int):=by rw [IntKind.wrap_i64];omega
 have hm8:8<=m:=by omega
 have HR:=Lib.hid (show 1<=q/\i=a+q/\j=a+2*q/\k=a+3*q/\a+3*q+1<b/\b<=n by omega)
 have hb0:Below w.heap.size w (w.alloc (.cells #[.int .i64 0] 3)):=(Below.refl _ _).alloc (Nat.le_refl _) _
 have HM:Hid (MS (w.alloc (.cells #[.int .i64 0] 3)) (w.alloc (.cells #[.int .i64 0] 3)) g c n w.heap.size l):=⟨h.kept hb0,hl,⟨0,heap_alloc_new w _⟩,(by have:=h.lt;omega),Flow.Into.refl _ _⟩
 have HB0:=Lib.hid hb0
 clear h hl hm hq hi hj hk hq2 hq3 hb0 hab
 go_enter Tryz.func189,Tryz.ntmps189
 go_upto_region 6 with fail
 generalize w.alloc (.cells #[.int .i64 0] 3)=w1 at*
 obtain ⟨s,hs⟩:∃s,s=w.heap.size:=⟨_,rfl⟩
 rw [<-hs] at HM
 simp only [<-hs]
 have HSW:Hid (w.heap.size<=s):=by rw [hs];exact Nat.le_refl _
 clear hw1 hw2 hw3 hw4 hw5 hw6 hw7 hw8 hs
 have hmg:¬(m<8):=by omega
 go_upto_if 34 with fail
 go_cut [10,11,12] (fun iv jv kv wx=>∃i j k:Nat,iv= .int .i64 (i:Int)/\jv= .int .i64 (j:Int)/\kv= .int .i64 (k:Int)/\Hid (a<=i/\i<b/\a<=j/\j<b/\a<=k/\k<b/\b<=n)/\Hid (MS w1 wx g c n s l))
 case first=>
  have hr:=HR.out
  by_cases h50:50<=m
  . have c1:=Lib.hid (medianAdj_any HM.out (show 1<=i by omega) (show i+1<n by omega) hn)
    have HB1:=Lib.hid (show 1<=j/\j+1<n/\1<=k/\k+1<n by omega)
    clear hr
    go_upto_region 9 with (go_at_call 208;refine c1.out.mono ?_;rintro e w2 ⟨x1,rfl,hx1,h1⟩)
    have c2:=Lib.hid (medianAdj_any h1 HB1.out.1 HB1.out.2.1 hn)
    have HX1:=Lib.hid hx1
    clear c1 h1 hx1
    go_upto_region 10 with (go_at_call 208;refine c2.out.mono ?_;rintro e w3 ⟨x2,rfl,hx2,h2⟩)
    have c3:=Lib.hid (medianAdj_any h2 HB1.out.2.2.1 HB1.out.2.2.2 hn)
    have HX2:=Lib.hid hx2
    clear c2 h2 hx2
    go_wp2_with (go_at_call 208;refine c3.out.mono ?_;rintro e w4 ⟨x3,rfl,hx3,h3⟩)
    have HX3:Hid (a<=x1/\x1<b/\a<=x2/\x2<b/\a<=x3/\x3<b/\b<=n):=by
     have:=HX1.out
     have:=HX2.out
     have:=HR.out
     unfold Hid
     omega
    have H3:=Lib.hid h3
    clear h3 hx3 c3
    go_wp2_with fail
    go_meet
    exact ⟨x1,x2,x3,rfl,rfl,rfl,HX3,H3⟩
  . have HX3:Hid (a<=i/\i<b/\a<=j/\j<b/\a<=k/\k<b/\b<=n):=by unfold Hid;omega
    have h50':m<50:=by omega
    clear hr
    go_wp2_with fail
    go_meet
    exact ⟨i,j,k,rfl,rfl,rfl,HX3,HM⟩
 case rest=>
 obtain ⟨i2,j2,k2,rfl,rfl,rfl,HX,H2⟩:=hcut
 clear HR HM hm8 hmg
 have hx:=HX.out
 have c4:=Lib.hid (median_any H2.out (show i2<n by omega) (show j2<n by omega) (show k2<n by omega))
 clear hx H2
 go_upto_region 12 with (go_at_call 209;refine c4.out.mono ?_;rintro e w5 ⟨x,rfl,hx,h5⟩)
 obtain ⟨z,hz⟩:=h5.box
 have e1:w5.cell? ⟨s,0,none⟩=some (.int .i64 z):=by simp [World.cell?,hz]
 have HE:Hid (a<=x/\x<b/\Below w.heap.size w w5):=by
  have:=HX.out
  refine ⟨by omega,by omega,HB0.out.trans ⟨h5.hi.os,h5.hi.tape,h5.hi.output,h5.hi.size,fun q hq=>h5.hi.block q (Nat.lt_of_lt_of_le hq HB0.out.size) ?_⟩⟩
  have:=HSW.out
  simp only [List.mem_singleton]
  omega
 clear hx h5 hz c4 HX
 by_cases h0:z=0
 . subst h0
   go_wp2_with fail
   exact bodyPost_ret (v:= .tuple #[.int .i64 (x:Int), .int .i64 1]) (by simp [results,Tryz.results189,go_sem]) rfl ⟨x,1,rfl,by omega,HE.out⟩
 . by_cases h12:z=12
   . subst h12
     go_wp2_with fail
     exact bodyPost_ret (v:= .tuple #[.int .i64 (x:Int), .int .i64 2]) (by simp [results,Tryz.results189,go_sem]) rfl ⟨x,2,rfl,by omega,HE.out⟩
   . have hd0:(z==0)=false:=by simpa using h0
     have hd1:(z==12)=false:=by simpa using h12
     go_wp2_with fail
     exact bodyPost_ret (v:= .tuple #[.int .i64 (x:Int), .int .i64 0]) (by simp [results,Tryz.results189,go_sem]) rfl ⟨x,0,rfl,by omega,HE.out⟩
end Pq
end Go.Proofs.YtjpjjnalpdpljaaGreatDoor
namespace Go.Proofs.YtjpjjnalpdpljaaGreatDoor
open Go.RowKit
namespace Pq
open Mem Hp
theorem Len_small (n:Nat) (h1:1<=n) (hn:n<=80) (w:World):Calls Tryz.prog 165 #[.int .u64 (n:Int)] w fun e w'=>∃z:Nat,e= .returned (.int .i64 (z:Int))/\w=w'/\1<=z/\z<=7/\2 ^ z<=2*n:=by
 have h:n=1\/n=2\/n=3\/n=4\/n=5\/n=6\/n=7\/n=8\/n=9\/n=10\/n=11\/n=12\/n=13\/n=14\/n=15\/n=16\/n=17\/n=18\/n=19\/n=20\/n=21\/n=22\/n=23\/n=24\/n=25\/n=26\/n=27\/n=28\/n=29\/n=30\/n=31\/n=32\/n=33\/n=34\/n=35\/n=36\/n=37\/n=38\/n=39\/n=40\/n=41\/n=42\/n=43\/n=44\/n=45\/n=46\/n=47\/n=48\/n=49\/n=50\/n=51\/n=52\/n=53\/n=54\/n=55\/n=56\/n=57\/n=58\/n=59\/n=60\/n=61\/n=62\/n=63\/n=64\/n=65\/n=66\/n=67\/n=68\/n=69\/n=70\/n=71\/n=72\/n=73\/n=74\/n=75\/n=76\/n=77\/n=78\/n=79\/n=80:=by omega
 clear h1 hn
 rcases h with rfl|rfl|rfl|rfl|rfl|rfl|rfl|rfl|rfl|rfl|rfl|rfl|rfl|rfl|rfl|rfl|rfl|rfl|rfl|rfl|rfl|rfl|rfl|rfl|rfl|rfl|rfl|rfl|rfl|rfl|rfl|rfl|rfl|rfl|rfl|rfl|rfl|rfl|rfl|rfl|rfl|rfl|rfl|rfl|rfl|rfl|rfl|rfl|rfl|rfl|rfl|rfl|rfl|rfl|rfl|rfl|rfl|rfl|rfl|rfl|rfl|rfl|rfl|rfl|rfl|rfl|rfl|rfl|rfl|rfl|rfl|rfl|rfl|rfl|rfl|rfl|rfl|rfl|rfl|rfl
 . go_enter Tryz.func165,Tryz.ntmps165
   go_wp2_with go_in
   go_ret
   exact ⟨1,by kernel_rfl,rfl,by decide,by decide,by decide⟩
 . go_enter Tryz.func165,Tryz.ntmps165
   go_wp2_with go_in
   go_ret
   exact ⟨2,by kernel_rfl,rfl,by decide,by decide,by decide⟩
 . go_enter Tryz.func165,Tryz.ntmps165
   go_wp2_with go_in
   go_ret
   exact ⟨2,by kernel_rfl,rfl,by decide,by decide,by decide⟩
 . go_enter Tryz.func165,Tryz.ntmps165
   go_wp2_with go_in
   go_ret
   exact ⟨3,by kernel_rfl,rfl,by decide,by decide,by decide⟩
 . go_enter Tryz.func165,Tryz.ntmps165
   go_wp2_with go_in
   go_ret
   exact ⟨3,by kernel_rfl,rfl,by decide,by decide,by decide⟩
 . go_enter Tryz.func165,Tryz.ntmps165
   go_wp2_with go_in
   go_ret
   exact ⟨3,by kernel_rfl,rfl,by decide,by decide,by decide⟩
 . go_enter Tryz.func165,Tryz.ntmps165
   go_wp2_with go_in
   go_ret
   exact ⟨3,by kernel_rfl,rfl,by decide,by decide,by decide⟩
 . go_enter Tryz.func165,Tryz.ntmps165
   go_wp2_with go_in
   go_ret
   exact ⟨4,by kernel_rfl,rfl,by decide,by decide,by decide⟩
 . go_enter Tryz.func165,Tryz.ntmps165
   go_wp2_with go_in
   go_ret
   exact ⟨4,by kernel_rfl,rfl,by decide,by decide,by decide⟩
 . go_enter Tryz.func165,Tryz.ntmps165
   go_wp2_with go_in
   go_ret
   exact ⟨4,by kernel_rfl,rfl,by decide,by decide,by decide⟩
 . go_enter Tryz.func165,Tryz.ntmps165
   go_wp2_with go_in
   go_ret
   exact ⟨4,by kernel_rfl,rfl,by decide,by decide,by decide⟩
 . go_enter Tryz.func165,Tryz.ntmps165
   go_wp2_with go_in
   go_ret
   exact ⟨4,by kernel_rfl,rfl,by decide,by decide,by decide⟩
 . go_enter Tryz.func165,Tryz.ntmps165
   go_wp2_with go_in
   go_ret
   exact ⟨4,by kernel_rfl,rfl,by decide,by decide,by decide⟩
 . go_enter Tryz.func165,Tryz.ntmps165
   go_wp2_with go_in
   go_ret
   exact ⟨4,by kernel_rfl,rfl,by decide,by decide,by decide⟩
 . go_enter Tryz.func165,Tryz.ntmps165
   go_wp2_with go_in
   go_ret
   exact ⟨4,by kernel_rfl,rfl,by decide,by decide,by decide⟩
 . go_enter Tryz.func165,Tryz.ntmps165
   go_wp2_with go_in
   go_ret
   exact ⟨5,by kernel_rfl,rfl,by decide,by decide,by decide⟩
 . go_enter Tryz.func165,Tryz.ntmps165
   go_wp2_with go_in
   go_ret
   exact ⟨5,by kernel_rfl,rfl,by decide,by decide,by decide⟩
 . go_enter Tryz.func165,Tryz.ntmps165
   go_wp2_with go_in
   go_ret
   exact ⟨5,by kernel_rfl,rfl,by decide,by decide,by decide⟩
 . go_enter Tryz.func165,Tryz.ntmps165
   go_wp2_with go_in
   go_ret
   exact ⟨5,by kernel_rfl,rfl,by decide,by decide,by decide⟩
 . go_enter Tryz.func165,Tryz.ntmps165
   go_wp2_with go_in
   go_ret
   exact ⟨5,by kernel_rfl,rfl,by decide,by decide,by decide⟩
 . go_enter Tryz.func165,Tryz.ntmps165
   go_wp2_with go_in
   go_ret
   exact ⟨5,by kernel_rfl,rfl,by decide,by decide,by decide⟩
 . go_enter Tryz.func165,Tryz.ntmps165
   go_wp2_with go_in
   go_ret
   exact ⟨5,by kernel_rfl,rfl,by decide,by decide,by decide⟩
 . go_enter Tryz.func165,Tryz.ntmps165
   go_wp2_with go_in
   go_ret
   exact ⟨5,by kernel_rfl,rfl,by decide,by decide,by decide⟩
 . go_enter Tryz.func165,Tryz.ntmps165
   go_wp2_with go_in
   go_ret
   exact ⟨5,by kernel_rfl,rfl,by decide,by decide,by decide⟩
 . go_enter Tryz.func165,Tryz.ntmps165
   go_wp2_with go_in
   go_ret
   exact ⟨5,by kernel_rfl,rfl,by decide,by decide,by decide⟩
 . go_enter Tryz.func165,Tryz.ntmps165
   go_wp2_with go_in
   go_ret
   exact ⟨5,by kernel_rfl,rfl,by decide,by decide,by decide⟩
 . go_enter Tryz.func165,Tryz.ntmps165
   go_wp2_with go_in
   go_ret
   exact ⟨5,by kernel_rfl,rfl,by decide,by decide,by decide⟩
 . go_enter Tryz.func165,Tryz.ntmps165
   go_wp2_with go_in
   go_ret
   exact ⟨5,by kernel_rfl,rfl,by decide,by decide,by decide⟩
 . go_enter Tryz.func165,Tryz.ntmps165
   go_wp2_with go_in
   go_ret
   exact ⟨5,by kernel_rfl,rfl,by decide,by decide,by decide⟩
 . go_enter Tryz.func165,Tryz.ntmps165
   go_wp2_with go_in
   go_ret
   exact ⟨5,by kernel_rfl,rfl,by decide,by decide,by decide⟩
 . go_enter Tryz.func165,Tryz.ntmps165
   go_wp2_with go_in
   go_ret
   exact ⟨5,by kernel_rfl,rfl,by decide,by decide,by decide⟩
 . go_enter Tryz.func165,Tryz.ntmps165
   go_wp2_with go_in
   go_ret
   exact ⟨6,by kernel_rfl,rfl,by decide,by decide,by decide⟩
 . go_enter Tryz.func165,Tryz.ntmps165
   go_wp2_with go_in
   go_ret
   exact ⟨6,by kernel_rfl,rfl,by decide,by decide,by decide⟩
 . go_enter Tryz.func165,Tryz.ntmps165
   go_wp2_with go_in
   go_ret
   exact ⟨6,by kernel_rfl,rfl,by decide,by decide,by decide⟩
 . go_enter Tryz.func165,Tryz.ntmps165
   go_wp2_with go_in
   go_ret
   exact ⟨6,by kernel_rfl,rfl,by decide,by decide,by decide⟩
 . go_enter Tryz.func165,Tryz.ntmps165
   go_wp2_with go_in
   go_ret
   exact ⟨6,by kernel_rfl,rfl,by decide,by decide,by decide⟩
 . go_enter Tryz.func165,Tryz.ntmps165
   go_wp2_with go_in
   go_ret
   exact ⟨6,by kernel_rfl,rfl,by decide,by decide,by decide⟩
 . go_enter Tryz.func165,Tryz.ntmps165
   go_wp2_with go_in
   go_ret
   exact ⟨6,by kernel_rfl,rfl,by decide,by decide,by decide⟩
 . go_enter Tryz.func165,Tryz.ntmps165
   go_wp2_with go_in
   go_ret
   exact ⟨6,by kernel_rfl,rfl,by decide,by decide,by decide⟩
 . go_enter Tryz.func165,Tryz.ntmps165
   go_wp2_with go_in
   go_ret
   exact ⟨6,by kernel_rfl,rfl,by decide,by decide,by decide⟩
 . go_enter Tryz.func165,Tryz.ntmps165
   go_wp2_with go_in
   go_ret
   exact ⟨6,by kernel_rfl,rfl,by decide,by decide,by decide⟩
 . go_enter Tryz.func165,Tryz.ntmps165
   go_wp2_with go_in
   go_ret
   exact ⟨6,by kernel_rfl,rfl,by decide,by decide,by decide⟩
 . go_enter Tryz.func165,Tryz.ntmps165
   go_wp2_with go_in
   go_ret
   exact ⟨6,by kernel_rfl,rfl,by decide,by decide,by decide⟩
 . go_enter Tryz.func165,Tryz.ntmps165
   go_wp2_with go_in
   go_ret
   exact ⟨6,by kernel_rfl,rfl,by decide,by decide,by decide⟩
 . go_enter Tryz.func165,Tryz.ntmps165
   go_wp2_with go_in
   go_ret
   exact ⟨6,by kernel_rfl,rfl,by decide,by decide,by decide⟩
 . go_enter Tryz.func165,Tryz.ntmps165
   go_wp2_with go_in
   go_ret
   exact ⟨6,by kernel_rfl,rfl,by decide,by decide,by decide⟩
 . go_enter Tryz.func165,Tryz.ntmps165
   go_wp2_with go_in
   go_ret
   exact ⟨6,by kernel_rfl,rfl,by decide,by decide,by decide⟩
 . go_enter Tryz.func165,Tryz.ntmps165
   go_wp2_with go_in
   go_ret
   exact ⟨6,by kernel_rfl,rfl,by decide,by decide,by decide⟩
 . go_enter Tryz.func165,Tryz.ntmps165
   go_wp2_with go_in
   go_ret
   exact ⟨6,by kernel_rfl,rfl,by decide,by decide,by decide⟩
 . go_enter Tryz.func165,Tryz.ntmps165
   go_wp2_with go_in
   go_ret
   exact ⟨6,by kernel_rfl,rfl,by decide,by decide,by decide⟩
 . go_enter Tryz.func165,Tryz.ntmps165
   go_wp2_with go_in
   go_ret
   exact ⟨6,by kernel_rfl,rfl,by decide,by decide,by decide⟩
 . go_enter Tryz.func165,Tryz.ntmps165
   go_wp2_with go_in
   go_ret
   exact ⟨6,by kernel_rfl,rfl,by decide,by decide,by decide⟩
 . go_enter Tryz.func165,Tryz.ntmps165
   go_wp2_with go_in
   go_ret
   exact ⟨6,by kernel_rfl,rfl,by decide,by decide,by decide⟩
 . go_enter Tryz.func165,Tryz.ntmps165
   go_wp2_with go_in
   go_ret
   exact ⟨6,by kernel_rfl,rfl,by decide,by decide,by decide⟩
 . go_enter Tryz.func165,Tryz.ntmps165
   go_wp2_with go_in
   go_ret
   exact ⟨6,by kernel_rfl,rfl,by decide,by decide,by decide⟩
 . go_enter Tryz.func165,Tryz.ntmps165
   go_wp2_with go_in
   go_ret
   exact ⟨6,by kernel_rfl,rfl,by decide,by decide,by decide⟩
 . go_enter Tryz.func165,Tryz.ntmps165
   go_wp2_with go_in
   go_ret
   exact ⟨6,by kernel_rfl,rfl,by decide,by decide,by decide⟩
 . go_enter Tryz.func165,Tryz.ntmps165
   go_wp2_with go_in
   go_ret
   exact ⟨6,by kernel_rfl,rfl,by decide,by decide,by decide⟩
 . go_enter Tryz.func165,Tryz.ntmps165
   go_wp2_with go_in
   go_ret
   exact ⟨6,by kernel_rfl,rfl,by decide,by decide,by decide⟩
 . go_enter Tryz.func165,Tryz.ntmps165
   go_wp2_with go_in
   go_ret
   exact ⟨6,by kernel_rfl,rfl,by decide,by decide,by decide⟩
 . go_enter Tryz.func165,Tryz.ntmps165
   go_wp2_with go_in
   go_ret
   exact ⟨6,by kernel_rfl,rfl,by decide,by decide,by decide⟩
 . go_enter Tryz.func165,Tryz.ntmps165
   go_wp2_with go_in
   go_ret
   exact ⟨6,by kernel_rfl,rfl,by decide,by decide,by decide⟩
 . go_enter Tryz.func165,Tryz.ntmps165
   go_wp2_with go_in
   go_ret
   exact ⟨6,by kernel_rfl,rfl,by decide,by decide,by decide⟩
 . go_enter Tryz.func165,Tryz.ntmps165
   go_wp2_with go_in
   go_ret
   exact ⟨7,by kernel_rfl,rfl,by decide,by decide,by decide⟩
 . go_enter Tryz.func165,Tryz.ntmps165
   go_wp2_with go_in
   go_ret
   exact ⟨7,by kernel_rfl,rfl,by decide,by decide,by decide⟩
 . go_enter Tryz.func165,Tryz.ntmps165
   go_wp2_with go_in
   go_ret
   exact ⟨7,by kernel_rfl,rfl,by decide,by decide,by decide⟩
 . go_enter Tryz.func165,Tryz.ntmps165
   go_wp2_with go_in
   go_ret
   exact ⟨7,by kernel_rfl,rfl,by decide,by decide,by decide⟩
 . go_enter Tryz.func165,Tryz.ntmps165
   go_wp2_with go_in
   go_ret
   exact ⟨7,by kernel_rfl,rfl,by decide,by decide,by decide⟩
 . go_enter Tryz.func165,Tryz.ntmps165
   go_wp2_with go_in
   go_ret
   exact ⟨7,by kernel_rfl,rfl,by decide,by decide,by decide⟩
 . go_enter Tryz.func165,Tryz.ntmps165
   go_wp2_with go_in
   go_ret
   exact ⟨7,by kernel_rfl,rfl,by decide,by decide,by decide⟩
 . go_enter Tryz.func165,Tryz.ntmps165
   go_wp2_with go_in
   go_ret
   exact ⟨7,by kernel_rfl,rfl,by decide,by decide,by decide⟩
 . go_enter Tryz.func165,Tryz.ntmps165
   go_wp2_with go_in
   go_ret
   exact ⟨7,by kernel_rfl,rfl,by decide,by decide,by decide⟩
 . go_enter Tryz.func165,Tryz.ntmps165
   go_wp2_with go_in
   go_ret
   exact ⟨7,by kernel_rfl,rfl,by decide,by decide,by decide⟩
 . go_enter Tryz.func165,Tryz.ntmps165
   go_wp2_with go_in
   go_ret
   exact ⟨7,by kernel_rfl,rfl,by decide,by decide,by decide⟩
 . go_enter Tryz.func165,Tryz.ntmps165
   go_wp2_with go_in
   go_ret
   exact ⟨7,by kernel_rfl,rfl,by decide,by decide,by decide⟩
 . go_enter Tryz.func165,Tryz.ntmps165
   go_wp2_with go_in
   go_ret
   exact ⟨7,by kernel_rfl,rfl,by decide,by decide,by decide⟩
 . go_enter Tryz.func165,Tryz.ntmps165
   go_wp2_with go_in
   go_ret
   exact ⟨7,by kernel_rfl,rfl,by decide,by decide,by decide⟩
 . go_enter Tryz.func165,Tryz.ntmps165
   go_wp2_with go_in
   go_ret
   exact ⟨7,by kernel_rfl,rfl,by decide,by decide,by decide⟩
 . go_enter Tryz.func165,Tryz.ntmps165
   go_wp2_with go_in
   go_ret
   exact ⟨7,by kernel_rfl,rfl,by decide,by decide,by decide⟩
 . go_enter Tryz.func165,Tryz.ntmps165
   go_wp2_with go_in
   go_ret
   exact ⟨7,by kernel_rfl,rfl,by decide,by decide,by decide⟩
theorem nextPow_any (n:Nat) (h1:1<=n) (hn:n<=80) (w:World):Calls Tryz.prog 206 #[.int .i64 (n:Int)] w fun e w'=>∃M:Nat,e= .returned (.int .u64 (M:Int))/\w=w'/\1<=M/\M<=2*n:=by
 have cL:=fun w=>Lib.hid (Len_small n h1 hn w)
 have hw1:IntKind.u64.wrap (n:Int)=(n:Int):=by rw [IntKind.wrap_u64];omega
 clear h1 hn
 go_enter Tryz.func206,Tryz.ntmps206
 go_wp2_with (go_at_call 165;refine (cL _).out.mono ?_;rintro e w' ⟨z,rfl,rfl,hz1,hz2,hz3⟩;obtain rfl|rfl|rfl|rfl|rfl|rfl|rfl:z=1\/z=2\/z=3\/z=4\/z=5\/z=6\/z=7:=by omega)
 . go_ret
   exact ⟨2,rfl,rfl,by decide,by omega⟩
 . go_ret
   exact ⟨4,rfl,rfl,by decide,by omega⟩
 . go_ret
   exact ⟨8,rfl,rfl,by decide,by omega⟩
 . go_ret
   exact ⟨16,rfl,rfl,by decide,by omega⟩
 . go_ret
   exact ⟨32,rfl,rfl,by decide,by omega⟩
 . go_ret
   exact ⟨64,rfl,rfl,by decide,by omega⟩
 . go_ret
   exact ⟨128,rfl,rfl,by decide,by omega⟩
end Pq
end Go.Proofs.YtjpjjnalpdpljaaGreatDoor
namespace Go.Proofs.YtjpjjnalpdpljaaGreatDoor
open Go.RowKit
namespace Pq
open Mem Hp
theorem and_le (z:Int) (M:Nat) (hM:M<18446744073709551616):∃m:Nat,bits .and .u64 z (M:Int)=(m:Int)/\m<=M:=by
 refine ⟨(BitVec.ofInt 64 z&&& BitVec.ofInt 64 (M:Int)).toNat,?_,?_⟩
 . have h:(BitVec.ofInt 64 z&&& BitVec.ofInt 64 (M:Int)).toNat<18446744073709551616:=(BitVec.ofInt 64 z&&& BitVec.ofInt 64 (M:Int)).isLt
   show IntKind.u64.wrap ((BitVec.ofInt 64 z&&& BitVec.ofInt 64 (M:Int)).toNat:Int)=_
   generalize (BitVec.ofInt 64 z&&& BitVec.ofInt 64 (M:Int)).toNat=q at*
   rw [IntKind.wrap_u64]
   omega
 . rw [BitVec.toNat_and]
   refine Nat.le_trans Nat.and_le_right ?_
   have:(BitVec.ofInt 64 (M:Int)).toNat=M:=by
    rw [BitVec.ofInt_natCast,BitVec.toNat_ofNat]
    exact Nat.mod_eq_of_lt hM
   rw [this]
   exact Nat.le_refl _
theorem Next_any {w:World} {s:Nat} {z:Int} (h:w.heap[s]? =some (.cells #[.int .u64 z] 231 (0,0))):Calls Tryz.prog 207 #[.pointer (some ⟨s,0,none⟩)] w fun e w'=>∃y:Int,e= .returned (.int .u64 y)/\(∃y:Int,w'.heap[s]? =some (.cells #[.int .u64 y] 231 (0,0)))/\Flow.Into [s] w w':=by
 have H0:=Lib.hid h
 have hst:∀(w:World) (z y:Int),w.heap[s]? =some (.cells #[.int .u64 z] 231 (0,0))->(w.setCell ⟨s,0,none⟩ (.int .u64 y)).heap[s]? =some (.cells #[.int .u64 y] 231 (0,0))/\Flow.Into [s] w (w.setCell ⟨s,0,none⟩ (.int .u64 y)):=fun w z y h=>⟨by simp [World.setCell,Array.getElem?_modify,h],rfl,rfl,rfl,by simp [World.setCell],fun i _ hn=>Below.heap_setCell _ _ _ _ (by simpa using hn)⟩
 have HST:=Lib.hid hst
 have c0:w.cell? ⟨s,0,none⟩=some (.int .u64 z):=by simp [World.cell?,h]
 clear h hst
 go_enter Tryz.func207,Tryz.ntmps207
 obtain ⟨m1,hm1⟩:∃m,IntKind.u64.wrap (z*8192)=m:=⟨_,rfl⟩
 obtain ⟨y1,hy1⟩:∃y,bits .xor .u64 z m1=y:=⟨_,rfl⟩
 go_upto_region 1 with fail
 have x0:=fun t:Drift.Tide [] w []=>Drift.Tide.cell c0 (by simp) t
 refine Drift.wp_region_drift [] [(0,[]),(1,[]),(2,[]),(3,[]),(4,[]),(5,[]),(6,[]),(7,[])] [] [] (by kernel_rfl) (by kernel_rfl) (by simp) ?_
 simp only [Drift.pick,Drift.opsAt,List.getElem?_toArray,List.getElem?_cons_zero,List.getElem?_cons_succ,List.cons_append,List.nil_append,List.filterMap_nil]
 repeat (refine Drift.walk_step (fun K hK=>?_);go_simp;(refine hK _ ?_;clear hK K))
 refine Drift.walk_nil ?_
 intro v1 hb1 _
 clear x0 c0
 have h1:=(hb1.block s (Array.getElem?_eq_some_iff.1 H0.out).1).trans H0.out
 have c0:v1.cell? ⟨s,0,none⟩=some (.int .u64 z):=by simp [World.cell?,h1]
 have f0:v1.frozen? ⟨s,0,none⟩=false:=by simp [World.frozen?,h1]
 obtain ⟨g1,g2⟩:=HST.out v1 z y1 h1
 have H1:=Lib.hid g1
 have HI1:Hid (Flow.Into [s] w (v1.setCell ⟨s,0,none⟩ (.int .u64 y1))):=(Flow.Into.of_below hb1).trans g2
 clear g1 g2 h1 hb1 hm1
 simp only [List.length_cons,List.length_nil,List.drop_succ_cons,List.drop_zero,Nat.zero_add,Nat.reduceAdd]
 go_wp2_with fail
 (try rw [Flow.Nrm_normal])
 clear c0 f0 hy1
 generalize v1.setCell ⟨s,0,none⟩ (.int .u64 y1)=u1 at*
 have c0:u1.cell? ⟨s,0,none⟩=some (.int .u64 y1):=by simp [World.cell?,H1.out]
 obtain ⟨m2,hm2⟩:∃m,y1 / 128=m:=⟨_,rfl⟩
 obtain ⟨y2,hy2⟩:∃y,bits .xor .u64 y1 m2=y:=⟨_,rfl⟩
 go_upto_region 2 with fail
 have x0:=fun t:Drift.Tide [] u1 []=>Drift.Tide.cell c0 (by simp) t
 refine Drift.wp_region_drift [] [(0,[]),(1,[]),(2,[]),(3,[]),(4,[]),(5,[]),(6,[]),(7,[])] [] [] (by kernel_rfl) (by kernel_rfl) (by simp) ?_
 simp only [Drift.pick,Drift.opsAt,List.getElem?_toArray,List.getElem?_cons_zero,List.getElem?_cons_succ,List.cons_append,List.nil_append,List.filterMap_nil]
 repeat (refine Drift.walk_step (fun K hK=>?_);go_simp;(refine hK _ ?_;clear hK K))
 refine Drift.walk_nil ?_
 intro v2 hb2 _
 clear x0 c0
 have h1:=(hb2.block s (Array.getElem?_eq_some_iff.1 H1.out).1).trans H1.out
 have c0:v2.cell? ⟨s,0,none⟩=some (.int .u64 y1):=by simp [World.cell?,h1]
 have f0:v2.frozen? ⟨s,0,none⟩=false:=by simp [World.frozen?,h1]
 obtain ⟨g1,g2⟩:=HST.out v2 y1 y2 h1
 have H2:=Lib.hid g1
 have HI2:Hid (Flow.Into [s] w (v2.setCell ⟨s,0,none⟩ (.int .u64 y2))):=(HI1.out.trans (Flow.Into.of_below hb2)).trans g2
 clear g1 g2 h1 hb2 hm2
 simp only [List.length_cons,List.length_nil,List.drop_succ_cons,List.drop_zero,Nat.zero_add,Nat.reduceAdd]
 go_wp2_with fail
 (try rw [Flow.Nrm_normal])
 clear c0 f0 hy2
 generalize v2.setCell ⟨s,0,none⟩ (.int .u64 y2)=u2 at*
 have c0:u2.cell? ⟨s,0,none⟩=some (.int .u64 y2):=by simp [World.cell?,H2.out]
 obtain ⟨m3,hm3⟩:∃m,IntKind.u64.wrap (y2*131072)=m:=⟨_,rfl⟩
 obtain ⟨y3,hy3⟩:∃y,bits .xor .u64 y2 m3=y:=⟨_,rfl⟩
 go_upto_region 3 with fail
 have x0:=fun t:Drift.Tide [] u2 []=>Drift.Tide.cell c0 (by simp) t
 refine Drift.wp_region_drift [] [(0,[]),(1,[]),(2,[]),(3,[]),(4,[]),(5,[]),(6,[]),(7,[])] [] [] (by kernel_rfl) (by kernel_rfl) (by simp) ?_
 simp only [Drift.pick,Drift.opsAt,List.getElem?_toArray,List.getElem?_cons_zero,List.getElem?_cons_succ,List.cons_append,List.nil_append,List.filterMap_nil]
 repeat (refine Drift.walk_step (fun K hK=>?_);go_simp;(refine hK _ ?_;clear hK K))
 refine Drift.walk_nil ?_
 intro v3 hb3 _
 clear x0 c0
 have h1:=(hb3.block s (Array.getElem?_eq_some_iff.1 H2.out).1).trans H2.out
 have c0:v3.cell? ⟨s,0,none⟩=some (.int .u64 y2):=by simp [World.cell?,h1]
 have f0:v3.frozen? ⟨s,0,none⟩=false:=by simp [World.frozen?,h1]
 obtain ⟨g1,g2⟩:=HST.out v3 y2 y3 h1
 have H3:=Lib.hid g1
 have HI3:Hid (Flow.Into [s] w (v3.setCell ⟨s,0,none⟩ (.int .u64 y3))):=(HI2.out.trans (Flow.Into.of_below hb3)).trans g2
 clear g1 g2 h1 hb3 hm3
 simp only [List.length_cons,List.length_nil,List.drop_succ_cons,List.drop_zero,Nat.zero_add,Nat.reduceAdd]
 go_wp2_with fail
 (try rw [Flow.Nrm_normal])
 clear c0 f0 hy3
 generalize v3.setCell ⟨s,0,none⟩ (.int .u64 y3)=u3 at*
 have c0:u3.cell? ⟨s,0,none⟩=some (.int .u64 y3):=by simp [World.cell?,H3.out]
 go_wp2_with fail
 go_ret
 exact ⟨_,rfl,⟨_,H3.out⟩,HI3.out⟩
theorem break_any {w:World} {g c n a b:Nat} {l:List Nat} (h:Ow 25 w g c (l.map nV)) (hl:l.length=n) (hab:a+12<b) (hbn:b<=n) (hn:n<=80):Calls Tryz.prog 188 #[.slice (some ⟨g,0,none⟩) n c, .int .i64 (a:Int), .int .i64 (b:Int)] w fun e w'=>e= .returned (.tuple #[])/\∃L,US w w' g c n l L a b:=by
 obtain ⟨m0,hm⟩:∃m,m=b-a:=⟨_,rfl⟩
 obtain ⟨q,hq⟩:∃q,q=m0 / 4:=⟨_,rfl⟩
 obtain ⟨q2,hq2⟩:∃q2,q2=q*2:=⟨_,rfl⟩
 obtain ⟨p1,hp1⟩:∃p,p=a+q2:=⟨_,rfl⟩
 obtain ⟨p0,hp0⟩:∃p,p=p1-1:=⟨_,rfl⟩
 obtain ⟨e1,he1⟩:∃p,p=p1+1:=⟨_,rfl⟩
 obtain ⟨e2,he2⟩:∃p,p=p1+2:=⟨_,rfl⟩
 have hw1:IntKind.i64.wrap ((b:Int)-(a:Int))=(m0:Int):=by rw [IntKind.wrap_i64];omega
 have hw2:(m0:Int).tdiv 4=(q:Int):=by rw [Int.tdiv_eq_ediv_of_nonneg (by omega)];omega
 have hw3:IntKind.i64.wrap (q:Int)=(q:Int):=by rw [IntKind.wrap_i64];omega
 have hw4:IntKind.i64.wrap ((q:Int)*2)=(q2:Int):=by rw [IntKind.wrap_i64];omega
 have hw5:IntKind.i64.wrap ((a:Int)+(q2:Int))=(p1:Int):=by rw [IntKind.wrap_i64];omega
 have hw6:IntKind.i64.wrap ((p1:Int)-1)=(p0:Int):=by rw [IntKind.wrap_i64];omega
 have hw7:IntKind.i64.wrap ((p1:Int)+1)=(e1:Int):=by rw [IntKind.wrap_i64];omega
 have hw8:IntKind.u64.wrap (m0:Int)=(m0:Int):=by rw [IntKind.wrap_u64];omega
 have hm8:8<=m0:=by omega
 have HR:=Lib.hid (show a<=p0/\e1<b/\e2=e1+1/\m0=b-a/\p0<=e2 by omega)
 have cN:=fun w=>Lib.hid (nextPow_any m0 (by omega) (by omega) w)
 have hb0:Below w.heap.size w (w.alloc (.cells #[.int .u64 (m0:Int)] 231)):=(Below.refl _ _).alloc (Nat.le_refl _) _
 have HS:Hid (US w (w.alloc (.cells #[.int .u64 (m0:Int)] 231)) g c n l l a b):=(US.start h hl a b).kept hb0
 have HX:Hid (∃z:Int,(w.alloc (.cells #[.int .u64 (m0:Int)] 231)).heap[w.heap.size]? =some (.cells #[.int .u64 z] 231 (0,0))):=⟨_,heap_alloc_new w _⟩
 have HG:Hid (g<w.heap.size):=h.lt
 have hm0n:m0<=80:=by omega
 clear h hl hm hq hq2 hp1 hp0 he1 he2 hb0 hab
 go_enter Tryz.func188,Tryz.ntmps188
 go_upto_region 3 with fail
 generalize w.alloc (.cells #[.int .u64 (m0:Int)] 231)=w1 at*
 obtain ⟨s,hs⟩:∃s,s=w.heap.size:=⟨_,rfl⟩
 rw [<-hs] at HX HG
 simp only [<-hs]
 have HSW:=Lib.hid hs
 clear hs hw8
 go_upto_region 4 with (go_at_call 206;refine (cN _).out.mono ?_;rintro e w' ⟨M,rfl,rfl,hM1,hM2⟩)
 obtain ⟨M1,hM3⟩:∃M1,M=M1+1:=⟨M-1,by omega⟩
 have hwM:IntKind.u64.wrap ((M:Int)-1)=(M1:Int):=by rw [IntKind.wrap_u64];omega
 have HM:=Lib.hid (show M1<2*m0 by omega)
 clear hM1 hM2 hM3 cN
 go_upto_block 0 with fail
 clear hw6
 go_wp2_with fail
 go_loopg [9] (e2-p0) (fun gk iv wr=>∃(i:Nat) (L:List Nat),gk=e2-i/\iv= .int .i64 (i:Int)/\p0<=i/\i<=e2/\Hid (US w wr g c n l L a b)/\Hid (∃z:Int,wr.heap[s]? =some (.cells #[.int .u64 z] 231 (0,0))))
 case atStart=>exact ⟨p0,l,rfl,rfl,Nat.le_refl _,HR.out.2.2.2.2,HS,HX⟩
 case round=>
  obtain ⟨i,L,rfl,rfl,hi1,hi2,HS0,HX0⟩:=hrel
  clear HS HX
  by_cases hie:i<=e1
  . have hr:=HR.out
    have hin:i<n:=by omega
    have hia:a<=i:=by omega
    have hib:i<b:=by omega
    obtain ⟨z,hz⟩:=HX0.out
    have cX:=Lib.hid (Next_any hz)
    have hwi:IntKind.i64.wrap ((i:Int)+1)=((i+1:Nat):Int):=by rw [IntKind.wrap_i64];omega
    clear hz hr
    have hM1b:M1<160:=by have:=HM.out;omega
    go_upto_region 8 with (go_at_call 207;refine cX.out.mono ?_;rintro e w2 ⟨y,rfl,hy,hin2⟩;obtain ⟨m,hm1,hm2⟩:=and_le y M1 (by omega);have hwm:IntKind.i64.wrap (m:Int)=(m:Int):=by (rw [IntKind.wrap_i64];omega))
    have HS2:Hid (US w w2 g c n l L a b):=⟨HS0.out.ow.into hin2 (by have:=HG.out;simp only [List.mem_singleton];omega),HS0.out.mv,⟨hin2.os.trans HS0.out.hi.os,hin2.tape.trans HS0.out.hi.tape,hin2.output.trans HS0.out.hi.output,Nat.le_trans HS0.out.hi.size hin2.size,fun k hk hn=>(hin2.block k (Nat.lt_of_lt_of_le hk HS0.out.hi.size) (by rw [<-HSW.out] at hk;simp only [List.mem_singleton];omega)).trans (HS0.out.hi.block k hk hn)⟩,HS0.out.le⟩
    have HX2:=Lib.hid hy
    have HMB:=Lib.hid (show m<2*m0 by have:=HM.out;omega)
    clear hy hin2 cX HS0 HX0 hm1
    clear hw2 hw3 hw4 hw5 hw7
    go_upto_if 43 with fail
    go_cut [10] (fun ov wx=>∃m:Nat,ov= .int .i64 (m:Int)/\Hid (m<m0)/\Hid (US w wx g c n l L a b)/\Hid (∃z:Int,wx.heap[s]? =some (.cells #[.int .u64 z] 231 (0,0))))
    case first=>
     by_cases hmm:m0<=m
     . obtain ⟨m2,hm2'⟩:∃m2,m2=m-m0:=⟨_,rfl⟩
       have hws:IntKind.i64.wrap ((m:Int)-(m0:Int))=(m2:Int):=by rw [IntKind.wrap_i64];omega
       have HL:Hid (m2<m0):=by have:=HMB.out;unfold Hid;omega
       clear hm2'
       go_wp2_with fail
       go_meet
       exact ⟨m2,rfl,HL,HS2,HX2⟩
     . have HL:Hid (m<m0):=by unfold Hid;omega
       have hmm':m<m0:=by omega
       go_wp2_with fail
       go_meet
       exact ⟨m,rfl,HL,HS2,HX2⟩
    case rest=>
    obtain ⟨m',rfl,HL,HS,HXS0⟩:=hcut
    clear HS2 HX2 HMB hwm hm2 hM1b
    obtain ⟨m,rfl⟩:∃m,m=m':=⟨_,rfl⟩
    have hr:=HR.out
    have hlt:=HL.out
    obtain ⟨fm,hfm⟩:∃fm,fm=a+m:=⟨_,rfl⟩
    have hwf:IntKind.i64.wrap ((a:Int)+(m:Int))=(fm:Int):=by rw [IntKind.wrap_i64];omega
    have hfn:fm<n:=by omega
    have hf1:a<=fm:=by omega
    have hf2:fm<b:=by omega
    have hi3:i+1<=e2:=by omega
    have HXS:Hid (∀(v6:World) (x y:Value),Below wc.heap.size wc v6->True=True->∃z:Int,((v6.setCell ⟨g,i,none⟩ x).setCell ⟨g,fm,none⟩ y).heap[s]? =some (.cells #[.int .u64 z] 231 (0,0))):=fun v6 x y hb _=>by
     obtain ⟨z,hz⟩:=HXS0.out
     have hgs:s≠g:=by have:=HG.out;omega
     exact ⟨z,(Below.heap_setCell _ _ _ _ hgs).trans ((Below.heap_setCell _ _ _ _ hgs).trans ((hb.block s (Array.getElem?_eq_some_iff.1 hz).1).trans hz))⟩
    clear hr hlt hfm HXS0
    by_cases hif:i=fm
    . subst hif
      go_upto_region 10 with fail
      have x0:=fun t:Drift.Tide [] wc []=>Drift.Tide.cell (HS.out.cell hin) (by simp) t
      have x1:=fun t:Drift.Tide [] wc []=>Drift.Tide.cell (HS.out.cell hin) (by simp) t
      refine Drift.wp_region_drift_late [] [(0,[]),(1,[]),(2,[]),(3,[]),(4,[]),(5,[]),(6,[]),(7,[]),(8,[]),(9,[]),(10,[]),(11,[]),(12,[]),(13,[]),(14,[]),(15,[]),(16,[])] [] [] [2,3,4,5] (by kernel_rfl) (by kernel_rfl) (by simp) ?_
      simp only [Drift.pick,Drift.opsAt,List.getElem?_toArray,List.getElem?_cons_zero,List.getElem?_cons_succ,List.cons_append,List.nil_append,List.filterMap_nil]
      repeat (refine Drift.walk_step (fun K hK=>?_);go_simp;(refine hK _ ?_;clear hK K))
      refine Drift.walk_clear rfl (.slice (some ⟨g,0,none⟩) n c) (fun W=>by go_simp) ?_
      refine Drift.walk_clear rfl (.int .i64 (a:Int)) (fun W=>by go_simp) ?_
      refine Drift.walk_clear rfl (.int .i64 (m:Int)) (fun W=>by go_simp) ?_
      refine Drift.walk_clear rfl (.int .i64 (i:Int)) (fun W=>by go_simp) ?_
      repeat (refine Drift.walk_step (fun K hK=>?_);go_simp;(refine hK _ ?_;clear hK K))
      refine Drift.walk_nil ?_
      intro w6 hb6 _
      clear x0 x1
      have h6:=HS.out.kept hb6
      have f:=h6.free
      have e1:=h6.cell hin
      have e2:=h6.cell hin
      have H7:=Lib.hid (h6.swap hbn hia hib hia hib)
      have HX7:=Lib.hid (HXS.out w6 (.int .u32 ((gt L i:Nat):Int)) (.int .u32 ((gt L i:Nat):Int)) hb6 rfl)
      clear h6 hb6 HS
      simp only [List.length_cons,List.length_nil,List.drop_succ_cons,List.drop_zero,Nat.zero_add,Nat.reduceAdd]
      go_wp2_with fail
      (try rw [Flow.Nrm_normal])
      clear e1 e2 f
      generalize (w6.setCell ⟨g,i,none⟩ (.int .u32 ((gt L i:Nat):Int))).setCell ⟨g,i,none⟩ (.int .u32 ((gt L i:Nat):Int))=w7 at*
      (try go_wp2_with fail)
      go_roundg (e2-(i+1))
      case measure=>omega
      case rel=>exact ⟨i+1,_,rfl,by go_num,by omega,by omega,H7,HX7⟩
    . have hne:i≠fm:=hif
      have hne':fm≠i:=fun e=>hif e.symm
      go_upto_region 10 with fail
      have x0:=fun t:Drift.Tide [] wc []=>Drift.Tide.cell (HS.out.cell hin) (by simp) t
      have x1:=fun t:Drift.Tide [] wc []=>Drift.Tide.cell (HS.out.cell hfn) (by simp) t
      refine Drift.wp_region_drift_late [] [(0,[]),(1,[]),(2,[]),(3,[]),(4,[]),(5,[]),(6,[]),(7,[]),(8,[]),(9,[]),(10,[]),(11,[]),(12,[]),(13,[]),(14,[]),(15,[]),(16,[])] [] [] [2,3,4,5] (by kernel_rfl) (by kernel_rfl) (by simp) ?_
      simp only [Drift.pick,Drift.opsAt,List.getElem?_toArray,List.getElem?_cons_zero,List.getElem?_cons_succ,List.cons_append,List.nil_append,List.filterMap_nil]
      repeat (refine Drift.walk_step (fun K hK=>?_);go_simp;(refine hK _ ?_;clear hK K))
      refine Drift.walk_clear rfl (.slice (some ⟨g,0,none⟩) n c) (fun W=>by go_simp) ?_
      refine Drift.walk_clear rfl (.int .i64 (a:Int)) (fun W=>by go_simp) ?_
      refine Drift.walk_clear rfl (.int .i64 (m:Int)) (fun W=>by go_simp) ?_
      refine Drift.walk_clear rfl (.int .i64 (fm:Int)) (fun W=>by go_simp) ?_
      repeat (refine Drift.walk_step (fun K hK=>?_);go_simp;(refine hK _ ?_;clear hK K))
      refine Drift.walk_nil ?_
      intro w6 hb6 _
      clear x0 x1
      have h6:=HS.out.kept hb6
      have f:=h6.free
      have e1:=h6.cell hin
      have e2:=h6.cell hfn
      have H7:=Lib.hid (h6.swap hbn hia hib hf1 hf2)
      have HX7:=Lib.hid (HXS.out w6 (.int .u32 ((gt L fm:Nat):Int)) (.int .u32 ((gt L i:Nat):Int)) hb6 rfl)
      clear h6 hb6 HS
      simp only [List.length_cons,List.length_nil,List.drop_succ_cons,List.drop_zero,Nat.zero_add,Nat.reduceAdd]
      go_wp2_with fail
      (try rw [Flow.Nrm_normal])
      clear e1 e2 f
      generalize (w6.setCell ⟨g,i,none⟩ (.int .u32 ((gt L fm:Nat):Int))).setCell ⟨g,fm,none⟩ (.int .u32 ((gt L i:Nat):Int))=w7 at*
      (try go_wp2_with fail)
      go_roundg (e2-(i+1))
      case measure=>omega
      case rel=>exact ⟨i+1,_,rfl,by go_num,by omega,by omega,H7,HX7⟩
  . have hie':¬(i<=e1):=hie
    have hie2:e1<i:=by omega
    go_wp2_with fail
    go_end0
    exact ⟨rfl,L,HS0.out⟩
end Pq
end Go.Proofs.YtjpjjnalpdpljaaGreatDoor
namespace Go.Proofs.YtjpjjnalpdpljaaGreatDoor
open Go.RowKit
namespace Cn
open Mem
theorem made_two (n:Nat):(madeCells #[.int .i64 0, .int .i64 0] n).toList=List.replicate n (.int .i64 0):=by
 apply List.ext_getElem
 . simp [madeCells]
 . intro i h1 h2
   have:i % 2=0\/i % 2=1:=by omega
   rcases this with e|e<;>simp [madeCells,e]
theorem run_make_links (n:Nat) (hn:n<=4097) (w:World):
 (Instr.makeSlice 189 (.int .i64 (n:Int)) (.int .i64 (n:Int))).run Tryz.prog w= .ok (.slice (some ⟨w.heap.size,0,none⟩) n n) (w.alloc (.cells (List.replicate (n*2) (.int .i64 0)).toArray 191)):=by
 obtain ⟨i,hi,hz,hs,hb⟩:=info_parts linkinfo
 have hr:=run_make (P:=Tryz.prog) w _ _ i _ Tryz.underlying189 hi hz .i64 .i64 n n (by omega) (by omega) (by rw [hb];omega) (by omega)
 rw [hr,hs]
 simp only [Int.toNat_natCast]
 rw [show (Value.agg #[.int .i64 0, .int .i64 0]).cells= #[.int .i64 0, .int .i64 0] from rfl,<-made_two]
def first (k j:Nat):Nat:=if j<k then j else 0
theorem first_step (k:Nat):upd (first k) k k=first (k+1):=by
 funext j
 unfold upd first
 by_cases h:j=k
 . subst h;simp
 . rw [if_neg h]
   by_cases h2:j<k
   . rw [if_pos h2,if_pos (by omega)]
   . rw [if_neg h2,if_neg (by omega)]
theorem lkw_made (n:Nat) (hn:n<=4097) (w:World):LkW (w.alloc (.cells (List.replicate (n*2) (.int .i64 0)).toArray 191)) w.heap.size n n (first 0) (first 0):=by
 refine ⟨List.replicate (n*2) (.int .i64 0),?_,fun i hi=>?_⟩
 . have:=World.ownsRow_lit (base:=0) (e:=191) (size:=2) w (List.replicate (n*2) (.int .i64 0)).toArray n (Nat.zero_le _) (by unfold maxLen;omega) (by simp)
   exact this
 . simp only [List.getElem?_replicate]
   rw [if_pos (by omega),if_pos (by omega)]
   simp [first]
theorem ring_new (n:Nat):Ring n (first (n+1)) (first (n+1)) []:=
 ⟨fun x hx=>(by cases hx),List.nodup_nil,⟨by simp [first],by simp [first]⟩,fun x hx _=>by unfold first;rw [if_pos (by omega)]⟩
theorem New_in (n:Nat) (w:World) (h0:1<=n) (h1:n<=4096):Calls Tryz.prog 107 #[.int .i64 (n:Int)] w fun e w'=>(∃g b,e= .returned (.tuple #[.pointer (some ⟨g,0,none⟩), .int .i64 0])/\Chn w' g b n []/\w.heap.size<=g/\w.heap.size<=b)/\Below w.heap.size w w':=by
 have hmk:=fun w=>run_make_links (n+1) (by omega) w
 have hmd:=fun w=>Lib.hid (lkw_made (n+1) (by omega) w)
 obtain ⟨m,hm⟩:∃m,m=n+1:=⟨_,rfl⟩
 rw [<-hm] at hmk hmd
 have hm1:(n:Int)+1=(m:Int):=by omega
 have HMM:=Lib.hid hm
 have hm9:m<=4097:=by omega
 clear hm
 go_enter Tryz.func107,Tryz.ntmps107
 go_wp2
 have hB1:Below w.heap.size w (w.alloc (Obj.cells (Array.replicate (m*2) (Value.int IntKind.i64 0)) 191)):=(Below.refl _ _).alloc (Nat.le_refl _) _
 have hL1:LkW (w.alloc (Obj.cells (Array.replicate (m*2) (Value.int IntKind.i64 0)) 191)) w.heap.size m m (first 0) (first 0):=by
  have:=(hmd w).out
  simpa using this
 obtain ⟨wq,hwq⟩:∃wq,wq=w.alloc (Obj.cells (Array.replicate (m*2) (Value.int IntKind.i64 0)) 191):=⟨_,rfl⟩
 rw [<-hwq] at hB1 hL1 ⊢
 have HB1:=Lib.hid hB1
 have HL1:=Lib.hid hL1
 clear hwq hB1 hL1 hmd hmk
 obtain ⟨t,ht⟩:∃t,t=w.heap.size:=⟨_,rfl⟩
 have HT:=Lib.hid ht
 rw [<-ht] at HL1 ⊢
 clear ht
 go_loopw [17] (fun i wr=>∃k:Nat,k<=m/\i= .int .i64 (k:Int)/\Hid (LkW wr t m m (first k) (first k))/\Hid (Below w.heap.size w wr)) (fun i _=>m-(intOf i).toNat)
 case atStart=>exact ⟨0,Nat.zero_le _,rfl,HL1,HB1⟩
 case round=>
  obtain ⟨k,hk,rfl,HL,HB⟩:=hrel
  by_cases hlt:k<m
  . have d1:=HL.out.cellA hlt
    have d2:=HL.out.cellB hlt
    have f1:=HL.out.free
    generalize (first k k:Int)=z at d1 d2
    have n1:k*2+1≠k*2:=by omega
    have n2:k*2≠k*2+1:=by omega
    have HS:Hid (LkW ((wr.setCell ⟨t,k*2,none⟩ (.int .i64 (k:Int))).setCell ⟨t,k*2+1,none⟩ (.int .i64 (k:Int))) t m m (first (k+1)) (first (k+1))):=by
     have:=(HL.out.setA hlt k).setB hlt k
     rwa [first_step] at this
    have HBS:Hid (Below w.heap.size w ((wr.setCell ⟨t,k*2,none⟩ (.int .i64 (k:Int))).setCell ⟨t,k*2+1,none⟩ (.int .i64 (k:Int)))):=
     (HB.out.setCell (p:=⟨t,k*2,none⟩) (Nat.le_of_eq HT.out.symm) _).setCell (p:=⟨t,k*2+1,none⟩) (Nat.le_of_eq HT.out.symm) _
    go_wp2
    exact ⟨⟨k+1,hlt,by go_num,HS,HBS⟩,by simp [intOf];omega⟩
  . obtain rfl:k=m:=by omega
    clear hlt
    go_wp2
    have hs:=HB.out.size
    have hk1:Below wr.heap.size wr (wr.alloc (.cells #[.slice (some ⟨t,0,none⟩) k k, .int .i64 0] 193)):=(Below.refl _ _).alloc (Nat.le_refl _) _
    refine bodyPost_ret (v:= .tuple #[.pointer (some ⟨wr.heap.size,0,none⟩), .int .i64 0]) (by simp [results,Tryz.results107,go_sem]) rfl ⟨⟨wr.heap.size,t,rfl,⟨k,first (n+1),first (n+1),⟨?_,?_,h0,h1⟩,ring_new n⟩,hs,Nat.le_of_eq HT.out.symm⟩,HB.out.alloc hs _⟩
    . rw [heap_alloc_new,HMM.out];rfl
    . have:=HL.out.keep (hk1.block t HL.out.lt)
      have e:=HMM.out
      subst e
      exact this
end Cn
end Go.Proofs.YtjpjjnalpdpljaaGreatDoor
