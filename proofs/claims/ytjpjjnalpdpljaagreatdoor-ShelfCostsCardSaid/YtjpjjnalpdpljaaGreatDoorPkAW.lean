import Derived.Test.YtjpjjnalpdpljaaGreatDoorPkAV
import Derived.Deep.CutBlock
import Derived.Deep.DeepCutAuto
import Derived.Test.YtjpjjnalpdpljaaGreatDoorPkAC
import Derived.Test.YtjpjjnalpdpljaaGreatDoorPkAT
import Derived.Test.YtjpjjnalpdpljaaGreatDoorPkAK
import Derived.Test.YtjpjjnalpdpljaaGreatDoorPkAH
import Derived.Lib.LaidTab
import Derived.LaidMore
set_option maxHeartbeats 1000000
namespace Go.Proofs.YtjpjjnalpdpljaaGreatDoor
open Go.RowKit
namespace Po
open Mem Bt
structure Pw (W w:World) (q g b:Nat) (tb:List Bool):Prop where
 hd:w.heap[q]? =some (.cells #[.pointer (some ⟨g,0,none⟩)] 159 (0,0))
 rw:Rw W w g b tb
 hq:W.heap.size<=q
section
variable {W w w':World} {q g b:Nat} {tb tb':List Bool}
theorem Pw.lt (h:Pw W w q g b tb):q<w.heap.size:=(Array.getElem?_eq_some_iff.1 h.hd).1
theorem Pw.ne (h:Pw W w q g b tb):q≠g/\q≠b:=by
 obtain ⟨c,ws,hw⟩:=h.rw.row
 have hd:=h.hd
 refine ⟨?_,?_⟩
 . rintro rfl
   rw [hw.hd] at hd;simp at hd
 . rintro rfl
   obtain ⟨_,h2⟩:=hw.ow
   rcases h2 with ⟨h2,_⟩|⟨g2,c2,cur2,e2,_,hh2,_⟩
   . cases h2
   . obtain ⟨rfl,rfl⟩:q=g2/\c=c2:=by simpa using e2
     rw [hh2] at hd
     simp at hd
theorem Pw.cell (h:Pw W w q g b tb):w.cell? ⟨q,0,none⟩=some (.pointer (some ⟨g,0,none⟩)):=by
 have:=h.hd
 simp [World.cell?,this]
theorem Pw.size (h:Pw W w q g b tb):W.heap.size<=w.heap.size:=h.rw.bel.size
theorem Pw.kept (h:Pw W w q g b tb) (hT:Tab W) (hb:Below w.heap.size w w'):Pw W w' q g b tb:=⟨(hb.block q h.lt).trans h.hd,h.rw.kept hT hb,h.hq⟩
theorem Pw.into (h:Pw W w q g b tb) (hT:Tab W) (hi:Flow.Into [b] w w') (hr:RowAt w' g b tb'):Pw W w' q g b tb':=
 ⟨(hi.block q h.lt (by simpa using h.ne.2)).trans h.hd,h.rw.into hT hi hr,h.hq⟩
theorem Pw.len (h:Pw W w q g b tb):1<=tb.length/\tb.length<=65536:=h.rw.row.lt.2.2.2
end
theorem row_at (q:Nat) (v:Value) (w:World) (h:w.cell? ⟨q,0,none⟩=some v):Calls Tryz.prog 89 #[.pointer (some ⟨q,0,none⟩)] w fun e w'=>e= .returned v/\w=w':=by
 go_enter Tryz.func89,Tryz.ntmps89
 go_wp2
 go_ret
 exact ⟨rfl,rfl⟩
theorem row_any {W w:World} {q g b:Nat} {tb:List Bool} (h:Pw W w q g b tb):Calls Tryz.prog 89 #[.pointer (some ⟨q,0,none⟩)] w fun e w'=>e= .returned (.pointer (some ⟨g,0,none⟩))/\w=w':=row_at q _ w h.cell
theorem Held_any {W w:World} {q g b:Nat} {tb:List Bool} (h:Pw W w q g b tb):Calls Tryz.prog 91 #[.pointer (some ⟨q,0,none⟩)] w fun e w'=>e= .returned (.int .i64 (cnt tb:Int))/\w=w':=by
 have cR:=Lib.hid (row_any h)
 have cC:=Lib.hid (Count_any g b tb w h.rw.row)
 clear h
 go_enter Tryz.func91,Tryz.ntmps91
 go_wp2_with (first
  |(go_at_call 89;refine cR.out.mono ?_;rintro e w' ⟨rfl,rfl⟩)
  |(go_at_call 128;refine cC.out.mono ?_;rintro e w' ⟨rfl,rfl⟩))
 go_ret
 exact ⟨rfl,rfl⟩
theorem Free_any {W w:World} {q g b:Nat} {tb:List Bool} (h:Pw W w q g b tb):Calls Tryz.prog 56 #[.pointer (some ⟨q,0,none⟩)] w fun e w'=>e= .returned (.int .i64 (free tb:Int))/\w=w':=by
 have cR:=Lib.hid (row_any h)
 have cL:=Lib.hid (Len_any g b tb w h.rw.row)
 have cH:=Lib.hid (Held_any h)
 have hl:=h.len
 have hc:=cnt_le tb
 have hf:IntKind.i64.wrap ((tb.length:Int)-(cnt tb:Int))=(free tb:Int):=by unfold free;rw [IntKind.wrap_i64];omega
 generalize tb.length=n at*
 generalize cnt tb=c at*
 generalize free tb=f at*
 clear h hl hc
 go_enter Tryz.func56,Tryz.ntmps56
 go_wp2_with (first
  |(go_at_call 89;refine cR.out.mono ?_;rintro e w' ⟨rfl,rfl⟩)
  |(go_at_call 90;refine cL.out.mono ?_;rintro e w' ⟨rfl,rfl⟩)
  |(go_at_call 91;refine cH.out.mono ?_;rintro e w' ⟨rfl,rfl⟩))
 go_ret
 exact ⟨rfl,rfl⟩
theorem Has_any {W w:World} {q g b:Nat} {tb:List Bool} (h:Pw W w q g b tb) (hT:Tab W) (i:Nat) (hi:i<4294967296):Calls Tryz.prog 58 #[.pointer (some ⟨q,0,none⟩), .int .u32 (i:Int)] w fun e w'=>e= .returned (.bool (tb.getD i false))/\Pw W w' q g b tb/\Below w.heap.size w w':=by
 have cR:=Lib.hid (row_any h)
 have cH:Hid (Calls Tryz.prog 93 #[.pointer (some ⟨g,0,none⟩), .int .i64 (i:Int)] w fun e w'=>e= .returned (.bool (tb.getD i false))/\Pw W w' q g b tb/\Below w.heap.size w w'):=
  (Bt.Has_any g b i tb w h.rw.row).mono fun _ _ ⟨he,hb⟩=>⟨by rw [he,has_nat],h.kept hT hb,hb⟩
 generalize tb.getD i false=v at*
 have hw:IntKind.i64.wrap (i:Int)=(i:Int):=by rw [IntKind.wrap_i64];omega
 clear h
 go_enter Tryz.func58,Tryz.ntmps58
 go_wp2_with (first
  |(go_at_call 89;refine cR.out.mono ?_;rintro e w' ⟨rfl,rfl⟩)
  |(go_at_call 93;refine cH.out.mono ?_;rintro e w1 ⟨rfl,hp,hb⟩;have HP:=Lib.hid hp;have HB:=Lib.hid hb;clear hp hb))
 go_ret
 exact ⟨rfl,HP.out,HB.out⟩
theorem Mark_any {W w:World} {q g b:Nat} {tb:List Bool} (h:Pw W w q g b tb) (hT:Tab W) (i:Nat) (hi:i<4294967296):Calls Tryz.prog 76 #[.pointer (some ⟨q,0,none⟩), .int .u32 (i:Int)] w fun e w'=>e= .returned (.int .i64 (setE tb i))/\Pw W w' q g b (setT tb i)/\Flow.Into [b] w w':=by
 have cR:=Lib.hid (row_any h)
 have cS:Hid (Calls Tryz.prog 110 #[.pointer (some ⟨g,0,none⟩), .int .i64 (i:Int)] w fun e w'=>e= .returned (.int .i64 (setE tb i))/\Pw W w' q g b (setT tb i)/\Flow.Into [b] w w'):=
  (Bt.Set_any g b i tb w h.rw.row).mono fun _ _ ⟨he,hr,hi⟩=>⟨he,h.into hT hi hr,hi⟩
 generalize setE tb i=v at*
 generalize setT tb i=t at*
 have hw:IntKind.i64.wrap (i:Int)=(i:Int):=by rw [IntKind.wrap_i64];omega
 clear h
 go_enter Tryz.func76,Tryz.ntmps76
 go_wp2_with (first
  |(go_at_call 89;refine cR.out.mono ?_;rintro e w' ⟨rfl,rfl⟩)
  |(go_at_call 110;refine cS.out.mono ?_;rintro e w1 ⟨rfl,hp,hb⟩;have HP:=Lib.hid hp;have HB:=Lib.hid hb;clear hp hb))
 go_ret
 exact ⟨rfl,HP.out,HB.out⟩
theorem Give_any {W w:World} {q g b:Nat} {tb:List Bool} (h:Pw W w q g b tb) (hT:Tab W) (i:Nat) (hi:i<4294967296):Calls Tryz.prog 74 #[.pointer (some ⟨q,0,none⟩), .int .u32 (i:Int)] w fun e w'=>e= .returned (.int .i64 (gvE tb i))/\Pw W w' q g b (gvT tb i)/\Flow.Into [b] w w':=by
 have cR:=Lib.hid (row_any h)
 by_cases h0:i=0
 . subst h0
   have HP:=Lib.hid h
   clear h
   go_enter Tryz.func74,Tryz.ntmps74
   go_wp2_with (go_at_call 89;refine cR.out.mono ?_;rintro e w' ⟨rfl,rfl⟩)
   go_ret
   exact ⟨rfl,HP.out,Flow.Into.refl _ _⟩
 . have cS:Hid (Calls Tryz.prog 115 #[.pointer (some ⟨g,0,none⟩), .int .i64 (i:Int)] w fun e w'=>e= .returned (.int .i64 (gvE tb i))/\Pw W w' q g b (gvT tb i)/\Flow.Into [b] w w'):=by
    unfold gvE gvT
    rw [if_neg h0,if_neg h0]
    exact (Bt.Clear_any g b i tb w h.rw.row).mono fun _ _ ⟨he,hr,hi⟩=>⟨he,h.into hT hi hr,hi⟩
   generalize gvE tb i=v at*
   generalize gvT tb i=t at*
   have hw:IntKind.i64.wrap (i:Int)=(i:Int):=by rw [IntKind.wrap_i64];omega
   have hz:((i:Int)==0)=false:=by simpa using h0
   clear h
   go_enter Tryz.func74,Tryz.ntmps74
   go_wp2_with (first
    |(go_at_call 89;refine cR.out.mono ?_;rintro e w' ⟨rfl,rfl⟩)
    |(go_at_call 115;refine cS.out.mono ?_;rintro e w1 ⟨rfl,hp,hb⟩;have HP:=Lib.hid hp;have HB:=Lib.hid hb;clear hp hb))
   go_ret
   exact ⟨rfl,HP.out,HB.out⟩
def tbN (n:Nat):List Bool:=(List.replicate n false).set 0 true
theorem tbN_len (n:Nat):(tbN n).length=n:=by simp [tbN]
theorem New_in (W w:World) (hT:Tab W) (hb:Below W.heap.size W w) (n:Nat) (h0:5<=n) (h1:n<=65536):Calls Tryz.prog 66 #[.int .i64 (n:Int)] w fun e w'=>∃q g b,e= .returned (.tuple #[.pointer (some ⟨q,0,none⟩), .int .i64 0])/\Pw W w' q g b (tbN n):=by
 have cN:=Lib.hid (New_rw W w hT hb n (by omega) h1)
 have HT:=Lib.hid hT
 have cS:∀w1 g b,Rw W w1 g b (List.replicate n false)->Hid (Calls Tryz.prog 110 #[.pointer (some ⟨g,0,none⟩), .int .i64 0] w1 fun e w'=>e= .returned (.int .i64 0)/\Rw W w' g b (tbN n)/\Flow.Into [b] w1 w'):=fun w1 g b hr=>by
  have e1:setE (List.replicate n false) 0=0:=by
   unfold setE
   rw [show (0:Int)=((0:Nat):Int) from rfl,in_lt (by simp;omega),has_nat]
   simp [List.getD,show 0<n by omega]
  have e2:setT (List.replicate n false) 0=tbN n:=by
   unfold setT
   rw [show (0:Int)=((0:Nat):Int) from rfl,in_lt (by simp;omega)];rfl
  have:=hr.Set hT 0
  rw [e1,e2] at this
  exact this
 generalize List.replicate n false=t0 at*
 generalize tbN n=t1 at*
 clear hT hb
 go_enter Tryz.func66,Tryz.ntmps66
 go_upto_region 6 with (first
  |(go_at_call 109;refine cN.out.mono ?_;rintro e w1 ⟨g,b,rfl,hr,-⟩;have HR1:=Lib.hid hr;clear hr))
 have hb2:Below w1.heap.size w1 (w1.alloc (.cells #[.pointer (some ⟨g,0,none⟩)] 159)):=(Below.refl _ _).alloc (Nat.le_refl _) _
 have HR2:=Lib.hid (HR1.out.kept HT.out hb2)
 have HQ:Hid ((w1.alloc (.cells #[.pointer (some ⟨g,0,none⟩)] 159)).heap[w1.heap.size]? =some (.cells #[.pointer (some ⟨g,0,none⟩)] 159 (0,0))):=by unfold Hid;rw [heap_alloc_new]
 have HL:Hid (w1.heap.size<(w1.alloc (.cells #[.pointer (some ⟨g,0,none⟩)] 159)).heap.size/\b<w1.heap.size):=by unfold Hid;exact ⟨by simp,HR1.out.row.lt.2.1⟩
 clear hb2
 go_wp2_with (go_at_call 110;refine (cS _ g b HR2.out).out.mono ?_;rintro e w3 ⟨rfl,hr,hi⟩;have HR3:=Lib.hid hr;have HI:=Lib.hid hi;clear hr hi)
 refine bodyPost_ret (v:= .tuple #[.pointer (some ⟨w1.heap.size,0,none⟩), .int .i64 0]) (by simp [results,Tryz.results66,go_sem]) rfl ⟨w1.heap.size,g,b,rfl,⟨?_,HR3.out,HR1.out.bel.size⟩⟩
 rw [HI.out.block w1.heap.size HL.out.1 (by have:=HL.out.2;simp;omega)]
 exact HQ.out
end Po
end Go.Proofs.YtjpjjnalpdpljaaGreatDoor
namespace Go.Proofs.YtjpjjnalpdpljaaGreatDoor
open Go.RowKit
namespace Po
open Mem Bt
section
variable {W w w':World} {q g b a:Nat} {tb:List Bool}
theorem Pw.far (h:Pw W w q g b tb) (hT:Tab W) (hi:Flow.Into [a] w w') (ha:q≠a/\g≠a/\b≠a) (hW:W.heap.size<=a):Pw W w' q g b tb:=by
 have h1:=below_into h.rw.bel hi (by simpa using hW) h.rw.bel.size
 exact ⟨(hi.block q h.lt (by simpa using ha.1)).trans h.hd,⟨h.rw.row.into hi (by simpa using ha.2.1) (by simpa using ha.2.2),hT.below h1,h1,h.rw.hg,h.rw.hb⟩,h.hq⟩
theorem Pw.lts (h:Pw W w q g b tb):q<w.heap.size/\g<w.heap.size/\b<w.heap.size/\W.heap.size<=b:=⟨h.lt,h.rw.row.lt.1,h.rw.row.lt.2.1,h.rw.hb⟩
end
theorem Grab_full {W w:World} {q g b:Nat} {tb:List Bool} (h:Pw W w q g b tb) (k:Int) (hk:0<=k) (hf:(free tb:Int)<k):Calls Tryz.prog 112 #[.pointer (some ⟨q,0,none⟩), .int .i64 k] w fun e w'=>e= .returned (.tuple #[.slice none 0 0, .int .i64 11])/\w=w':=by
 have cR:=Lib.hid (row_any h)
 have cF:=Lib.hid (Free_any h)
 generalize free tb=f at*
 clear h
 go_enter Tryz.func112,Tryz.ntmps112
 go_wp2_with (first
  |(go_at_call 89;refine cR.out.mono ?_;rintro e w' ⟨rfl,rfl⟩)
  |(go_at_call 56;refine cF.out.mono ?_;rintro e w' ⟨rfl,rfl⟩))
 exact bodyPost_ret (v:= .tuple #[.slice none 0 0, .int .i64 11]) (by simp [results,Tryz.results112,go_sem]) rfl ⟨rfl,rfl⟩
def part (l:List Nat) (d:Nat):List Value:=l.map u32V++List.replicate d (.int .u32 0)
theorem part_len (l:List Nat) (d:Nat):(part l d).length=l.length+d:=by simp [part]
theorem part_at (l:List Nat) (d j:Nat) (h:j<(part l d).length) (hj:l.length<=j):(part l d)[j]= .int .u32 0:=by
 have e:(part l d)[j]? =some (.int .u32 0):=by
  have h':=h
  rw [part_len] at h'
  unfold part
  rw [List.getElem?_append_right (by simpa using hj)]
  simp only [List.getElem?_replicate,List.length_map]
  rw [if_pos (by omega)]
 rw [List.getElem?_eq_getElem h] at e
 exact Option.some.inj e
theorem part_set (l:List Nat) (d r:Nat):(part l (d+1)).set l.length (.int .u32 (r:Int))=part (l++[r]) d:=by
 unfold part
 rw [List.set_append_right _ _ (by simp),List.map_append]
 simp [List.replicate_succ,u32V]
structure Rnd (W w1 wr:World) (q g b c k:Nat) (tb:List Bool) (j a p:Nat):Prop where
 pw:Pw W wr q g b (fill tb p)
 ow:Ow 25 wr c k (part (frs tb p) (k-j))
 io:Flow.Into [b,c] w1 wr
 hp:p<=tb.length
 hl:(frs tb p).length=j
 ha:a<=p
 hf:∀m,a<=m->m<p->(fill tb p).getD m false=true
theorem Rnd.next {W w1 wr:World} {q g b c k:Nat} {tb:List Bool} {j a p:Nat} (H:Rnd W w1 wr q g b c k tb j a p) (hT:Tab W) (hj:j<k) (hk:k<=free tb) (hc:q≠c/\g≠c/\b≠c/\W.heap.size<=c):
 ∃r:Nat,r<65536/\Calls Tryz.prog 157 #[.pointer (some ⟨g,0,none⟩), .int .i64 (a:Int)] wr (fun e w'=>e= .returned (.tuple #[.int .i64 (r:Int), .bool true])/\wr=w')/\
  Calls Tryz.prog 110 #[.pointer (some ⟨g,0,none⟩), .int .i64 (r:Int)] wr (fun e w'=>∃x,e= .returned (.int .i64 x)/\w'.cell? ⟨q,0,none⟩=some (.pointer (some ⟨g,0,none⟩))/\w'.cell? ⟨c,j,none⟩=some (.int .u32 0)/\w'.frozen? ⟨c,j,none⟩=false/\Rnd W w1 (w'.setCell ⟨c,j,none⟩ (.int .u32 (r:Int))) q g b c k tb (j+1) r (r+1)):=by
 obtain ⟨r,h1,h2,h3,h4,h5,h6⟩:=next_free H.hp H.ha H.hf (by rw [H.hl];exact hj) hk
 have hlen:=H.pw.len.2
 rw [fill_len] at hlen
 have ha:=H.ha
 have hp:=H.hp
 refine ⟨r,by omega,?_,?_⟩
 . have:=H.pw.rw.Free (a:Int) (by omega)
   rw [h3] at this
   exact this
 . refine (Bt.Set_any g b r (fill tb p) wr H.pw.rw.row).mono fun e w' ⟨he,hr,hi⟩=>⟨_,he,?_⟩
   have e1:setT (fill tb p) (r:Int)=fill tb (r+1):=by
    unfold setT
    rw [in_lt (by rw [fill_len];exact h2)]
    exact h5
   rw [e1] at hr
   have hp1:=H.pw.into hT hi hr
   have ho1:=H.ow.into hi (by simpa using fun e=>hc.2.2.1 e.symm)
   obtain ⟨d,hd⟩:∃d,k-j=d+1:=⟨k-j-1,by omega⟩
   have hd':k-(j+1)=d:=by omega
   have hlp:j<(part (frs tb p) (k-j)).length:=by rw [part_len,H.hl];omega
   obtain ⟨ho2,hi2⟩:=ho1.set j (.int .u32 (r:Int))
   have e2:(part (frs tb p) (k-j)).set j (.int .u32 (r:Int))=part (frs tb (r+1)) (k-(j+1)):=by
    have:=part_set (frs tb p) d r
    rw [H.hl] at this
    rw [hd,hd',this,h6]
   rw [e2] at ho2
   refine ⟨hp1.cell,?_,ho1.free j,⟨hp1.far hT hi2 ⟨hc.1,hc.2.1,hc.2.2.1⟩ hc.2.2.2,ho2,?_,by omega,by rw [h6,List.length_append,H.hl];rfl,by omega,fun m h7 h8=>?_⟩⟩
   . rw [ho1.cell hlp,part_at _ _ _ hlp (by rw [H.hl];exact Nat.le_refl _)]
   . exact (H.io.trans (hi.mono (by simp))).trans (hi2.mono (by simp))
   . obtain rfl:m=r:=by omega
     exact fill_at tb m h2
theorem Grab_ok {W w:World} {q g b:Nat} {tb:List Bool} (h:Pw W w q g b tb) (hT:Tab W) (k:Nat) (hf:k<=free tb):Calls Tryz.prog 112 #[.pointer (some ⟨q,0,none⟩), .int .i64 (k:Int)] w fun e w'=>
 ∃c t l,e= .returned (.tuple #[.slice (some ⟨c,0,none⟩) k k, .int .i64 0])/\Got tb k t l/\Pw W w' q g b t/\Ow 25 w' c k (l.map u32V)/\w.heap.size<=c/\Flow.Into [b] w w':=by
 have HP:=Lib.hid h
 have HT:=Lib.hid hT
 have cR:=Lib.hid (row_any h)
 have cF:=Lib.hid (Free_any h)
 have hle:=h.len
 have hfr:free tb<=tb.length:=by unfold free;omega
 have hk1:k<=65536:=by omega
 have hF:decide (free tb<k)=false:=by simp;omega
 have HF:=Lib.hid hf
 have hmk:=fun w=>run_make_at (P:=Tryz.prog) Tryz.underlying38 u32info rfl (by omega) k (by omega) w
 generalize hfv:free tb=f at cF hF
 clear h hT hle hfr hf hfv
 go_enter Tryz.func112,Tryz.ntmps112
 go_upto_region 8 with (first
  |(go_at_call 89;refine cR.out.mono ?_;rintro e w' ⟨rfl,rfl⟩)
  |(go_at_call 56;refine cF.out.mono ?_;rintro e w' ⟨rfl,rfl⟩))
 have HB:Hid (Below w.heap.size w (w.alloc (.cells (Array.replicate k (.int .u32 0)) 25))):=(Below.refl _ _).alloc (Nat.le_refl _) _
 have HO:Hid (Ow 25 (w.alloc (.cells (Array.replicate k (.int .u32 0)) 25)) w.heap.size k (List.replicate k (.int .u32 0))):=by
  unfold Hid
  have:=ow_made 25 w (.int .u32 0) k (by omega)
  simpa using this
 generalize w.alloc (.cells (Array.replicate k (.int .u32 0)) 25)=w1 at*
 have HP1:=Lib.hid (HP.out.kept HT.out HB.out)
 obtain ⟨c,hc⟩:∃c,c=w.heap.size:=⟨_,rfl⟩
 have HC:=Lib.hid hc
 have HN:Hid (q≠c/\g≠c/\b≠c/\W.heap.size<=c):=by
  have:=HP.out.lts
  have:=HP.out.size
  unfold Hid;omega
 rw [<-hc] at HO
 rw [<-hc]
 have H0:Hid (Rnd W w1 w1 q g b c k tb 0 0 0):=⟨HP1.out,HO.out,Flow.Into.refl _ _,Nat.zero_le _,rfl,Nat.le_refl _,fun m h1 h2=>by omega⟩
 clear hc HO cR cF hmk
 go_wp2
 go_loopw [7,24] (fun x i wr=>∃j a p:Nat,j<=k/\i= .int .i64 (j:Int)/\x= .int .i64 (a:Int)/\Hid (Rnd W w1 wr q g b c k tb j a p)) (fun _ i _=>k-(intOf i).toNat)
 case atStart=>exact ⟨0,0,0,Nat.zero_le _,rfl,rfl,H0⟩
 case round=>
  obtain ⟨j,a,p,hj,rfl,rfl,HR⟩:=hrel
  clear H0 HP1
  by_cases hlt:j<k
  . obtain ⟨r,hr,cF,cS⟩:=HR.out.next HT.out hlt HF.out HN.out
    have CF:=Lib.hid cF
    have CS:=Lib.hid cS
    have d0:=HR.out.pw.cell
    have hw:IntKind.u32.wrap (r:Int)=(r:Int):=by rw [IntKind.wrap_u32];omega
    clear cF cS
    go_wp2_with (first
     |(go_at_call 157;refine CF.out.mono ?_;rintro e w' ⟨rfl,rfl⟩)
     |(go_at_call 110;refine CS.out.mono ?_;rintro e w2 ⟨x,rfl,d1,d2,d3,hrn⟩;have HR2:=Lib.hid hrn;clear hrn d0))
    exact ⟨⟨j+1,r,r+1,hlt,by go_num,rfl,HR2⟩,by simp [intOf];omega⟩
  . obtain rfl:j=k:=by omega
    go_wp2_with fail
    refine bodyPost_ret (v:= .tuple #[.slice (some ⟨c,0,none⟩) j j, .int .i64 0]) (by simp [results,Tryz.results112,go_sem]) rfl ⟨c,fill tb p,frs tb p,rfl,⟨p,HR.out.hp,rfl,rfl,HR.out.hl⟩,HR.out.pw,?_,by rw [HC.out];exact Nat.le_refl _,?_⟩
    . have:=HR.out.ow
      rw [Nat.sub_self] at this
      simpa [part] using this
    . have h1:=(Flow.Into.of_below HB.out).trans (HR.out.io.mono (S':=[b,c]) (by simp))
      exact ⟨h1.os,h1.tape,h1.output,h1.size,fun m hm hn=>h1.block m hm (by have:=HC.out;simp at hn ⊢;omega)⟩
end Po
end Go.Proofs.YtjpjjnalpdpljaaGreatDoor
namespace Go.Proofs.YtjpjjnalpdpljaaGreatDoor
open Go.RowKit
namespace Po
open Mem Bt
theorem Take_full {W w:World} {q g b:Nat} {tb:List Bool} (h:Pw W w q g b tb) (hf:free tb=0):Calls Tryz.prog 72 #[.pointer (some ⟨q,0,none⟩)] w fun e w'=>e= .returned (.tuple #[.int .u32 0, .int .i64 11])/\w=w':=by
 have cG:=Lib.hid (Grab_full h 1 (by omega) (by omega))
 clear h
 go_enter Tryz.func72,Tryz.ntmps72
 go_wp2_with (go_at_call 112;refine cG.out.mono ?_;rintro e w' ⟨rfl,rfl⟩)
 exact bodyPost_ret (v:= .tuple #[.int .u32 0, .int .i64 11]) (by simp [results,Tryz.results72,go_sem]) rfl ⟨rfl,rfl⟩
theorem Take_ok {W w:World} {q g b:Nat} {tb:List Bool} (h:Pw W w q g b tb) (hT:Tab W) (hf:1<=free tb):Calls Tryz.prog 72 #[.pointer (some ⟨q,0,none⟩)] w fun e w'=>
 ∃(t:List Bool) (x:Nat),e= .returned (.tuple #[.int .u32 (x:Int), .int .i64 0])/\Got tb 1 t [x]/\Pw W w' q g b t/\Flow.Into [b] w w':=by
 have cG:=Lib.hid (Grab_ok h hT 1 hf)
 clear h
 go_enter Tryz.func72,Tryz.ntmps72
 go_upto_region 2 with (go_at_call 112;refine cG.out.mono ?_;rintro e w1 ⟨c,t,l,rfl,hg,hp,ho,-,hi⟩)
 obtain ⟨x,rfl⟩:∃x,l=[x]:=List.length_eq_one_iff.1 hg.len.2
 have hc:w1.cell? ⟨c,0,none⟩=some (.int .u32 (x:Int)):=ho.cell (i:=0) (by simp)
 have HP:=Lib.hid hp
 have HG:=Lib.hid hg
 have HI:=Lib.hid hi
 clear hp hg hi ho cG
 go_wp2_with fail
 exact bodyPost_ret (v:= .tuple #[.int .u32 (x:Int), .int .i64 0]) (by simp [results,Tryz.results72,go_sem]) rfl ⟨t,x,rfl,HG.out,HP.out,HI.out⟩
structure Lay (W w0 wr:World) (q g b:Nat) (tb:List Bool) (A:Option Addr) (c f:Nat):Prop where
 pw:Pw W wr q g b tb
 vo:VO 25 wr w0.heap.size A c ((tks tb f).map u32V)
 bel:Below w0.heap.size w0 wr
 hf:f<=tb.length
theorem Lay.app {W w0 wr w':World} {q g b:Nat} {tb:List Bool} {A A':Option Addr} {c c' f r:Nat} {x:World} (H:Lay W w0 wr q g b tb A c f) (hT:Tab W) (hw0:Pw W w0 q g b tb) (hr:r<tb.length) (ht:tks tb (r+1)=tks tb f++[r])
 (hx:Below w0.heap.size wr x) (hd:Appd 25 w0.heap.size x w' A A' c' ((tks tb f).map u32V++[.int .u32 (r:Int)])):Lay W w0 w' q g b tb A' c' (r+1):=by
 have hb:=(H.bel.trans hx).trans hd.below
 refine ⟨hw0.kept hT hb,?_,hb,by omega⟩
 rw [ht,List.map_append]
 exact hd.vo
end Po
end Go.Proofs.YtjpjjnalpdpljaaGreatDoor
namespace Go.Proofs.YtjpjjnalpdpljaaGreatDoor
open Go.RowKit
namespace Sh
open Mem No Bt Po
open Ca (St Us upF Few Cost)
structure Ad where
 p:Nat
 g:Nat
 k:Nat
 q:Nat
 r:Nat
 b:Nat
def shCs (c:Cfg) (z:Ad) (kp:Nat):Array Value:= #[.int .i64 c.blocks, .int .i64 c.bytes, .int .i64 c.frames, .int .i64 c.fan, .int .i64 c.buffer, .int .i64 c.leaf, .int .i64 c.key, .int .i64 c.val, .pointer (some ⟨z.g,0,none⟩), .pointer (some ⟨z.k,0,none⟩), .pointer (some ⟨z.q,0,none⟩), .int .u32 (kp:Int)]
structure Sf (W w:World) (F:List Nat) (z:Ad) (c:Cfg) (tb:List Bool) (kp:Nat) (st:St):Prop where
 bx:BoxAt 83 w z.p (shCs c z kp)
 cl:Ca.Cl W w F z.k z.g st
 pw:Pw W w z.q z.r z.b tb
 lo:W.heap.size<=z.p
 pb:z.p≠z.b
 ap:∀x,x∈F->x≠z.p/\x≠z.q/\x≠z.r/\x≠z.b
structure Mv (z:Ad) (w w':World) (F F':List Nat):Prop where
 gr:Dv.Grew w F F'
 io:Flow.Into (z.p::z.b::F) w w'
section
variable {W w w' w2:World} {F F' F2:List Nat} {z:Ad} {c:Cfg} {tb tb':List Bool} {kp:Nat} {st st':St}
theorem Mv.below (z:Ad) (F:List Nat) (hb:Below w.heap.size w w'):Mv z w w' F F:=⟨fun _ h=> .inl h,Flow.Into.of_below hb⟩
theorem Mv.trans (h:Mv z w w' F F') (h2:Mv z w' w2 F' F2):Mv z w w2 F F2:=by
 have h1:=h.io
 have h3:=h2.io
 refine ⟨fun x hx=>?_,⟨h3.os.trans h1.os,h3.tape.trans h1.tape,h3.output.trans h1.output,Nat.le_trans h1.size h3.size,fun k hk hn=>(h3.block k (Nat.lt_of_lt_of_le hk h1.size) fun hh=>hn ?_).trans (h1.block k hk hn)⟩⟩
 . rcases h2.gr x hx with h4|h4
   . exact h.gr x h4
   . exact .inr (Nat.le_trans h1.size h4)
 . simp only [List.mem_cons] at hh ⊢
   rcases hh with hh|hh|hh
   . exact .inl hh
   . exact .inr (.inl hh)
   . rcases h.gr k hh with h4|h4
     . exact .inr (.inr h4)
     . omega
theorem pw_off (h:Pw W w z.q z.r z.b tb) (hT:Tab W) (hi:Flow.Into F w w') (hn:∀x,x∈F->x≠z.p/\x≠z.q/\x≠z.r/\x≠z.b) (hF:∀x,x∈F->W.heap.size<=x):Pw W w' z.q z.r z.b tb:=by
 have h1:=below_into h.rw.bel hi hF h.rw.bel.size
 exact ⟨(hi.block _ h.lt fun hx=>(hn _ hx).2.1 rfl).trans h.hd,⟨h.rw.row.into hi (fun hx=>(hn _ hx).2.2.1 rfl) (fun hx=>(hn _ hx).2.2.2 rfl),hT.below h1,h1,h.rw.hg,h.rw.hb⟩,h.hq⟩
theorem Sf.kept (h:Sf W w F z c tb kp st) (hT:Tab W) (hb:Below w.heap.size w w'):Sf W w' F z c tb kp st:=⟨h.bx.kept hb,h.cl.kept hb,h.pw.kept hT hb,h.lo,h.pb,h.ap⟩
theorem Sf.below (h:Sf W w F z c tb kp st):Below W.heap.size W w:=h.cl.bl
theorem Sf.used (h:Sf W w F z c tb kp st) (hT:Tab W) (hu:Ca.Used W w w' F z.k z.g st'):∃F',Sf W w' F' z c tb kp st'/\Mv z w w' F F':=by
 obtain ⟨⟨F',h1,h2⟩,h3⟩:=hu
 have hl:=h.pw.lts
 have hp:=h.bx.lt
 refine ⟨F',⟨(h3.block _ hp fun hx=>(h.ap _ hx).1 rfl).trans h.bx,h1,pw_off h.pw hT h3 h.ap h.cl.lo,h.lo,h.pb,fun x hx=>?_⟩,h2,h3.mono fun k hk=>List.mem_cons_of_mem _ (List.mem_cons_of_mem _ hk)⟩
 rcases h2 x hx with h4|h4
 . exact h.ap x h4
 . omega
theorem Sf.pool (h:Sf W w F z c tb kp st) (hp:Pw W w' z.q z.r z.b tb') (hi:Flow.Into [z.b] w w'):Sf W w' F z c tb' kp st/\Mv z w w' F F:=by
 refine ⟨⟨(hi.block _ h.bx.lt (by simpa using h.pb)).trans h.bx,⟨h.cl.cw.far hi fun x hx=>by simpa using (h.ap x hx).2.2.2,h.cl.lo,hp.rw.bel⟩,hp,h.lo,h.pb,h.ap⟩,fun _ hx=> .inl hx,hi.mono fun k hk=>?_⟩
 obtain rfl:k=z.b:=by simpa using hk
 simp
theorem Sf.far (h:Sf W w F z c tb kp st) (hT:Tab W) {g:Nat} (hi:Flow.Into [g] w w') (hn:g∉z.p::z.q::z.r::z.b::F) (hg:W.heap.size<=g):Sf W w' F z c tb kp st:=by
 simp only [List.mem_cons,not_or] at hn
 obtain ⟨n1,n2,n3,n4,n5⟩:=hn
 have hp:=h.pw.far hT hi ⟨fun e=>n2 e.symm,fun e=>n3 e.symm,fun e=>n4 e.symm⟩ hg
 exact ⟨(hi.block _ h.bx.lt (by simpa using fun e=>n1 e.symm)).trans h.bx,⟨h.cl.cw.far hi fun x hx hh=>n5 ((show x=g by simpa using hh)▸hx),h.cl.lo,hp.rw.bel⟩,hp,h.lo,h.pb,h.ap⟩
theorem Mv.off (h:Mv z w w' F F') {g:Nat} (hi:Flow.Into [g] w' w2) (hg:w.heap.size<=g):Mv z w w2 F F':=by
 have h1:=h.io
 exact ⟨h.gr,hi.os.trans h1.os,hi.tape.trans h1.tape,hi.output.trans h1.output,Nat.le_trans h1.size hi.size,fun k hk hn=>(hi.block k (Nat.lt_of_lt_of_le hk h1.size) (by simp only [List.mem_singleton];omega)).trans (h1.block k hk hn)⟩
theorem Mv.box (h:Mv z w w' F F') {U:TypeId} {g:Nat} {C:Array Value} (hx:BoxAt U w g C) (hn:g∉z.p::z.q::z.r::z.b::F):BoxAt U w' g C/\g∉z.p::z.q::z.r::z.b::F':=by
 simp only [List.mem_cons,not_or] at hn ⊢
 obtain ⟨n1,n2,n3,n4,n5⟩:=hn
 refine ⟨(h.io.block _ hx.lt (by simp only [List.mem_cons,not_or];exact ⟨n1,n4,n5⟩)).trans hx,n1,n2,n3,n4,fun hh=>?_⟩
 rcases h.gr _ hh with h4|h4
 . exact n5 h4
 . have:=hx.lt
   omega
theorem Sf.keep (h:Sf W w F z c tb kp st) (hT:Tab W) (i:Nat):Sf W (w.setCell ⟨z.p,11,none⟩ (.int .u32 (i:Int))) F z c tb i st/\Mv z w (w.setCell ⟨z.p,11,none⟩ (.int .u32 (i:Int))) F F:=by
 have hi:Flow.Into [z.p] w (w.setCell ⟨z.p,11,none⟩ (.int .u32 (i:Int))):=⟨rfl,rfl,rfl,by simp [World.setCell],fun k _ hk=>Below.heap_setCell _ _ _ _ (by simpa using hk)⟩
 have hq:=h.pw.lts
 have hx:=h.bx.set 11 (.int .u32 (i:Int))
 have hbn:=h.pb
 have hn:z.q≠z.p/\z.r≠z.p:=by
  refine ⟨fun e=>?_,fun e=>?_⟩
  . have h1:=h.pw.hd
    have h2:=h.bx
    unfold BoxAt at h2
    rw [e,h2] at h1
    simp only [Option.some.injEq,Obj.cells.injEq] at h1
    exact absurd h1.2.1 (by decide)
  . obtain ⟨_,_,h1⟩:=h.pw.rw.row
    have h1:=h1.hd
    have h2:=h.bx
    unfold BoxAt at h2
    rw [e,h2] at h1
    simp only [Option.some.injEq,Obj.cells.injEq] at h1
    exact absurd h1.2.1 (by decide)
 have hp:=h.pw.far hT hi ⟨hn.1,hn.2,fun e=>hbn e.symm⟩ h.lo
 refine ⟨⟨hx,⟨h.cl.cw.far hi fun x hx=>by simpa using (h.ap x hx).1,h.cl.lo,hp.rw.bel⟩,hp,h.lo,h.pb,h.ap⟩,fun _ hx=> .inl hx,hi.mono fun k hk=>?_⟩
 obtain rfl:k=z.p:=by simpa using hk
 simp
end
def kpF (kp:Nat):Nat->Nat:=fun b=>if b=kp/\0<kp then 1 else 0
theorem few_kp (kp:Nat):Few (kpF kp):=⟨kp,kp,fun b hb=>by
 unfold kpF at hb
 split at hb
 . rename_i h
   exact .inl h.1
 . exact absurd rfl hb⟩
theorem up_back (P:Nat->Nat) (i:Nat):upF (upF P i (P i+1)) i (upF P i (P i+1) i-1)=P:=by
 funext b
 unfold upF
 by_cases e:b=i
 . subst e
   simp
 . simp [e]
theorem kp_new (kp i:Nat) (hi:0<i) (hk:0<kp):upF (upF (kpF kp) i (kpF kp i+1)) kp (upF (kpF kp) i (kpF kp i+1) kp-1)=kpF i:=by
 funext b
 unfold upF kpF
 by_cases e:b=kp
 . subst e
   by_cases e2:b=i
   . subst e2
     simp [hi]
   . simp [e2,hk]
 . by_cases e2:b=i
   . subst e2
     simp [e,hi]
   . simp [e,e2]
theorem kp_first (i:Nat) (hi:0<i):upF (kpF 0) i (kpF 0 i+1)=kpF i:=by
 funext b
 unfold upF kpF
 by_cases e:b=i
 . subst e
   simp [hi]
 . simp [e]
theorem kp_none (kp:Nat) (hk:0<kp):upF (kpF kp) kp (kpF kp kp-1)=kpF 0:=by
 funext b
 unfold upF kpF
 by_cases e:b=kp
 . subst e
   simp [hk]
 . simp [e]
theorem kp_zero {kp i:Nat} (h:i≠kp):kpF kp i=0:=by
 unfold kpF
 rw [if_neg (fun hh=>h hh.1)]
theorem kp_self {kp:Nat} (h:0<kp):kpF kp kp=1:=by
 unfold kpF
 rw [if_pos ⟨rfl,h⟩]
theorem kp_cost {kp i:Nat} (hi:0<i):(if kpF kp i=0 then 1 else 0)=(if i=kp then 0 else 1):=by
 by_cases e:i=kp
 . subst e
   rw [kp_self hi]
   simp
 . rw [kp_zero e]
   simp [e]
def thr (c:Cfg) (i:Nat):Prop:=0<i/\(i:Int)<c.blocks
instance (c:Cfg) (i:Nat):Decidable (thr c i):=inferInstanceAs (Decidable (_/\_))
def Okc (c:Cfg):Prop:=Cf.Right c.blocks c.bytes c.frames c.fan c.buffer c.leaf c.key c.val/\c.bytes<=3000/\c.blocks<=65536
structure Sv (W w:World) (F:List Nat) (z:Ad) (c:Cfg) (tb:List Bool) (kp:Nat) (P:Nat->Nat) (f:Nat->List UInt8) (K r s:Nat):Prop where
 ex:∃st,Sf W w F z c tb kp st/\Us st c.frames.toNat c.bytes.toNat c.blocks.toNat P f K/\st.r=r/\st.s=s
 len:(tb.length:Int)=c.blocks
 tb0:tb.getD 0 false=true
 kl:kp=0\/thr c kp
def Out (W w w':World) (F:List Nat) (z:Ad) (c:Cfg) (tb:List Bool) (kp:Nat) (P:Nat->Nat) (f:Nat->List UInt8) (K r s R S:Nat):Prop:=∃F' r' s',Sv W w' F' z c tb kp P f K r' s'/\Mv z w w' F F'/\(r<=r'/\r'<=r+R)/\s<=s'/\s'<=s+S
end Sh
end Go.Proofs.YtjpjjnalpdpljaaGreatDoor
namespace Go.Proofs.YtjpjjnalpdpljaaGreatDoor
open Go.RowKit
namespace Sh
open Mem No Bt Po
open Ca (St Us upF Few Cost)
section
variable {W w w' w2:World} {F F':List Nat} {z:Ad} {c:Cfg} {tb tb':List Bool} {kp:Nat} {P P':Nat->Nat} {f f':Nat->List UInt8} {K K' r r' s s' R S R' S':Nat} {st st':St}
theorem Sv.kept (h:Sv W w F z c tb kp P f K r s) (hT:Tab W) (hb:Below w.heap.size w w'):Sv W w' F z c tb kp P f K r s:=by
 obtain ⟨⟨st,h1,h2⟩,h3,h4,h5⟩:=h
 exact ⟨⟨st,h1.kept hT hb,h2⟩,h3,h4,h5⟩
theorem Sv.below (h:Sv W w F z c tb kp P f K r s):Below W.heap.size W w:=by
 obtain ⟨⟨st,h1,-⟩,-⟩:=h
 exact h1.below
theorem Sv.lt (h:Sv W w F z c tb kp P f K r s):∀x,x∈z.p::z.q::z.r::z.b::F->x<w.heap.size:=by
 obtain ⟨⟨st,h1,-⟩,-⟩:=h
 obtain ⟨h2,h3,h4,-⟩:=h1.pw.lts
 intro x hx
 simp only [List.mem_cons] at hx
 rcases hx with rfl|rfl|rfl|rfl|hx
 . exact h1.bx.lt
 . exact h2
 . exact h3
 . exact h4
 . exact h1.cl.cw.lt x hx
theorem Sv.new (h:Sv W w F z c tb kp P f K r s):w.heap.size∉z.p::z.q::z.r::z.b::F:=fun hx=>absurd (h.lt _ hx) (by omega)
theorem Sv.far (h:Sv W w F z c tb kp P f K r s) (hT:Tab W) {g:Nat} (hi:Flow.Into [g] w w') (hn:g∉z.p::z.q::z.r::z.b::F) (hg:W.heap.size<=g):Sv W w' F z c tb kp P f K r s:=by
 obtain ⟨⟨st,h1,h2⟩,h3,h4,h5⟩:=h
 exact ⟨⟨st,h1.far hT hi hn hg,h2⟩,h3,h4,h5⟩
theorem Sv.box (h:Sv W w F z c tb kp P f K r s):BoxAt 83 w z.p (shCs c z kp):=by
 obtain ⟨⟨st,h1,-⟩,-⟩:=h
 exact h1.bx
theorem Sv.mono (h:Sv W w F z c tb kp P f K r s) (hK:K<=K'):Sv W w F z c tb kp P f K' r s:=by
 obtain ⟨⟨st,h1,h2,h6⟩,h3,h4,h5⟩:=h
 exact ⟨⟨st,h1,h2.mono hK,h6⟩,h3,h4,h5⟩
theorem Sv.cells (h:Sv W w F z c tb kp P f K r s):w.cell? ⟨z.p,0,none⟩=some (.int .i64 c.blocks)/\w.cell? ⟨z.p,1,none⟩=some (.int .i64 c.bytes)/\w.cell? ⟨z.p,2,none⟩=some (.int .i64 c.frames)/\w.cell? ⟨z.p,3,none⟩=some (.int .i64 c.fan)/\w.cell? ⟨z.p,4,none⟩=some (.int .i64 c.buffer)/\w.cell? ⟨z.p,5,none⟩=some (.int .i64 c.leaf)/\w.cell? ⟨z.p,6,none⟩=some (.int .i64 c.key)/\w.cell? ⟨z.p,7,none⟩=some (.int .i64 c.val)/\w.cell? ⟨z.p,8,none⟩=some (.pointer (some ⟨z.g,0,none⟩))/\w.cell? ⟨z.p,9,none⟩=some (.pointer (some ⟨z.k,0,none⟩))/\w.cell? ⟨z.p,10,none⟩=some (.pointer (some ⟨z.q,0,none⟩))/\w.cell? ⟨z.p,11,none⟩=some (.int .u32 (kp:Int))/\w.frozen? ⟨z.p,11,none⟩=false:=by
 obtain ⟨⟨st,h1,-⟩,-⟩:=h
 have hx:=h1.bx
 exact ⟨hx.cell rfl,hx.cell rfl,hx.cell rfl,hx.cell rfl,hx.cell rfl,hx.cell rfl,hx.cell rfl,hx.cell rfl,hx.cell rfl,hx.cell rfl,hx.cell rfl,hx.cell rfl,hx.free 11⟩
theorem Okc.nat (h:Okc c):(c.blocks.toNat:Int)=c.blocks/\(c.bytes.toNat:Int)=c.bytes/\3<=c.frames.toNat/\5<=c.blocks/\c.blocks<=65536/\64<=c.bytes/\c.bytes<=3000/\(c.frames.toNat:Int)=c.frames/\8<=c.frames/\c.frames<=64:=by
 obtain ⟨⟨-,h1,h2,h3⟩,h4,h5⟩:=h
 have h6:64<=Cf.few c.fan c.buffer c.leaf c.key c.val:=by
  unfold Cf.few
  omega
 omega
theorem Out.same (h:Sv W w F z c tb kp P f K r s) (hT:Tab W) (hb:Below w.heap.size w w') (R S:Nat):Out W w w' F z c tb kp P f K r s R S:=⟨F,r,s,h.kept hT hb,Mv.below z F hb,⟨Nat.le_refl _,Nat.le_add_right _ _⟩,Nat.le_refl _,Nat.le_add_right _ _⟩
theorem Out.mono (h:Out W w w' F z c tb kp P f K r s R S) (hR:R<=R') (hS:S<=S'):Out W w w' F z c tb kp P f K r s R' S':=by
 obtain ⟨F',r',s',h1,h2,h3,h4⟩:=h
 exact ⟨F',r',s',h1,h2,by omega,by omega⟩
theorem Out.then (h1:Mv z w w' F F') (hr:r<=r'/\r'<=r+R) (hs:s<=s'/\s'<=s+S) (h:Out W w' w2 F' z c tb kp P f K r' s' R' S'):Out W w w2 F z c tb kp P f K r s (R+R') (S+S'):=by
 obtain ⟨F2,r2,s2,h3,h4,h5,h6⟩:=h
 exact ⟨F2,r2,s2,h3,h1.trans h4,by omega,by omega⟩
theorem Out.call (h1:Sf W w F z c tb kp st) (hl:(tb.length:Int)=c.blocks) (h0:tb.getD 0 false=true) (hk:kp=0\/thr c kp) (hT:Tab W) (hu:Ca.Used W w w' F z.k z.g st') (h6:Us st' c.frames.toNat c.bytes.toNat c.blocks.toNat P f K) (hc:Cost st st' R S):Out W w w' F z c tb kp P f K st.r st.s R S:=by
 obtain ⟨F',h7,h8⟩:=h1.used hT hu
 exact ⟨F',st'.r,st'.s,⟨⟨st',h7,h6,rfl,rfl⟩,hl,h0,hk⟩,h8,⟨hc.r1,hc.r2⟩,hc.s1,hc.s2⟩
variable {b:Nat}
theorem SPin (h:Sv W w F z c tb kp P f K r s) (hc:Okc c) (hT:Tab W) (hK:K<=1000000) (hf:Few P) (hb:(b:Int)<c.blocks):Calls Tryz.prog 47 #[.pointer (some ⟨z.k,0,none⟩), .int .u32 (b:Int)] w fun e w'=>e= .returned (.int .i64 0)/\Out W w w' F z c tb kp (upF P b (P b+1)) f (K+2) r s (if P b=0 then 1 else 0) (if P b=0 then 1 else 0):=by
 obtain ⟨⟨st,h1,h2,rfl,rfl⟩,h3,h4,h5⟩:=h
 have hn:=hc.nat
 refine (Ca.UPin h1.cl h2 hK (by omega) hf (b:=b) (by omega)).mono ?_
 rintro e w' ⟨he,st',hu,h6,hct,hfr⟩
 refine ⟨he,?_⟩
 by_cases e0:P b=0
 . rw [if_pos e0]
   exact Out.call h1 h3 h4 h5 hT hu h6 hct
 . rw [if_neg e0]
   exact Out.call h1 h3 h4 h5 hT hu h6 (hfr e0)
theorem SFresh (h:Sv W w F z c tb kp P f K r s) (hc:Okc c) (hT:Tab W) (hK:K<=1000000) (hf:Few P) (hb:(b:Int)<c.blocks) (h0:P b=0):Calls Tryz.prog 114 #[.pointer (some ⟨z.k,0,none⟩), .int .u32 (b:Int)] w fun e w'=>e= .returned (.int .i64 0)/\Out W w w' F z c tb kp (upF P b 1) (upF f b (List.replicate c.bytes.toNat 0)) (K+2) r s 0 1:=by
 obtain ⟨⟨st,h1,h2,rfl,rfl⟩,h3,h4,h5⟩:=h
 have hn:=hc.nat
 refine (Ca.UFresh h1.cl h2 hK (by omega) hf (b:=b) (by omega) h0).mono ?_
 rintro e w' ⟨he,st',hu,h6,hct⟩
 exact ⟨he,Out.call h1 h3 h4 h5 hT hu h6 hct⟩
theorem SUnpin (h:Sv W w F z c tb kp P f K r s) (hT:Tab W) (hK:K<=1000000) (hb:b<4294967296) (h0:P b≠0):Calls Tryz.prog 49 #[.pointer (some ⟨z.k,0,none⟩), .int .u32 (b:Int)] w fun e w'=>e= .returned (.int .i64 0)/\Out W w w' F z c tb kp (upF P b (P b-1)) f K r s 0 0:=by
 obtain ⟨⟨st,h1,h2,rfl,rfl⟩,h3,h4,h5⟩:=h
 refine (Ca.UUnpin h1.cl h2 hK hb h0).mono ?_
 rintro e w' ⟨he,st',hu,h6,hct⟩
 exact ⟨he,Out.call h1 h3 h4 h5 hT hu h6 hct⟩
theorem SWrite (h:Sv W w F z c tb kp P f K r s) (hc:Okc c) (hT:Tab W) (hb:b<4294967296) (h0:P b≠0) {A:Option Addr} {m cap:Nat} {y:List UInt8} (hA:BL w A y) (hm:y.length=m) (hy:(y.length:Int)=c.bytes):Calls Tryz.prog 113 #[.pointer (some ⟨z.k,0,none⟩), .int .u32 (b:Int), .slice A m cap] w fun e w'=>e= .returned (.int .i64 0)/\Out W w w' F z c tb kp P (upF f b y) K r s 0 0:=by
 obtain ⟨⟨st,h1,h2,rfl,rfl⟩,h3,h4,h5⟩:=h
 have hn:=hc.nat
 refine (Ca.UWrite h1.cl h2 hb h0 hA hm (by omega)).mono ?_
 rintro e w' ⟨he,st',hu,h6,hct⟩
 exact ⟨he,Out.call h1 h3 h4 h5 hT hu h6 hct⟩
theorem SDrop (h:Sv W w F z c tb kp P f K r s) (hT:Tab W) (hb:b<4294967296) (h0:P b=0):Calls Tryz.prog 75 #[.pointer (some ⟨z.k,0,none⟩), .int .u32 (b:Int)] w fun e w'=>e= .returned (.int .i64 0)/\∃y,Out W w w' F z c tb kp P (upF f b y) K r s 0 0:=by
 obtain ⟨⟨st,h1,h2,rfl,rfl⟩,h3,h4,h5⟩:=h
 refine (Ca.UDrop h1.cl h2 hb h0).mono ?_
 rintro e w' ⟨he,st',y,hu,h6,hct⟩
 exact ⟨he,y,Out.call h1 h3 h4 h5 hT hu h6 hct⟩
def Dvs (w:World) (g:Nat) (c:Cfg) (f:Nat->List UInt8):Prop:=∃S r s,Dv.Dev w S g c.bytes.toNat ((List.range c.blocks.toNat).map f) r s
theorem SFlush (h:Sv W w F z c tb kp P f K r s) (hT:Tab W) (hK:K<=900000):Calls Tryz.prog 59 #[.pointer (some ⟨z.k,0,none⟩)] w fun e w'=>e= .returned (.int .i64 0)/\Out W w w' F z c tb kp P f (K+64) r s 0 c.frames.toNat/\Dvs w' z.g c f:=by
 obtain ⟨⟨st,h1,h2,rfl,rfl⟩,h3,h4,h5⟩:=h
 refine (Ca.UFlush h1.cl h2 hK).mono ?_
 rintro e w' ⟨he,st',hu,h6,hct,hl⟩
 refine ⟨he,Out.call h1 h3 h4 h5 hT hu h6 hct,?_⟩
 obtain ⟨⟨F',h7,-⟩,-⟩:=hu
 obtain ⟨S,hd⟩:=h7.dev
 rw [h6.m,hl] at hd
 exact ⟨S,_,_,hd⟩
theorem SRead (h:Sv W w F z c tb kp P f K r s) (hb:b<4294967296) (h0:P b≠0):Calls Tryz.prog 48 #[.pointer (some ⟨z.k,0,none⟩), .int .u32 (b:Int)] w fun e w'=>(∃A k,e= .returned (.tuple #[.slice A (f b).length k, .int .i64 0])/\BL w' A (f b)/\∀a,A=some a->w.heap.size<=a.block)/\Below w.heap.size w w':=by
 obtain ⟨⟨st,h1,h2,rfl,rfl⟩,h3,h4,h5⟩:=h
 exact Ca.URead h1.cl h2 hb h0
theorem Sv.many (h:Sv W w F z c tb kp P f K r s) (hc:Okc c) {i:Nat} (hi:(i:Int)<c.blocks):((f i).length:Int)=c.bytes:=by
 obtain ⟨⟨st,h1,h2,-⟩,-⟩:=h
 have hn:=hc.nat
 have h9:=Ca.cur_len h2.good (i:=i) (by rw [h2.len];omega)
 rw [h2.cur,h2.m] at h9
 omega
theorem Sv.dev (h:Sv W w F z c tb kp P f K r s):∃S ls,Dv.Dev w S z.g c.bytes.toNat ls r s/\ls.length=c.blocks.toNat:=by
 obtain ⟨⟨st,h1,h2,rfl,rfl⟩,-⟩:=h
 obtain ⟨S,hd⟩:=h1.cl.dev
 rw [h2.m] at hd
 exact ⟨S,_,hd,h2.len⟩
theorem Sv.pool (h:Sv W w F z c tb kp P f K r s) (hp:Pw W w' z.q z.r z.b tb') (hi:Flow.Into [z.b] w w') (hl:tb'.length=tb.length) (h0:tb'.getD 0 false=true):Out W w w' F z c tb' kp P f K r s 0 0:=by
 obtain ⟨⟨st,h1,h2⟩,h3,h4,h5⟩:=h
 obtain ⟨h7,h8⟩:=h1.pool hp hi
 exact ⟨F,r,s,⟨⟨st,h7,h2⟩,by rw [hl];exact h3,h0,h5⟩,h8,⟨Nat.le_refl _,Nat.le_refl _⟩,Nat.le_refl _,Nat.le_refl _⟩
theorem Sv.pw (h:Sv W w F z c tb kp P f K r s):Pw W w z.q z.r z.b tb:=by
 obtain ⟨⟨st,h1,-⟩,-⟩:=h
 exact h1.pw
theorem set_first {i:Nat} (h:tb.getD 0 false=true):(setT tb (i:Int)).length=tb.length/\(setT tb (i:Int)).getD 0 false=true:=by
 unfold setT
 split
 . rename_i hin
   have hlt:i<tb.length:=by
    have:=of_decide_eq_true hin
    omega
   refine ⟨by simp,?_⟩
   rw [show ((i:Int)).toNat=i from rfl,getD_set _ _ _ _ _ hlt]
   split
   . rfl
   . exact h
 . exact ⟨rfl,h⟩
theorem give_first {i:Nat} (h:tb.getD 0 false=true):(gvT tb i).length=tb.length/\(gvT tb i).getD 0 false=true:=by
 refine ⟨gvT_len _ _,?_⟩
 unfold gvT
 split
 . exact h
 . rename_i h0
   unfold clrT
   split
   . rename_i hin
     have hlt:i<tb.length:=by
      have:=of_decide_eq_true hin
      omega
     rw [show ((i:Int)).toNat=i from rfl,getD_set _ _ _ _ _ hlt,if_neg (fun e=>h0 e.symm)]
     exact h
   . exact h
theorem got_first {t:List Bool} {j:Nat} (hg:Got tb 1 t [j]) (h:tb.getD 0 false=true):t.length=tb.length/\t.getD 0 false=true/\0<j:=by
 refine ⟨hg.len.1,?_,?_⟩
 . obtain ⟨p,h1,rfl,-,-⟩:=hg
   clear h1
   induction p with
   |zero=>exact h
   |succ p ih=>
    show ((fill tb p).set p true).getD 0 false=true
    by_cases hp:p<tb.length
    . rw [getD_set _ _ _ _ _ (by rw [fill_len];exact hp)]
      split
      . rfl
      . exact ih
    . rw [List.set_eq_of_length_le (by rw [fill_len];omega)]
      exact ih
 . have hm:∀p,∀x,x∈frs tb p->0<x:=fun p=>by
    induction p with
    |zero=>exact fun x hx=>by cases hx
    |succ p ih=>
     intro x hx
     unfold frs at hx
     rcases List.mem_append.1 hx with hx|hx
     . exact ih x hx
     . split at hx
       . cases hx
       . rename_i hv
         obtain rfl:x=p:=by simpa using hx
         rcases Nat.eq_zero_or_pos x with e|e
         . subst e
           exact absurd h hv
         . exact e
   obtain ⟨p,-,-,h2,-⟩:=hg
   exact hm p j (by rw [<-h2];simp)
end
end Sh
end Go.Proofs.YtjpjjnalpdpljaaGreatDoor
namespace Go.Proofs.YtjpjjnalpdpljaaGreatDoor
open Go.RowKit
namespace Sh
open Mem No Bt Po
open Ca (upF)
section
variable {W w:World} {F:List Nat} {z:Ad} {c:Cfg} {tb:List Bool} {kp:Nat} {P:Nat->Nat} {f:Nat->List UInt8} {K r s:Nat}
theorem staU:Tryz.prog.underlying 65=some (.struct (Tryz.prog.fieldsOf 65)):=by kernel_rfl
theorem staS {v u:Value}:(Tryz.prog.info? 65).map (·.size)=some (#[v,u]:Array Value).size:=by kernel_rfl
theorem isMade_c (h:Sv W w F z c tb kp P f K r s):Calls Tryz.prog 55 #[.pointer (some ⟨z.p,0,none⟩)] w fun e w'=>e= .returned (.bool true)/\w=w':=by
 obtain ⟨-,-,-,-,-,-,-,-,c8,-⟩:=h.cells
 clear h
 go_enter Tryz.func55,Tryz.ntmps55
 go_wp2
 go_ret
 exact ⟨rfl,rfl⟩
theorem place_c (h:Sv W w F z c tb kp P f K r s) (hc:Okc c) (i:Nat):Calls Tryz.prog 46 #[.pointer (some ⟨z.p,0,none⟩), .int .u32 (i:Int)] w fun e w'=>e= .returned (.int .i64 (if thr c i then 0 else 4))/\w=w':=by
 have cM:=Lib.hid (isMade_c h)
 obtain ⟨c0,-⟩:=h.cells
 obtain ⟨-,-,-,n1,n2,-⟩:=hc.nat
 have hwr:IntKind.u32.wrap c.blocks=c.blocks:=by rw [IntKind.wrap_u32];omega
 clear h hc
 by_cases ht:thr c i
 . rw [if_pos ht]
   have hz:((i:Int)==0)=false:=by have:=ht.1;simp;omega
   have hd:decide (c.blocks<=(i:Int))=false:=by have:=ht.2;simp;omega
   clear ht
   go_enter Tryz.func46,Tryz.ntmps46
   go_wp2_with (go_at_call 55;refine cM.out.mono ?_;rintro e w' ⟨rfl,rfl⟩)
   go_ret
   exact ⟨rfl,rfl⟩
 . rw [if_neg ht]
   unfold thr at ht
   by_cases h0:i=0
   . subst h0
     go_enter Tryz.func46,Tryz.ntmps46
     go_wp2_with (go_at_call 55;refine cM.out.mono ?_;rintro e w' ⟨rfl,rfl⟩)
     go_ret
     exact ⟨rfl,rfl⟩
   . have hz:((i:Int)==0)=false:=by simp;omega
     have hd:decide (c.blocks<=(i:Int))=true:=by simp;omega
     clear ht h0
     go_enter Tryz.func46,Tryz.ntmps46
     go_wp2_with (go_at_call 55;refine cM.out.mono ?_;rintro e w' ⟨rfl,rfl⟩)
     go_ret
     exact ⟨rfl,rfl⟩
theorem cfgU:Tryz.prog.underlying 23=some (.struct (Tryz.prog.fieldsOf 23)):=by kernel_rfl
theorem cfgS {C:Array Value} (h:C.size=8):(Tryz.prog.info? 23).map (·.size)=some C.size:=by
 rw [h]
 kernel_rfl
theorem cfg_one (c:Cfg):∀v∈(cfCs c).toList,v.oneCell'=true:=by simp [cfCs,Value.oneCell']
theorem sh_pre (c:Cfg) (z:Ad) (kp:Nat):((shCs c z kp).toList.take (cfCs c).size).toArray=cfCs c:=rfl
theorem Left_c (h:Sv W w F z c tb kp P f K r s):Calls Tryz.prog 17 #[.pointer (some ⟨z.p,0,none⟩)] w fun e w'=>e= .returned (.int .i64 (free tb:Int))/\w=w':=by
 have cM:=Lib.hid (isMade_c h)
 have cF:=Lib.hid (Free_any h.pw)
 obtain ⟨-,-,-,-,-,-,-,-,-,-,c10,-⟩:=h.cells
 clear h
 generalize free tb=m at*
 go_enter Tryz.func17,Tryz.ntmps17
 go_wp2_with (first
  |(go_at_call 55;refine cM.out.mono ?_;rintro e w' ⟨rfl,rfl⟩)
  |(go_at_call 56;refine cF.out.mono ?_;rintro e w' ⟨rfl,rfl⟩))
 go_ret
 exact ⟨rfl,rfl⟩
theorem Has_c (h:Sv W w F z c tb kp P f K r s) (hT:Tab W) (i:Nat) (hi:i<4294967296):Calls Tryz.prog 22 #[.pointer (some ⟨z.p,0,none⟩), .int .u32 (i:Int)] w fun e w'=>e= .returned (.bool (tb.getD i false))/\Below w.heap.size w w':=by
 have cM:=Lib.hid (isMade_c h)
 have cF:=Lib.hid (Has_any h.pw hT i hi)
 obtain ⟨-,-,-,-,-,-,-,-,-,-,c10,-⟩:=h.cells
 clear h
 generalize tb.getD i false=v at*
 go_enter Tryz.func22,Tryz.ntmps22
 go_wp2_with (first
  |(go_at_call 55;refine cM.out.mono ?_;rintro e w' ⟨rfl,rfl⟩)
  |(go_at_call 58;refine cF.out.mono ?_;rintro e w1 ⟨rfl,-,hb⟩;have HB:=Lib.hid hb;clear hb))
 go_ret
 exact ⟨rfl,HB.out⟩
theorem Flush_c (h:Sv W w F z c tb kp P f K r s) (hT:Tab W) (hK:K<=900000):Calls Tryz.prog 26 #[.pointer (some ⟨z.p,0,none⟩)] w fun e w'=>e= .returned (.int .i64 0)/\Out W w w' F z c tb kp P f (K+64) r s 0 c.frames.toNat/\Dvs w' z.g c f:=by
 have cM:=Lib.hid (isMade_c h)
 have cF:=Lib.hid (SFlush h hT hK)
 obtain ⟨-,-,-,-,-,-,-,-,-,c9,-⟩:=h.cells
 clear h
 go_enter Tryz.func26,Tryz.ntmps26
 go_wp2_with (first
  |(go_at_call 55;refine cM.out.mono ?_;rintro e w' ⟨rfl,rfl⟩)
  |(go_at_call 59;refine cF.out.mono ?_;rintro e w1 ⟨rfl,ho⟩;have HO:=Lib.hid ho;clear ho))
 go_ret
 exact ⟨rfl,HO.out⟩
theorem Mark_c (h:Sv W w F z c tb kp P f K r s) (hc:Okc c) (hT:Tab W) (i:Nat) (hi:i<4294967296):Calls Tryz.prog 37 #[.pointer (some ⟨z.p,0,none⟩), .int .u32 (i:Int)] w fun e w'=>e= .returned (.int .i64 (if thr c i then setE tb i else 4))/\Out W w w' F z c (if thr c i then setT tb i else tb) kp P f K r s 0 0:=by
 have cM:=Lib.hid (place_c h hc i)
 have cF:=Lib.hid (Mark_any h.pw hT i hi)
 obtain ⟨-,-,-,-,-,-,-,-,-,-,c10,-⟩:=h.cells
 have H:=Lib.hid h
 clear h
 by_cases ht:thr c i
 . simp only [if_pos ht] at cM ⊢
   clear ht
   go_enter Tryz.func37,Tryz.ntmps37
   go_wp2_with (first
    |(go_at_call 46;refine cM.out.mono ?_;rintro e w' ⟨rfl,rfl⟩)
    |(go_at_call 76;refine cF.out.mono ?_;rintro e w1 ⟨rfl,hp,hi⟩;have HP:=Lib.hid hp;have HI:=Lib.hid hi;clear hp hi))
   go_ret
   obtain ⟨h1,h2⟩:=set_first (i:=i) H.out.tb0
   exact ⟨rfl,H.out.pool HP.out HI.out h1 h2⟩
 . simp only [if_neg ht] at cM ⊢
   clear ht cF
   go_enter Tryz.func37,Tryz.ntmps37
   go_wp2_with (go_at_call 46;refine cM.out.mono ?_;rintro e w' ⟨rfl,rfl⟩)
   go_ret
   exact ⟨rfl,Out.same H.out hT (Below.refl _ _) 0 0⟩
end
end Sh
end Go.Proofs.YtjpjjnalpdpljaaGreatDoor
namespace Go.Proofs.YtjpjjnalpdpljaaGreatDoor
open Go.RowKit
namespace Po
open Mem Bt
def Told (w w':World) (B n:Nat) (t:List Bool) (x:Int) (e:Ending):Prop:=∃h' c',e= .returned (.tuple #[.slice (some ⟨h',0,none⟩) n c', .int .i64 x])/\BoolAt w' h' c' n t/\B<=h'/\Below w.heap.size w w'
end Po
end Go.Proofs.YtjpjjnalpdpljaaGreatDoor
namespace Go.Proofs.YtjpjjnalpdpljaaGreatDoor
open Go.RowKit
namespace Po
open Mem Bt
structure Grb (w wr:World) (B n:Nat) (tb:List Bool) (h' c':Nat) (A:Option Addr) (c2 p:Nat):Prop where
 bo:BoolAt wr h' c' n (fill tb p)
 vo:VO 25 wr w.heap.size A c2 ((frs tb p).map u32V)
 hB:B<=h'
 bel:Below w.heap.size w wr
section
variable {w wr w1 w2 w3:World} {B n:Nat} {tb:List Bool} {h' c':Nat} {A:Option Addr} {c2 p:Nat}
theorem Grb.skip (H:Grb w wr B n tb h' c' A c2 p) (hl:tb.length=n) (hp:p<n) (hv:tb.getD p false=true):Grb w wr B n tb h' c' A c2 (p+1)/\frs tb (p+1)=frs tb p:=by
 obtain ⟨e1,e2⟩:=fill_full tb p 1 (by omega) fun j h1 h2=>by
  obtain rfl:j=p:=by omega
  exact hv
 exact ⟨⟨by rw [e1];exact H.bo,by rw [e2];exact H.vo,H.hB,H.bel⟩,e2⟩
theorem Grb.take (H:Grb w wr B n tb h' c' A c2 p) {h2 c3:Nat} {A':Option Addr} {c4:Nat} (hv:tb.getD p false=false) (hB:B<=w.heap.size)
 (ho:BoolAt w1 h2 c3 n ((fill tb p).set p true)) (hh:wr.heap.size<=h2) (hb:Below wr.heap.size wr w1) (hx:Below w1.heap.size w1 w2) (hd:Appd 25 w.heap.size w2 w3 A A' c4 ((frs tb p).map u32V++[.int .u32 (p:Int)])):
 Grb w w3 B n tb h2 c3 A' c4 (p+1)/\(frs tb (p+1)).length=(frs tb p).length+1:=by
 have e:frs tb (p+1)=frs tb p++[p]:=by
  show frs tb p++(if tb.getD p false then [] else [p])=_
  rw [hv];rfl
 have ho2:=ho.kept hx
 have hv2:=(H.vo.kept hb).kept hx
 have hne:=vo_ne_ow hv2 ho2.ow (by decide)
 refine ⟨⟨⟨ho2.ow.keep (hd.block _ ho2.ow.lt hne),ho2.len⟩,by rw [e,List.map_append];exact hd.vo,Nat.le_trans (Nat.le_trans hB H.bel.size) hh,?_⟩,by rw [e,List.length_append];rfl⟩
 have hs:=H.bel.size
 exact ((H.bel.trans (hb.mono hs)).trans (hx.mono (Nat.le_trans hs hb.size))).trans hd.below
end
end Po
end Go.Proofs.YtjpjjnalpdpljaaGreatDoor
namespace Go.Proofs.YtjpjjnalpdpljaaGreatDoor
open Go.RowKit
namespace Bt
def tabZ:List Int:=Lib.deBruijn64tab.map fun n:Nat=>(n:Int)
theorem gTab:Tryz.prog.globalNamed "math/bits.deBruijn64tab" =some 0 :=by kernel_rfl
theorem tTab:(Tryz.prog.globals[0]?).map (·.type)=some 219:=by kernel_rfl
theorem tab_of_laid {W:World} (h:laidMet Tryz.prog [("math/bits.deBruijn64tab",Lib.tabData .u8 tabZ)] W):Tab W:=by
 have ht:=Lib.tabIs_of_head gTab tTab Tryz.underlying219 Tryz.underlying5 (by kernel_rfl) (by kernel_rfl) h
 intro j hj
 have hl:Lib.deBruijn64tab.length=64:=by decide
 have:=ht.cell gTab j (by simp [tabZ];omega)
 rw [this]
 have:j<Lib.deBruijn64tab.length:=by omega
 simp [tabZ,List.getD,this]
end Bt
end Go.Proofs.YtjpjjnalpdpljaaGreatDoor
