import Derived.Test.YtmcbidhpkpmalaaGreatDoorPkAK
set_option maxHeartbeats 2000000
set_option maxRecDepth 100000
namespace Go.Proofs.YtmcbidhpkpmalaaGreatDoor
open Go.RowKit
namespace Bt
open Mem
theorem K6:(Tryz.prog.info? 61).map (fun i=>(i.zero,i.size,i.bytes))=some (some (.int .u64 0),1,8):=by kernel_rfl
theorem mq(n:Nat)(w:World)(h0:1<=n)(h1:n<=65536):Calls Tryz.prog 134 #[(n:Int)] w fun e w'=>(∃g b,e=.returned (.tuple #[(g:Nat),(0:Int)])/\fI w' g b (List.replicate n false)/\w.heap.size<=g/\w.heap.size<=b)/\Bw w w':=by
 have HRP:=Lib.hid (Gy n);obtain⟨m,hm⟩:=eX ((n+63) / 64);rw[<-hm]at HRP;have hmk:=fun w=>fP (P:=Tryz.prog) Tryz.underlying218 K6 rfl (by omega) m (by omega) w;have hq:((n:Int)+64-1) / 64=(m:Int):=by omega
 have hwm:IntKind.i64.wrap (m:Int)=(m:Int):=by rw[IntKind.wrap_i64];omega
 have HM:Hid (m<=1048576):=by unfold Hid;omega
 clear hm;go_enter Tryz.func134,Tryz.ntmps134
 go_wp2
 have hw0:Ow 61 (w.alloc (.cells (Array.replicate m (.int .u64 0)) 61)) w.heap.size m ((List.replicate m 0).map Hu):=by
  have:=xE 61 w (.int .u64 0) m HM.out;simpa[Hu]using this
 have hb1:Bw w (w.alloc (.cells (Array.replicate m (.int .u64 0)) 61)):=bAx;have hs1:(w.alloc (.cells (Array.replicate m (.int .u64 0)) 61)).heap.size=w.heap.size+1:=by simp
 generalize w.alloc (.cells (Array.replicate m (.int .u64 0)) 61)=w1 at*;refine bodyPost_ret (v:= .tuple #[.pointer (some ⟨w.heap.size+1,0,none⟩),(0:Int)]) (by simp[results,Tryz.results134,go_sem]) rfl ⟨⟨w.heap.size+1,w.heap.size,rfl,⟨m,List.replicate m 0,?_,?_,HRP.out,by simpa using h0,by simpa using h1⟩,by omega,Nat.le_refl _⟩,hb1.alloc hb1.size _⟩
 . rw[<-hs1,heap_alloc_new];simp
 . exact hw0.kept (bAx)
structure Rw(W w:World)(g b:Nat)(tb:List Bool):Prop where
 row:fI w g b tb
 tab:Tab w
 bel:Bw W w
 hg:W.heap.size<=g
 hb:W.heap.size<=b
theorem Tab.below{W w:World}(h:Tab W)(hb:Bw W w):Tab w:=h.keep (hb.block _ h.lt)
theorem nL{B:Nat}{W w w':World}{S:List Nat}(h:Below B W w)(hi:Flow.Into S w w')(hS:∀k,k∈S->B<=k)(hB:B<=w.heap.size):Below B W w':=
 h.trans ⟨hi.os,hi.tape,hi.output,hi.size,fun k hk=>hi.block k (Nat.lt_of_lt_of_le hk hB) fun hh=>absurd hk (Nat.not_lt.2 (hS k hh))⟩
section
variable{W w w':World}{g b:Nat}{tb tb':List Bool}
theorem Rw.kept(h:Rw W w g b tb)(hT:Tab W)(hb:Bw w w'):Rw W w' g b tb:=by have h1:=h.bel.trans (hb.mono h.bel.size);exact⟨h.row.kept hb,hT.below h1,h1,h.hg,h.hb⟩
theorem Rw.into(h:Rw W w g b tb)(hT:Tab W)(hi:Flow.Into [b] w w')(hr:fI w' g b tb'):Rw W w' g b tb':=by have h1:=nL h.bel hi (by simpa using h.hb) h.bel.size;exact⟨hr,hT.below h1,h1,h.hg,h.hb⟩
theorem Rw.Set(h:Rw W w g b tb)(hT:Tab W)(i:Int):Calls Tryz.prog 135 #[g,i] w fun e w'=>e=.returned (Gh tb i:Int)/\Rw W w' g b (BZ tb i)/\Flow.Into [b] w w':=
 (Eb g b i tb w h.row).mono fun _ _ ⟨he,hr,hi⟩=>⟨he,h.into hT hi hr,hi⟩
theorem Rw.Free(h:Rw W w g b tb)(f:Int)(hf:f<=9223372036854775807):CW 168 #[g,f] w (.tuple #[(foI (eF tb f false):Int),.bool (foB (eF tb f false))]):=
 oU g b f tb w h.row h.tab hf
end
theorem NQ(W w:World)(hT:Tab W)(hb:Bw W w)(n:Nat)(h0:1<=n)(h1:n<=65536):Calls Tryz.prog 134 #[(n:Int)] w fun e w'=>∃g b,e=.returned (.tuple #[(g:Nat),(0:Int)])/\Rw W w' g b (List.replicate n false)/\Bw w w':=
 (mq n w h0 h1).mono fun _ _ ⟨⟨g,b,he,hr,hg,hbb⟩,hbl⟩=>by
   have h2:=hb.trans (hbl.mono hb.size);exact⟨g,b,he,⟨hr,hT.below h2,h2,Nat.le_trans hb.size hg,Nat.le_trans hb.size hbb⟩,hbl⟩
section
variable{w w':World}{h c n:Nat}{tb:List Bool}
end
end Bt
end Go.Proofs.YtmcbidhpkpmalaaGreatDoor
namespace Go.Proofs.YtmcbidhpkpmalaaGreatDoor
open Go.RowKit
open Go.Lib (hid)
open List (replicate)
namespace Po
open Mem Bt
structure Pw(W w:World)(q g b:Nat)(tb:List Bool):Prop where
 hd:w.heap[q]? =some (.cells #[g] 190 (0,0))
 rw:Rw W w g b tb
 hq:W.heap.size<=q
section
variable{W w w':World}{q g b:Nat}{tb tb':List Bool}
theorem Pw.lt(h:Pw W w q g b tb):q<w.heap.size:=(Array.getElem?_eq_some_iff.1 h.hd).1
theorem Pw.ne(h:Pw W w q g b tb):q≠g/\q≠b:=by obtain⟨c,ws,hw⟩:=h.rw.row;have hd:=h.hd;refine⟨?_,?_⟩;(. rintro rfl;rw[hw.hd]at hd;simp at hd);. rintro rfl;(obtain⟨_,h2⟩:=hw.ow;rcases h2 with⟨h2,_⟩|⟨g2,c2,Uw,e2,_,hh2,_⟩);(. cases h2);. (obtain⟨rfl,rfl⟩:q=g2/\c=c2:=by simpa using e2);rw[hh2]at hd;simp at hd
theorem Pw.cell(h:Pw W w q g b tb):w.cell? ⟨q,0,none⟩=some (.pointer (some ⟨g,0,none⟩)):=by have:=h.hd;simp[World.cell?,this]
theorem Pw.size(h:Pw W w q g b tb):W.heap.size<=w.heap.size:=h.rw.bel.size
theorem Pw.kept(h:Pw W w q g b tb)(hT:Tab W)(hb:Bw w w'):Pw W w' q g b tb:=⟨(hb.block q h.lt).trans h.hd,h.rw.kept hT hb,h.hq⟩
theorem Pw.into(h:Pw W w q g b tb)(hT:Tab W)(hi:Flow.Into [b] w w')(hr:fI w' g b tb'):Pw W w' q g b tb':=
 ⟨(hi.block q h.lt (by simpa using h.ne.2)).trans h.hd,h.rw.into hT hi hr,h.hq⟩
theorem Pw.len(h:Pw W w q g b tb):1<=tb.length/\tb.length<=65536:=h.rw.row.lt.2.2.2
end
theorem NR(q:Nat)(v:Value)(w:World)(h:w.cell? ⟨q,0,none⟩=some v):Calls Tryz.prog 166 #[q] w fun e w'=>e=.returned v/\w=w':=by go_enter Tryz.func166,Tryz.ntmps166;go_wp2;go_ret;exact⟨rfl,rfl⟩
theorem uw{W w:World}{q g b:Nat}{tb:List Bool}(h:Pw W w q g b tb):CW 166 #[q] w (.pointer (some ⟨g,0,none⟩)):=NR q _ w h.cell
theorem Hw{W w:World}{q g b:Nat}{tb:List Bool}(h:Pw W w q g b tb):CW 184 #[q] w (.int .i64 (cnt tb:Int)):=by have cR:=hid (uw h);have cC:=hid (Ec g b tb w h.rw.row);clear h;go_enter Tryz.func184,Tryz.ntmps184;go_wp2_with (first|(go_at_call 166;refine cR.mono ?_;rintro e w' ⟨rfl,rfl⟩)|(go_at_call 191;refine cC.mono ?_;rintro e w' ⟨rfl,rfl⟩));go_ret;exact⟨rfl,rfl⟩
theorem oU{W w:World}{q g b:Nat}{tb:List Bool}(h:Pw W w q g b tb):CW 167 #[q] w (.int .i64 (free tb:Int)):=by (have cR:=hid (uw h);have cL:=hid (kY g b tb w h.rw.row);have cH:=hid (Hw h);have hl:=h.len;have hc:=Nl tb;have hf:IntKind.i64.wrap ((tb.length:Int)-(cnt tb:Int))=(free tb:Int):=by unfold free;rw[IntKind.wrap_i64];omega);generalize tb.length=n at*;generalize cnt tb=c at*;generalize free tb=f at*;clear h hl hc;go_enter Tryz.func167,Tryz.ntmps167;go_wp2_with (first|(go_at_call 166;refine cR.mono ?_;rintro e w' ⟨rfl,rfl⟩)|(go_at_call 183;refine cL.mono ?_;rintro e w' ⟨rfl,rfl⟩)|(go_at_call 184;refine cH.mono ?_;rintro e w' ⟨rfl,rfl⟩));go_ret;exact⟨rfl,rfl⟩
def tbN(n:Nat):List Bool:=(replicate n false).set 0 true
theorem K7(n:Nat):(tbN n).length=n:=by simp[tbN]
theorem mq(W w:World)(hT:Tab W)(hb:Bw W w)(n:Nat)(h0:5<=n)(h1:n<=65536):Calls Tryz.prog 94 #[(n:Int)] w fun e w'=>∃q g b,e=.returned (.tuple #[(q:Nat),(0:Int)])/\Pw W w' q g b (tbN n):=by have cN:=hid (NQ W w hT hb n (by omega) h1);have HT:=hid hT;(have cS:∀w1 g b,Rw W w1 g b (replicate n false)->Hid (Calls Tryz.prog 135 #[(g:Nat),(0:Int)] w1 fun e w'=>e=.returned (0:Int)/\Rw W w' g b (tbN n)/\Flow.Into [b] w1 w'):=fun w1 g b hr=>by (have e1:Gh (replicate n false) 0=0:=by unfold Gh;rw[show(0:Int)=((0:Nat):Int)from rfl,in_lt (by simp;omega),xJ];simp[List.getD,show 0<n by omega]);(have e2:BZ (replicate n false) 0=tbN n:=by unfold BZ;rw[show(0:Int)=((0:Nat):Int)from rfl,in_lt (by simp;omega)];rfl);have:=hr.Set hT 0;rw[e1,e2]at this;exact this);generalize replicate n false=t0 at*;generalize tbN n=t1 at*;clear hT hb;go_enter Tryz.func94,Tryz.ntmps94;go_upto_region 6 with(first|(go_at_call 134;refine cN.mono ?_;rintro e w1 ⟨g,b,rfl,hr,-⟩;have HR1:=hid hr;clear hr));(have hb2:Bw w1 (w1.alloc (.cells #[g] 190)):=bAx;have HR2:=hid (HR1.kept HT.out hb2);have HQ:Hid ((w1.alloc (.cells #[g] 190)).heap[w1.heap.size]? =some (.cells #[g] 190 (0,0))):=by unfold Hid;rw[heap_alloc_new]);(have HL:Hid (w1.heap.size<(w1.alloc (.cells #[g] 190)).heap.size/\b<w1.heap.size):=by unfold Hid;exact⟨by simp,HR1.row.lt.2.1⟩);clear hb2;go_wp2_with (go_at_call 135;refine(cS _ g b HR2.out).mono ?_;rintro e w3 ⟨rfl,hr,hi⟩;have HR3:=hid hr;have HI:=hid hi;clear hr hi);refine bodyPost_ret (v:= .tuple #[w1.heap.size,(0:Int)]) (by simp[results,Tryz.results94,go_sem]) rfl ⟨w1.heap.size,g,b,rfl,⟨?_,HR3.out,HR1.bel.size⟩⟩;rw[HI.block w1.heap.size HL.1 (by have:=HL.2;simp;omega)];exact HQ.out
end Po
end Go.Proofs.YtmcbidhpkpmalaaGreatDoor
namespace Go.Proofs.YtmcbidhpkpmalaaGreatDoor
open Go.RowKit
open Go.Lib (hid)
namespace Po
open Mem Bt
section
variable{W w w':World}{q g b a:Nat}{tb:List Bool}
theorem Pw.far(h:Pw W w q g b tb)(hT:Tab W)(hi:Flow.Into [a] w w')(ha:q≠a/\g≠a/\b≠a)(hW:W.heap.size<=a):Pw W w' q g b tb:=by have h1:=nL h.rw.bel hi (by simpa using hW) h.rw.bel.size;exact⟨(hi.block q h.lt (by simpa using ha.1)).trans h.hd,⟨h.rw.row.into hi (by simpa using ha.2.1) (by simpa using ha.2.2),hT.below h1,h1,h.rw.hg,h.rw.hb⟩,h.hq⟩
theorem Pw.lts(h:Pw W w q g b tb):q<w.heap.size/\g<w.heap.size/\b<w.heap.size/\W.heap.size<=b:=⟨h.lt,h.rw.row.lt.1,h.rw.row.lt.2.1,h.rw.hb⟩
end
theorem Ee{W w:World}{q g b:Nat}{tb:List Bool}(h:Pw W w q g b tb)(k:Int)(hk:0<=k)(hf:(free tb:Int)<k):CW 137 #[q,k] w (.tuple #[(),(11:Int)]):=by have cR:=hid (uw h);have cF:=hid (oU h);generalize free tb=f at*;clear h;go_enter Tryz.func137,Tryz.ntmps137;go_wp2_with (first|(go_at_call 166;refine cR.mono ?_;rintro e w' ⟨rfl,rfl⟩)|(go_at_call 167;refine cF.mono ?_;rintro e w' ⟨rfl,rfl⟩));exact bodyPost_ret (v:= .tuple #[(),(11:Int)]) (by simp[results,Tryz.results137,go_sem]) rfl ⟨rfl,rfl⟩
def part(l:List Nat)(d:Nat):List Value:=l.map Qa++List.replicate d (.int .u32 0)
theorem zG(l:List Nat)(d:Nat):(part l d).length=l.length+d:=by simp[part]
theorem K8(l:List Nat)(d j:Nat)(h:j<(part l d).length)(hj:l.length<=j):(part l d)[j]= .int .u32 0:=by (have e:(part l d)[j]? =some (.int .u32 0):=by have h':=h;rw[zG]at h';unfold part;rw[List.getElem?_append_right (by simpa using hj)];simp only[List.getElem?_replicate,List.length_map];rw[if_pos (by omega)]);rw[List.getElem?_eq_getElem h]at e;exact Option.some.inj e
theorem Hy(l:List Nat)(d r:Nat):(part l (d+1)).set l.length (.int .u32 (r:Int))=part (l++[r]) d:=by unfold part;rw[List.set_append_right _ _ (by simp),List.map_append];simp[List.replicate_succ,Qa]
structure Rnd(W w1 wr:World)(q g b c k:Nat)(tb:List Bool)(j a p:Nat):Prop where
 pw:Pw W wr q g b (fill tb p)
 ow:Ow 30 wr c k (part (frs tb p) (k-j))
 io:Flow.Into [b,c] w1 wr
 hp:p<=tb.length
 hl:(frs tb p).length=j
 ha:a<=p
 hf:∀m,a<=m->m<p->(fill tb p).getD m false=true
theorem Rnd.next{W w1 wr:World}{q g b c k:Nat}{tb:List Bool}{j a p:Nat}(H:Rnd W w1 wr q g b c k tb j a p)(hT:Tab W)(hj:j<k)(hk:k<=free tb)(hc:q≠c/\g≠c/\b≠c/\W.heap.size<=c):
 ∃r:Nat,r<65536/\Calls Tryz.prog 168 #[g,(a:Int)] wr (fun e w'=>e=.returned (.tuple #[(r:Int),.bool true])/\wr=w')/\
  Calls Tryz.prog 135 #[g,(r:Int)] wr (fun e w'=>∃x,e=.returned (x:Int)/\w'.cell? ⟨q,0,none⟩=some (.pointer (some ⟨g,0,none⟩))/\w'.cell? ⟨c,j,none⟩=some (.int .u32 0)/\w'.frozen? ⟨c,j,none⟩=false/\Rnd W w1 (w'.setCell ⟨c,j,none⟩ (.int .u32 (r:Int))) q g b c k tb (j+1) r (r+1)):=by
 obtain⟨r,h1,h2,h3,h4,h5,h6⟩:=C9 H.hp H.ha H.hf (by rw[H.hl];exact hj) hk;have hlen:=H.pw.len.2;rw[dX]at hlen;have ha:=H.ha;have hp:=H.hp;refine⟨r,by omega,?_,?_⟩
 . have:=H.pw.rw.Free (a:Int) (by omega)
   rw[h3]at this;exact this
 . refine(Bt.Eb g b r (fill tb p) wr H.pw.rw.row).mono fun e w' ⟨he,hr,hi⟩=>⟨_,he,?_⟩
   have e1:BZ (fill tb p) (r:Int)=fill tb (r+1):=by
    unfold BZ;rw[in_lt (by rw[dX];exact h2)];exact h5
   rw[e1]at hr;have hp1:=H.pw.into hT hi hr;have ho1:=H.ow.into hi (by simpa using fun e=>hc.2.2.1 e.symm);obtain⟨d,hd⟩:∃d,k-j=d+1:=⟨k-j-1,by omega⟩
   have hd':k-(j+1)=d:=(by omega);have hlp:j<(part (frs tb p) (k-j)).length:=(by rw[zG,H.hl];omega);obtain⟨ho2,hi2⟩:=ho1.set j (.int .u32 (r:Int))
   have e2:(part (frs tb p) (k-j)).set j (.int .u32 (r:Int))=part (frs tb (r+1)) (k-(j+1)):=by
    have:=Hy (frs tb p) d r;rw[H.hl]at this;rw[hd,hd',this,h6]
   rw[e2]at ho2;refine⟨hp1.cell,?_,ho1.free j,⟨hp1.far hT hi2 ⟨hc.1,hc.2.1,hc.2.2.1⟩ hc.2.2.2,ho2,?_,by omega,by rw[h6,List.length_append,H.hl];rfl,by omega,fun m h7 h8=>?_⟩⟩
   . rw[ho1.cell hlp,K8 _ _ _ hlp (by rw[H.hl];exact Nat.le_refl _)]
   . exact(H.io.trans (hi.mono (by simp))).trans (hi2.mono (by simp))
   . obtain rfl:m=r:=by omega
     exact Kz tb m h2
theorem K9{W w:World}{q g b:Nat}{tb:List Bool}(h:Pw W w q g b tb)(hT:Tab W)(k:Nat)(hf:k<=free tb):Calls Tryz.prog 137 #[q,(k:Int)] w fun e w'=>
 ∃c t l,e=.returned (.tuple #[.slice (some (c:Nat)) k k,(0:Int)])/\Got tb k t l/\Pw W w' q g b t/\Ow 30 w' c k (l.map Qa)/\w.heap.size<=c/\Flow.Into [b] w w':=by
 have HP:=hid h;have HT:=hid hT;have cR:=hid (uw h);have cF:=hid (oU h);have hle:=h.len;have hfr:free tb<=tb.length:=by unfold free;omega
 have hk1:k<=65536:=by omega
 have hF:decide (free tb<k)=false:=by simp;omega
 have HF:=hid hf;have hmk:=fun w=>fP (P:=Tryz.prog) Tryz.underlying36 Kh rfl (by omega) k (by omega) w;generalize hfv:free tb=f at cF hF;clear h hT hle hfr hf hfv;go_enter Tryz.func137,Tryz.ntmps137
 go_upto_region 8 with(first
  |(go_at_call 166;refine cR.mono ?_;rintro e w' ⟨rfl,rfl⟩)
  |(go_at_call 167;refine cF.mono ?_;rintro e w' ⟨rfl,rfl⟩))
 have HB:Hid (Bw w (w.alloc (.cells (Array.replicate k (.int .u32 0)) 30))):=bAx
 have HO:Hid (Ow 30 (w.alloc (.cells (Array.replicate k (.int .u32 0)) 30)) w.heap.size k (List.replicate k (.int .u32 0))):=by
  unfold Hid;have:=xE 30 w (.int .u32 0) k (by omega);simpa using this
 generalize w.alloc (.cells (Array.replicate k (.int .u32 0)) 30)=w1 at*;have HP1:=hid (HP.kept HT.out HB.out);obtain⟨c,hc⟩:=eX w.heap.size;have HC:=hid hc
 have HN:Hid (q≠c/\g≠c/\b≠c/\W.heap.size<=c):=by
  have:=HP.lts;have:=HP.size;unfold Hid;omega
 rw[<-hc]at HO;rw[<-hc];have H0:Hid (Rnd W w1 w1 q g b c k tb 0 0 0):=⟨HP1.out,HO.out,Flow.Into.refl _ _,Nat.zero_le _,rfl,Nat.le_refl _,fun m h1 h2=>by omega⟩;clear hc HO cR cF hmk
 go_wp2
 go_loopw [7,24] (fun x i wr=>∃j a p:Nat,j<=k/\i= .int .i64 (j:Int)/\x= .int .i64 (a:Int)/\Hid (Rnd W w1 wr q g b c k tb j a p)) (fun _ i _=>k-(intOf i).toNat)
 case atStart=>exact⟨0,0,0,Nat.zero_le _,rfl,rfl,H0⟩
 case round=>
  obtain⟨j,a,p,hj,rfl,rfl,HR⟩:=hrel;clear H0 HP1;by_cases hlt:j<k
  . obtain⟨r,hr,cF,cS⟩:=HR.next HT.out hlt HF.out HN.out
    have CF:=hid cF;have CS:=hid cS;have d0:=HR.pw.cell;have hw:IntKind.u32.wrap (r:Int)=(r:Int):=(by rw[IntKind.wrap_u32];omega);clear cF cS
    go_wp2_with (first
     |(go_at_call 168;refine CF.mono ?_;rintro e w' ⟨rfl,rfl⟩)
     |(go_at_call 135;refine CS.mono ?_;rintro e w2 ⟨x,rfl,d1,d2,d3,hrn⟩;have HR2:=hid hrn;clear hrn d0))
    exact⟨⟨j+1,r,r+1,hlt,by go_num,rfl,HR2⟩,by simp[intOf];omega⟩
  . obtain rfl:j=k:=by omega
    go_wp2_with fail
    refine bodyPost_ret (v:= .tuple #[.slice (some c) j j,(0:Int)]) (by simp[results,Tryz.results137,go_sem]) rfl ⟨c,fill tb p,frs tb p,rfl,⟨p,HR.hp,rfl,rfl,HR.hl⟩,HR.pw,?_,by rw[HC.out];exact Nat.le_refl _,?_⟩
    . have:=HR.ow
      rw[Nat.sub_self]at this;simpa[part]using this
    . have h1:=(Flow.Into.of_below HB.out).trans (HR.io.mono (S':=[b,c]) (by simp))
      exact⟨h1.os,h1.tape,h1.output,h1.size,fun m hm hn=>h1.block m hm (by have:=HC.out;simp at hn ⊢;omega)⟩
end Po
namespace Po
open Mem Bt
theorem Ef{W w:World}{q g b:Nat}{tb:List Bool}(h:Pw W w q g b tb)(hf:free tb=0):CW 97 #[q] w (.tuple #[.int .u32 0,(11:Int)]):=by have cG:=hid (Ee h 1 (by omega) (by omega));clear h;go_enter Tryz.func97,Tryz.ntmps97;go_wp2_with (go_at_call 137;refine cG.mono ?_;rintro e w' ⟨rfl,rfl⟩);exact bodyPost_ret (v:= .tuple #[.int .u32 0,(11:Int)]) (by simp[results,Tryz.results97,go_sem]) rfl ⟨rfl,rfl⟩
theorem La{W w:World}{q g b:Nat}{tb:List Bool}(h:Pw W w q g b tb)(hT:Tab W)(hf:1<=free tb):Calls Tryz.prog 97 #[q] w fun e w'=>
 ∃(t:List Bool) (x:Nat),e=.returned (.tuple #[.int .u32 (x:Int),(0:Int)])/\Got tb 1 t [x]/\Pw W w' q g b t/\Flow.Into [b] w w':=by
 have cG:=hid (K9 h hT 1 hf);clear h;go_enter Tryz.func97,Tryz.ntmps97
 go_upto_region 2 with(go_at_call 137;refine cG.mono ?_;rintro e w1 ⟨c,t,l,rfl,hg,hp,ho,-,hi⟩)
 obtain⟨x,rfl⟩:∃x,l=[x]:=List.length_eq_one_iff.1 hg.len.2
 have hc:w1.cell? ⟨c,0,none⟩=some (.int .u32 (x:Int)):=ho.cell (i:=0) (by simp);have HP:=hid hp;have HG:=hid hg;have HI:=hid hi;clear hp hg hi ho cG;go_wp2_with fail
 exact bodyPost_ret (v:= .tuple #[.int .u32 (x:Int),(0:Int)]) (by simp[results,Tryz.results97,go_sem]) rfl ⟨t,x,rfl,HG.out,HP.out,HI.out⟩
end Po
end Go.Proofs.YtmcbidhpkpmalaaGreatDoor
namespace Go.Proofs.YtmcbidhpkpmalaaGreatDoor
open Go.RowKit
open Go.Lib (hid)
open IntKind (wrap_i64)
namespace Cf
theorem aU{w:World}{b:Nat}{v0 v1 v2 v3 v4 v5 v6 v7:Value}{U:TypeId}(h:w.heap[b]? =some (.cells #[v0,v1,v2,v3,v4,v5,v6,v7] U (0,0))):w.cell? ⟨b,0,none⟩=some v0/\w.cell? ⟨b,1,none⟩=some v1/\w.cell? ⟨b,2,none⟩=some v2/\w.cell? ⟨b,3,none⟩=some v3/\w.cell? ⟨b,4,none⟩=some v4/\w.cell? ⟨b,5,none⟩=some v5/\w.cell? ⟨b,6,none⟩=some v6/\w.cell? ⟨b,7,none⟩=some v7:=by simp[World.cell?,h]
theorem gZ{w w':World}{b:Nat}{o:Obj}(h:w.heap[b]? =some o)(hb:Bw w w'):w'.heap[b]? =some o:=(hb.block b (Array.getElem?_eq_some_iff.1 h).1).trans h
theorem kJ{W w w':World}(h:Bw W w)(hb:Bw w w'):Bw W w':=h.trans (hb.mono h.size)
theorem jA(n lo hi:Int)(W:World)(h1:lo<=n)(h2:n<=hi):CB 87 #[n,lo,hi] W (.bool true):=by go_enter Tryz.func87,Tryz.ntmps87;go_wp2;go_ret;exact⟨rfl,Below.refl _ _⟩
theorem oK(n lo hi:Int)(W:World)(h:¬(lo<=n/\n<=hi)):CB 87 #[n,lo,hi] W (.bool false):=by by_cases h1:lo<=n;(. (have h2:decide (n<=hi)=false:=by simp;omega);clear h;go_enter Tryz.func87,Tryz.ntmps87;go_wp2;go_ret;exact⟨rfl,Below.refl _ _⟩);. (have h1:n<lo:=by omega);clear h;go_enter Tryz.func87,Tryz.ntmps87;go_wp2;go_ret;exact⟨rfl,Below.refl _ _⟩
def Shape(fa bu le ke va:Int):Prop:=(8<=fa/\fa<=64)/\(2*fa<=bu/\bu<=512)/\(bu<=le/\le<=1024)/\(1<=ke/\ke<=64)/\(0<=va/\va<=256)
theorem gB(b y fr fa bu le ke va:Int)(W:World)(h:Shape fa bu le ke va):CB 86 #[.agg #[b,y,fr,fa,bu,le,ke,va]] W (.bool true):=by (obtain⟨⟨h1,h1'⟩,⟨h2,h2'⟩,⟨h3,h3'⟩,⟨h4,h4'⟩,h5,h5'⟩:=h;have hw:IntKind.i64.wrap (2*fa)=2*fa:=by rw[wrap_i64];omega);go_enter Tryz.func86,Tryz.ntmps86;go_upto_region 1 with fail;have hx:=heap_alloc_new W (.cells #[b,y,fr,fa,bu,le,ke,va] 23);have hb1:Bw W (W.alloc (.cells #[b,y,fr,fa,bu,le,ke,va] 23)):=bAx;obtain⟨g,hg⟩:=eX W.heap.size;generalize W.alloc (.cells #[b,y,fr,fa,bu,le,ke,va] 23)=w1 at*;rw[<-hg]at hx ⊢;have HX:=hid hx;have HB:=hid hb1;obtain⟨c0,c1,c2,c3,c4,c5,c6,c7⟩:=aU hx;clear hx hb1 hg;go_wp2_with (go_at_call 87;(first|(refine(jA _ _ _ _ (by omega) (by omega)).mono ?_)|(refine(oK _ _ _ _ (by omega)).mono ?_));rintro e w' ⟨rfl,hb⟩;replace HX:=hid (gZ HX.out hb);replace HB:=hid (kJ HB.out hb);clear hb;obtain⟨c0,c1,c2,c3,c4,c5,c6,c7⟩:=aU HX.out);go_ret;exact⟨rfl,HB.out⟩
theorem Hz(b y fr fa bu le ke va:Int)(W:World)(h:¬Shape fa bu le ke va):CB 86 #[.agg #[b,y,fr,fa,bu,le,ke,va]] W (.bool false):=by by_cases nfa:8<=fa/\fa<=64;(case neg=>clear h;go_enter Tryz.func86,Tryz.ntmps86;go_upto_region 1 with fail;have hx:=heap_alloc_new W (.cells #[b,y,fr,fa,bu,le,ke,va] 23);have hb1:Bw W (W.alloc (.cells #[b,y,fr,fa,bu,le,ke,va] 23)):=bAx;obtain⟨g,hg⟩:=eX W.heap.size;generalize W.alloc (.cells #[b,y,fr,fa,bu,le,ke,va] 23)=w1 at*;rw[<-hg]at hx ⊢;have HX:=hid hx;have HB:=hid hb1;obtain⟨c0,c1,c2,c3,c4,c5,c6,c7⟩:=aU hx;clear hx hb1 hg;go_wp2_with (go_at_call 87;(first|(refine(jA _ _ _ _ (by omega) (by omega)).mono ?_)|(refine(oK _ _ _ _ (by omega)).mono ?_));rintro e w' ⟨rfl,hb⟩;replace HX:=hid (gZ HX.out hb);replace HB:=hid (kJ HB.out hb);clear hb;obtain⟨c0,c1,c2,c3,c4,c5,c6,c7⟩:=aU HX.out);go_ret;exact⟨rfl,HB.out⟩);by_cases nke:1<=ke/\ke<=64;(case neg=>(have hw:IntKind.i64.wrap (2*fa)=2*fa:=by rw[wrap_i64];omega);clear h;obtain⟨mfa,Lc⟩:=nfa;go_enter Tryz.func86,Tryz.ntmps86;go_upto_region 1 with fail;have hx:=heap_alloc_new W (.cells #[b,y,fr,fa,bu,le,ke,va] 23);have hb1:Bw W (W.alloc (.cells #[b,y,fr,fa,bu,le,ke,va] 23)):=bAx;obtain⟨g,hg⟩:=eX W.heap.size;generalize W.alloc (.cells #[b,y,fr,fa,bu,le,ke,va] 23)=w1 at*;rw[<-hg]at hx ⊢;have HX:=hid hx;have HB:=hid hb1;obtain⟨c0,c1,c2,c3,c4,c5,c6,c7⟩:=aU hx;clear hx hb1 hg;go_wp2_with (go_at_call 87;(first|(refine(jA _ _ _ _ (by omega) (by omega)).mono ?_)|(refine(oK _ _ _ _ (by omega)).mono ?_));rintro e w' ⟨rfl,hb⟩;replace HX:=hid (gZ HX.out hb);replace HB:=hid (kJ HB.out hb);clear hb;obtain⟨c0,c1,c2,c3,c4,c5,c6,c7⟩:=aU HX.out);go_ret;exact⟨rfl,HB.out⟩);by_cases nva:0<=va/\va<=256;(case neg=>(have hw:IntKind.i64.wrap (2*fa)=2*fa:=by rw[wrap_i64];omega);clear h;obtain⟨mfa,Lc⟩:=nfa;obtain⟨mke,Qv⟩:=nke;go_enter Tryz.func86,Tryz.ntmps86;go_upto_region 1 with fail;have hx:=heap_alloc_new W (.cells #[b,y,fr,fa,bu,le,ke,va] 23);have hb1:Bw W (W.alloc (.cells #[b,y,fr,fa,bu,le,ke,va] 23)):=bAx;obtain⟨g,hg⟩:=eX W.heap.size;generalize W.alloc (.cells #[b,y,fr,fa,bu,le,ke,va] 23)=w1 at*;rw[<-hg]at hx ⊢;have HX:=hid hx;have HB:=hid hb1;obtain⟨c0,c1,c2,c3,c4,c5,c6,c7⟩:=aU hx;clear hx hb1 hg;go_wp2_with (go_at_call 87;(first|(refine(jA _ _ _ _ (by omega) (by omega)).mono ?_)|(refine(oK _ _ _ _ (by omega)).mono ?_));rintro e w' ⟨rfl,hb⟩;replace HX:=hid (gZ HX.out hb);replace HB:=hid (kJ HB.out hb);clear hb;obtain⟨c0,c1,c2,c3,c4,c5,c6,c7⟩:=aU HX.out);go_ret;exact⟨rfl,HB.out⟩);by_cases nbu:2*fa<=bu/\bu<=512;(case neg=>(have hw:IntKind.i64.wrap (2*fa)=2*fa:=by rw[wrap_i64];omega);clear h;obtain⟨mfa,Lc⟩:=nfa;obtain⟨mke,Qv⟩:=nke;obtain⟨mva,Te⟩:=nva;go_enter Tryz.func86,Tryz.ntmps86;go_upto_region 1 with fail;have hx:=heap_alloc_new W (.cells #[b,y,fr,fa,bu,le,ke,va] 23);have hb1:Bw W (W.alloc (.cells #[b,y,fr,fa,bu,le,ke,va] 23)):=bAx;obtain⟨g,hg⟩:=eX W.heap.size;generalize W.alloc (.cells #[b,y,fr,fa,bu,le,ke,va] 23)=w1 at*;rw[<-hg]at hx ⊢;have HX:=hid hx;have HB:=hid hb1;obtain⟨c0,c1,c2,c3,c4,c5,c6,c7⟩:=aU hx;clear hx hb1 hg;go_wp2_with (go_at_call 87;(first|(refine(jA _ _ _ _ (by omega) (by omega)).mono ?_)|(refine(oK _ _ _ _ (by omega)).mono ?_));rintro e w' ⟨rfl,hb⟩;replace HX:=hid (gZ HX.out hb);replace HB:=hid (kJ HB.out hb);clear hb;obtain⟨c0,c1,c2,c3,c4,c5,c6,c7⟩:=aU HX.out);go_ret;exact⟨rfl,HB.out⟩);by_cases nle:bu<=le/\le<=1024;(case neg=>(have hw:IntKind.i64.wrap (2*fa)=2*fa:=by rw[wrap_i64];omega);clear h;obtain⟨mfa,Lc⟩:=nfa;obtain⟨mke,Qv⟩:=nke;obtain⟨mva,Te⟩:=nva;obtain⟨mbu,Qw⟩:=nbu;go_enter Tryz.func86,Tryz.ntmps86;go_upto_region 1 with fail;have hx:=heap_alloc_new W (.cells #[b,y,fr,fa,bu,le,ke,va] 23);have hb1:Bw W (W.alloc (.cells #[b,y,fr,fa,bu,le,ke,va] 23)):=bAx;obtain⟨g,hg⟩:=eX W.heap.size;generalize W.alloc (.cells #[b,y,fr,fa,bu,le,ke,va] 23)=w1 at*;rw[<-hg]at hx ⊢;have HX:=hid hx;have HB:=hid hb1;obtain⟨c0,c1,c2,c3,c4,c5,c6,c7⟩:=aU hx;clear hx hb1 hg;go_wp2_with (go_at_call 87;(first|(refine(jA _ _ _ _ (by omega) (by omega)).mono ?_)|(refine(oK _ _ _ _ (by omega)).mono ?_));rintro e w' ⟨rfl,hb⟩;replace HX:=hid (gZ HX.out hb);replace HB:=hid (kJ HB.out hb);clear hb;obtain⟨c0,c1,c2,c3,c4,c5,c6,c7⟩:=aU HX.out);go_ret;exact⟨rfl,HB.out⟩);exact absurd ⟨nfa,nbu,nle,nke,nva⟩ h
end Cf
end Go.Proofs.YtmcbidhpkpmalaaGreatDoor
namespace Go.Proofs.YtmcbidhpkpmalaaGreatDoor
open Go.RowKit
namespace Cf
def inn(fa bu ke va:Int):Int:=8+4*fa+(fa-1)*(1+ke)+bu*(4+ke+va)
def out(le ke va:Int):Int:=8+le*(3+ke+va)
theorem vV{a c A C:Int}(h0:0<=a)(h1:a<=A)(h2:0<=c)(h3:c<=C):0<=a*c/\a*c<=A*C:=
 ⟨Int.mul_nonneg h0 h2,Int.mul_le_mul h1 h3 h2 (Int.le_trans h0 h1)⟩
def few(fa bu le ke va:Int):Int:=max (max 64 (inn fa bu ke va)) (out le ke va)
def Right(b y fr fa bu le ke va:Int):Prop:=Shape fa bu le ke va/\(5<=b/\b<=65536)/\(8<=fr/\fr<=64)/\(few fa bu le ke va<=y/\y<=65536)
end Cf
end Go.Proofs.YtmcbidhpkpmalaaGreatDoor
namespace Go.Proofs.YtmcbidhpkpmalaaGreatDoor
open Go.RowKit
open List (append_assoc length_append range)
namespace No
open Mem Lx Bu Lf Fa
open Wd (be val aB eG)
def ji(c:Cfg)(key v:ByteArray):List UInt8:=be 1 key.size++(be 2 v.size++(slotL (txt key) c.key++slotL (txt v) c.val))
def pvL(c:Cfg)(p:ByteArray):List UInt8:=be 1 p.size++slotL (txt p) c.key
def qC(d:Bool):UInt8:=if d then 2 else 1
def msL(c:Cfg)(m:Mg):List UInt8:=[qC m.2.1]++ji c m.1 m.2.2
def mE(c:Cfg)(n:Nd):List UInt8:=[1,0]++(be 2 n.prs.length++(zs 4++n.prs.flatMap fun x=>ji c x.1 x.2))
def yg(c:Cfg)(n:Nd):List UInt8:=[2]++(be 1 n.lv.toNat++(be 2 n.kids.length++(be 2 n.buf.length++(zs 2++(n.kids.flatMap (be 4)++(zs (4*(c.fan-n.kids.length))++(n.piv.flatMap (pvL c)++(zs ((1+c.key)*(c.fan-1-n.piv.length))++n.buf.flatMap (msL c)))))))))
def nM(c:Cfg)(n:Nd):List UInt8:=if n.lv=0 then mE c n else yg c n
def aK(c:Cfg)(n:Nd):List UInt8:=slotL (nM c n) c.bytes
def dh(c:Cfg)(n:Nd):Prop:=Cf.Right c.blocks c.bytes c.frames c.fan c.buffer c.leaf c.key c.val/\jR c ⟨#[]⟩ ⟨#[]⟩ true n
def PE(c:Cfg)(b:List UInt8)(i:Nat):Pr:=(strOf (KE b (i+3) (atL b i 1)),strOf (KE b (i+3+c.key.toNat) (atL b (i+1) 2)))
theorem Eh{c:Cfg}{b R:List UInt8}{i:Nat}{key v:ByteArray}(h:b.drop i=ji c key v++R)(hk:key.size<256)(hv:v.size<65536)(hk2:(key.size:Int)<=c.key):PE c b i=(key,v):=by unfold ji at h;simp only[append_assoc]at h;have h1:=eH h (aB 1 _);have h2:=eH h1 (aB 2 _);have h3:=eH h2 (dR (by rw[fG];exact hk2));unfold PE;rw[vK h (by omega),vK h1 (by omega)];refine Prod.ext ?_ ?_;(. exact tC h2);. exact tC h3
def PG(b:List UInt8)(i:Nat):ByteArray:=strOf (KE b (i+1) (atL b i 1))
theorem NS{c:Cfg}{b R:List UInt8}{i:Nat}{p:ByteArray}(h:b.drop i=pvL c p++R)(hk:p.size<256):PG b i=p:=by unfold pvL at h;simp only[append_assoc]at h;have h1:=eH h (aB 1 _);unfold PG;rw[vK h (by omega)];exact tC h1
def PI(c:Cfg)(b:List UInt8)(i:Nat):Mg:=(strOf (KE b (i+4) (atL b (i+1) 1)),decide (atL b i 1=2),strOf (KE b (i+4+c.key.toNat) (atL b (i+2) 2)))
theorem NT{c:Cfg}{b R:List UInt8}{i:Nat}{m:Mg}(h:b.drop i=msL c m++R)(hk:m.1.size<256)(hv:m.2.2.size<65536)(hk2:(m.1.size:Int)<=c.key):PI c b i=m:=by unfold msL at h;simp only[append_assoc]at h;have h1:=eH (j:=1) h rfl;have hp:=Eh h1 hk hv hk2;(have hd:atL b i 1=(qC m.2.1).toNat:=by unfold atL;rw[h];simp[val]);obtain⟨key,d,v⟩:=m;unfold PE at hp;unfold PI;simp only[Prod.mk.injEq]at hp ⊢;rw[hd];refine⟨by rw[show i+4=i+1+3 by omega];exact hp.1,?_,by rw[show i+4+c.key.toNat=i+1+3+c.key.toNat by omega,show i+2=i+1+1 by omega];exact hp.2⟩;cases d<;>rfl
theorem mF{c:Cfg}{key v:ByteArray}(hk:(key.size:Int)<=c.key)(hv:(v.size:Int)<=c.val):(ji c key v).length=3+c.key.toNat+c.val.toNat:=by unfold ji;simp only[length_append,aB];rw[dR (by rw[fG];exact hk),dR (by rw[fG];exact hv)];omega
theorem yh{c:Cfg}{p:ByteArray}(hk:(p.size:Int)<=c.key):(pvL c p).length=1+c.key.toNat:=by unfold pvL;simp only[length_append,aB];rw[dR (by rw[fG];exact hk)]
theorem yj{c:Cfg}{m:Mg}(hk:(m.1.size:Int)<=c.key)(hv:(m.2.2.size:Int)<=c.val):(msL c m).length=4+c.key.toNat+c.val.toNat:=by unfold msL;rw[length_append,mF hk hv];simp;omega
def Ei(cnt i S len:Nat):Nat:=min cnt ((len-i) / S)
theorem zH{cnt i S len:Nat}(hS:0<S)(h:i+cnt*S<=len):Ei cnt i S len=cnt:=by unfold Ei;refine Nat.min_eq_left ((Nat.le_div_iff_mul_le hS).2 (by omega))
theorem mG{α:Type}{L:List α}{g:Nat->α}(h:∀k x,L[k]? =some x->g k=x):(range L.length).map g=L:=by refine List.ext_getElem? fun k=>?_;rw[List.getElem?_map];rcases Nat.lt_or_ge k L.length with hk|hk;(. rw[List.getElem?_range hk,List.getElem?_eq_getElem hk,Option.map_some,h k _ (List.getElem?_eq_getElem hk)]);. rw[List.getElem?_eq_none (by simpa using hk),List.getElem?_eq_none hk];rfl
def Ej(c:Cfg)(b:List UInt8):Nd:=
 if atL b 1 1=0 then⟨0,[],[],[],(range (Ei (atL b 2 2) 8 (3+c.key.toNat+c.val.toNat) b.length)).map fun k=>PE c b (8+k*(3+c.key.toNat+c.val.toNat))⟩
 else⟨atL b 1 1,(range (min (atL b 2 2) c.fan.toNat)).map fun k=>atL b (8+k*4) 4,(range (min (atL b 2 2-1) (c.fan.toNat-1))).map fun k=>PG b (8+4*c.fan.toNat+k*(1+c.key.toNat)),
  (range (Ei (atL b 4 2) (8+4*c.fan.toNat+(1+c.key.toNat)*(c.fan.toNat-1)) (4+c.key.toNat+c.val.toNat) b.length)).map fun k=>PI c b (8+4*c.fan.toNat+(1+c.key.toNat)*(c.fan.toNat-1)+k*(4+c.key.toNat+c.val.toNat)),[]⟩
end No
end Go.Proofs.YtmcbidhpkpmalaaGreatDoor
namespace Go.Proofs.YtmcbidhpkpmalaaGreatDoor
open Go.RowKit
open Go.Lib (hid)
namespace No
open Mem Lx Bu Lf Fa
open Wd (be val aB eG isW gK)
def Ld(c:Cfg)(v:Value):Array Value:= #[.int .i64 c.blocks,.int .i64 c.bytes,.int .i64 c.frames,.int .i64 c.fan,.int .i64 c.buffer,.int .i64 c.leaf,.int .i64 c.key,.int .i64 c.val,v]
abbrev Kw(B:Nat)(w w':World):Prop:=Kp 5 177 B w w'
structure Wr(c:Cfg)(B:Nat)(w:World)(g:Nat)(xs:List UInt8):Prop where
 at_:B<=g
 ex:∃v,w.heap[g]? =some (.cells (Ld c v) 177 (0,0))/\Own 5 w B v xs
section
variable{c:Cfg}{B g:Nat}{w w' w1:World}{xs ys:List UInt8}{v v':Value}
theorem Wr.lt(h:Wr c B w g xs):g<w.heap.size:=by obtain⟨v,h1,-⟩:=h.ex;exact(Array.getElem?_eq_some_iff.1 h1).1
theorem Wr.hB(h:Wr c B w g xs):B<=w.heap.size:=Nat.le_trans h.at_ (Nat.le_of_lt h.lt)
theorem Wr.kept(h:Wr c B w g xs)(hb:Bw w w'):Wr c B w' g xs:=by obtain⟨v,h1,h2⟩:=h.ex;exact⟨h.at_,v,bT h1 hb,h2.kept hb⟩
theorem oV(h1:w.heap[g]? =some (.cells (Ld c v) 177 (0,0)))(h2:Own 5 w B v xs)(hg:w.grownBy w1 v.ownBlock):w1.heap[g]? =some (.cells (Ld c v) 177 (0,0)):=
 (hg.block g (Array.getElem?_eq_some_iff.1 h1).1 fun e=>by
   obtain⟨-,C,hc⟩:=h2.row g e.symm;rw[h1]at hc;simp only[Option.some.injEq,Obj.cells.injEq]at hc
   exact absurd hc.2.1 (by decide)).trans h1
theorem El(hat:B<=g)(h1:w.heap[g]? =some (.cells (Ld c v) 177 (0,0)))(h2:Own 5 w B v xs)(hg:w.grownBy w1 v.ownBlock)(h3:Own 5 w1 B v' ys):Wr c B (w1.setCell ⟨g,8,none⟩ v') g ys/\Kw B w (w1.setCell ⟨g,8,none⟩ v'):=by have hB:=Nat.le_trans hat (Nat.le_of_lt (Array.getElem?_eq_some_iff.1 h1).1);have hx:=oV h1 h2 hg;exact⟨⟨hat,v',by simp[World.setCell,Array.getElem?_modify,hx,Ld],h3.aT hx (by decide) _⟩,(h2.grown hg hB).set hat hx (.inr rfl) _⟩
theorem fZ(h1:w.heap[g]? =some (.cells (Ld c v) 177 (0,0))):w.cell? ⟨g,8,none⟩=some v/\w.cell? ⟨g,3,none⟩=some (.int .i64 c.fan)/\w.cell? ⟨g,6,none⟩=some (.int .i64 c.key)/\w.cell? ⟨g,7,none⟩=some (.int .i64 c.val)/\w.frozen? ⟨g,8,none⟩=false:=by simp[World.cell?,World.frozen?,h1,Ld]
end
theorem gP(c:Cfg){B:Nat}{w:World}{g:Nat}{xs:List UInt8}(h:Wr c B w g xs)(n:Nat)(hx:xs.length+n<=1048576):Calls Tryz.prog 130 #[g,(n:Int)] w fun e w'=>e=.returned (.tuple #[])/\Wr c B w' g (xs++List.replicate n 0)/\Kw B w w':=by obtain⟨v,h1,h2⟩:=h.ex;have hat:=h.at_;have hB:=h.hB;have HX:=hid h1;have HO:=hid h2;obtain⟨c8,-,-,-,f8⟩:=fZ h1;clear h h1 h2;go_enter Tryz.func130,Tryz.ntmps130;go_wp2_with (refine kV rfl (.tmp 8) (.tmp 9) 26 3 9 rfl B 5 Tryz.underlying26 Tryz.underlying3 Tryz.underlying9 gK v xs rfl HO.out n rfl hx hB ?_;intro v' w1 HO1 hg;obtain⟨A',m',c',rfl⟩:=Own.sl HO1.out;have HA:=hid (El hat HX.out HO.out hg HO1.out);obtain⟨c8',-,-,-,f8'⟩:=fZ (oV HX.out HO.out hg);clear hg c8 f8);go_end0;exact⟨rfl,HA.out⟩
def Tf(n:Nat)(l:List UInt8)(v:Value)(w:World):Prop:=∃A c,v= .slice A n c/\BL w A l
theorem gM(c:Cfg){B:Nat}{w:World}{g:Nat}{xs:List UInt8}(h:Wr c B w g xs)(wd v:Nat)(hw:isW (wd:Int)=true)(hv:v<9223372036854775808)(hx:xs.length<=1048000):Calls Tryz.prog 160 #[g,(wd:Int),(v:Int)] w fun e w'=>e=.returned (.tuple #[])/\Wr c B w' g (xs++be wd v)/\Kw B w w':=by (obtain⟨u,h1,h2⟩:=h.ex;have hat:=h.at_;have hB:=h.hB;have HX:=hid h1;have HO:=hid h2;obtain⟨c8,-,-,-,-⟩:=fZ h1;have hwd:wd<=8:=by have:=Wd.pX hw;omega);(have cP:∀W,Hid (Calls Tryz.prog 182 #[(),(wd:Int),.int .u64 (v:Int)] W fun e w'=>(∃A k,e=.returned (.slice A wd k)/\BL w' A (be wd v))/\Bw W w'):=fun W=>by refine(Wd.Df none 0 [] wd v W (BL.nil _ _) (by simp) hw (by omega)).mono ?_;rintro e w' ⟨rfl,hr,hb⟩;rw[List.nil_append]at hr;rw[List.length_nil,Nat.zero_add];exact⟨⟨_,_,rfl,hr.bl⟩,hb⟩);(have hu:IntKind.u64.wrap (v:Int)=(v:Int):=by rw[IntKind.wrap_u64];omega);(have hsz:xs.length+wd<=140737488355328:=by omega);have HL:Hid ((be wd v).length=wd):=aB _ _;have td:=ah.tc c8;clear h h1 h2 hw hv hx hwd c8;go_enter Tryz.func160,Tryz.ntmps160;refine ah.ay [] [(0,[]),(1,[]),(2,[]),(3,[]),(4,[]),(5,[]),(6,[]),(7,[]),(8,[])] [8] [] [0] (by kernel_rfl) (by kernel_rfl) (by simp) ?_;simp only[ah.pick,ah.aM,ah.dL];refine ah.au rfl (.pointer (some ⟨g,0,none⟩)) (fun W=>by go_simp) ?_;(repeat (refine ah.ak (fun K hK=>?_);go_simp;(refine hK _ ?_;clear hK K)));refine ah.aJ rfl ah.aC (Tf wd (be wd v)) (fun W2 hk _=>?_) (fun y w2 hv hI _ hTd=>?_);(. go_simp;go_at_call 182;refine(cP _).mono ?_;rintro e w' ⟨⟨A,k,rfl,hbl⟩,hb⟩;exact⟨_,rfl,⟨_,_,rfl,hbl⟩,Flow.Into.of_below hb⟩);obtain⟨A,k,rfl,hbl⟩:=hv;refine ah.walk_nil ?_;intro w6 hb6 _;have hb:Bw w w6:=hI.below.trans (hb6.mono hI.below.size);have HK:Hid (Kw B w w6):=Kp.of_below hb hB;have HBL:=hid (hbl.below hb6);replace HX:=hid (bT HX.out hb);replace HO:=hid (HO.kept hb);have hB6:B<=w6.heap.size:=Nat.le_trans hB hb.size;clear hb hb6 hI hTd hbl td cP hu hB;simp only[lC,List.drop_zero,Nat.zero_add,Nat.reduceAdd];go_wp2_with (refine gU rfl (.tmp 10) (.tmp 14) 26 rfl B 5 Tryz.underlying26 gK u xs rfl HO.out A wd k (be wd v) rfl HL.out HBL.out hsz hB6 ?_;intro v' w1 HO1 hg _;obtain⟨A',m',c',rfl⟩:=Own.sl HO1.out;have HA:=hid (El hat HX.out HO.out hg HO1.out);obtain⟨c8',-,-,-,f8'⟩:=fZ (oV HX.out HO.out hg);clear hg);rw[Flow.aN];go_end0;exact⟨rfl,HA.1,HK.trans HA.2⟩
theorem jU(c:Cfg){B:Nat}{w:World}{g:Nat}{xs:List UInt8}(h:Wr c B w g xs)(s:ByteArray)(most:Nat)(hs:s.size<=most)(hx:xs.length+most<=1048000):Calls Tryz.prog 161 #[g,.string s,(most:Int)] w fun e w'=>e=.returned (.tuple #[])/\Wr c B w' g (xs++slotL (txt s) most)/\Kw B w w':=by obtain⟨u,h1,h2⟩:=h.ex;have hat:=h.at_;have hB:=h.hB;have HX:=hid h1;have HO:=hid h2;obtain⟨c8,-,-,-,-⟩:=fZ h1;obtain⟨d,hd⟩:=eX (most-s.size);(have hsl:slotL (txt s) most=txt s++List.replicate d 0:=by unfold slotL zs;rw[fG,hd];congr 2;omega);(have hsz:xs.length+s.size<=1048576:=by omega);(have hz:(xs++txt s).length+d<=1048576:=by rw[List.length_append,fG];omega);(have hsub:IntKind.i64.wrap ((most:Int)-(s.size:Int))=(d:Int):=by rw[IntKind.wrap_i64];omega);rw[hsl,<-List.append_assoc];clear h h1 h2 hs hsl hd hx;go_enter Tryz.func161,Tryz.ntmps161;go_upto_region 1 with(refine wpList_append_text rfl (.tmp 10) (.tmp 11) 26 9 rfl B 5 Tryz.underlying26 Tryz.underlying9 gK u xs rfl HO.out s rfl hsz hB ?_;intro v' w1 HO1 hg;obtain⟨A',m',c',rfl⟩:=Own.sl HO1.out;have HA:=hid (El hat HX.out HO.out hg HO1.out);obtain⟨c8',-,-,-,f8'⟩:=fZ (oV HX.out HO.out hg);clear hg c8);clear HO1 c8' f8';generalize w1.setCell ⟨g,8,none⟩ (.slice A' m' c')=w2 at*;have HW:Hid (Wr c B w2 g (xs++txt s)):=HA.1;go_wp2_with (go_at_call 130;refine(gP c HW.out d hz).mono ?_;rintro e w3 ⟨rfl,hw,hk⟩;have HW3:=hid hw;have HK3:=hid (HA.2.trans hk);clear hw hk);go_end0;exact⟨rfl,HW3.out,HK3.out⟩
theorem om(lv:Nat)(w:World):CW 145 #[(lv:Int)] w (.int .i64 (((if lv=0 then 1 else 2:Nat)):Int)):=by by_cases h:lv=0;(. subst h;go_enter Tryz.func145,Tryz.ntmps145;go_wp2;go_ret;exact⟨rfl,rfl⟩);. have HR:Hid ((if lv=0 then 1 else 2:Nat)=2):=if_neg h;have h1:((lv:Int)==0)=false:=(by simp;omega);rw[HR.out];clear h HR;go_enter Tryz.func145,Tryz.ntmps145;go_wp2;go_ret;exact⟨rfl,rfl⟩
theorem qD(d:Bool)(w:World):CW 162 #[.bool d] w (.int .i64 ((qC d).toNat:Int)):=by
 cases d
 all_goals
  go_enter Tryz.func162,Tryz.ntmps162
  go_wp2
  go_ret
  exact⟨rfl,rfl⟩
theorem zI(c:Cfg){B:Nat}{w:World}{g:Nat}{xs:List UInt8}(h:Wr c B w g xs)(lv np nm:Nat)(hx:xs.length<=1000)(h1:lv<9223372036854775808)(h2:np<9223372036854775808)(h3:nm<9223372036854775808):Calls Tryz.prog 125 #[g,(lv:Int),(np:Int),(nm:Int)] w fun e w'=>e=.returned (.tuple #[])/\Wr c B w' g (xs++(be 1 (if lv=0 then 1 else 2)++(be 1 lv++(be 2 np++(be 2 nm++zs 2)))))/\Kw B w w':=by have c0:=fun w=>hid (om lv w);obtain⟨mk,hmk⟩:=eX ((if lv=0 then 1 else 2:Nat));(have hm9:mk<9223372036854775808:=by rw[hmk];split<;>omega);rw[<-hmk]at c0 ⊢;clear hmk;have cN1:∀(w:World) (xs:List UInt8) (v:Nat),Wr c B w g xs->v<9223372036854775808->xs.length<=1048000->Hid (Calls Tryz.prog 160 #[g,(1:Int),(v:Int)] w fun e w'=>e=.returned (.tuple #[])/\Wr c B w' g (xs++be 1 v)/\Kw B w w'):=fun w xs v h hv hx=>gM c h 1 v rfl hv hx;have cN2:∀(w:World) (xs:List UInt8) (v:Nat),Wr c B w g xs->v<9223372036854775808->xs.length<=1048000->Hid (Calls Tryz.prog 160 #[g,(2:Int),(v:Int)] w fun e w'=>e=.returned (.tuple #[])/\Wr c B w' g (xs++be 2 v)/\Kw B w w'):=fun w xs v h hv hx=>gM c h 2 v rfl hv hx;have cZ:∀(w:World) (xs:List UInt8),Wr c B w g xs->xs.length<=1048000->Hid (Calls Tryz.prog 130 #[g,(2:Int)] w fun e w'=>e=.returned (.tuple #[])/\Wr c B w' g (xs++zs 2)/\Kw B w w'):=fun w xs h hx=>gP c h 2 (by omega);have H1:=hid h1;have H2:=hid h2;have H3:=hid h3;have HM:=hid hm9;have HW:=hid h;have HX:=hid hx;clear h h1 h2 h3 hm9 hx;go_enter Tryz.func125,Tryz.ntmps125;go_upto_region 1 with(first|(go_at_call 145;refine(c0 _).mono ?_;rintro e w' ⟨rfl,rfl⟩)|(go_at_call 160;refine(cN1 _ _ mk HW.out HM.out (by have:=HX.out;omega)).mono ?_;rintro e w1 ⟨rfl,hw,hk⟩;have HW1:=hid hw;have HK1:=hid hk;clear hw hk));go_upto_region 2 with(go_at_call 160;refine(cN1 _ _ lv HW1.out H1.out (by have:=HX.out;simp only[List.length_append,aB];omega)).mono ?_;rintro e w2 ⟨rfl,hw,hk⟩;have HW2:=hid hw;have HK2:=hid (HK1.trans hk);clear hw hk HW1 HK1);go_upto_region 3 with(go_at_call 160;refine(cN2 _ _ np HW2.out H2.out (by have:=HX.out;simp only[List.length_append,aB];omega)).mono ?_;rintro e w3 ⟨rfl,hw,hk⟩;have HW3:=hid hw;have HK3:=hid (HK2.trans hk);clear hw hk HW2 HK2);go_upto_region 4 with(go_at_call 160;refine(cN2 _ _ nm HW3.out H3.out (by have:=HX.out;simp only[List.length_append,aB];omega)).mono ?_;rintro e w4 ⟨rfl,hw,hk⟩;have HW4:=hid hw;have HK4:=hid (HK3.trans hk);clear hw hk HW3 HK3);go_wp2_with (go_at_call 130;refine(cZ _ _ HW4.out (by have:=HX.out;simp only[List.length_append,aB];omega)).mono ?_;rintro e w5 ⟨rfl,hw,hk⟩;have HW5:=hid hw;have HK5:=hid (HK4.trans hk);clear hw hk HW4 HK4);go_end0;refine⟨rfl,?_,HK5.out⟩;have:=HW5.out;simp only[List.append_assoc]at this;exact this
end No
end Go.Proofs.YtmcbidhpkpmalaaGreatDoor
namespace Go.Proofs.YtmcbidhpkpmalaaGreatDoor
open Go.RowKit
namespace No
section
variable{c:Cfg}
structure mH(c:Cfg)(F B L K V:Nat):Prop where
 fan:c.fan=F
 buffer:c.buffer=B
 leaf:c.leaf=L
 key:c.key=K
 val:c.val=V
 f:8<=F/\F<=64
 b:B<=512
 l:L<=1024
 k:1<=K/\K<=64
 v:V<=256
 inn:((8+4*F+(1+K)*(F-1)+B*(4+K+V):Nat):Int)<=c.bytes
 out:((8+L*(3+K+V):Nat):Int)<=c.bytes
 bytes:64<=c.bytes/\c.bytes<=65536
 blocks:c.blocks<=65536
theorem qE(h:Cf.Right c.blocks c.bytes c.frames c.fan c.buffer c.leaf c.key c.val):∃F B L K V,mH c F B L K V:=by obtain⟨hs,⟨hb1,hb2⟩,hf,hy1,hy2⟩:=h;have hs':=hs;unfold Cf.Shape at hs';obtain⟨⟨f1,f2⟩,⟨u1,u2⟩,⟨l1,l2⟩,⟨k1,k2⟩,⟨v1,v2⟩⟩:=hs';obtain⟨F,hF⟩:∃F:Nat,c.fan=F:=⟨c.fan.toNat,by omega⟩;obtain⟨B,hB⟩:∃B:Nat,c.buffer=B:=⟨c.buffer.toNat,by omega⟩;obtain⟨L,hL⟩:∃L:Nat,c.leaf=L:=⟨c.leaf.toNat,by omega⟩;obtain⟨K,hK⟩:∃K:Nat,c.key=K:=⟨c.key.toNat,by omega⟩;obtain⟨V,hV⟩:∃V:Nat,c.val=V:=⟨c.val.toNat,by omega⟩;refine⟨F,B,L,K,V,hF,hB,hL,hK,hV,by omega,by omega,by omega,by omega,by omega,?_,?_,?_,hb2⟩;(. (have h1:Cf.inn c.fan c.buffer c.key c.val<=c.bytes:=by unfold Cf.few at hy1;omega);unfold Cf.inn at h1;rw[hF,hB,hK,hV]at h1;obtain⟨G,rfl⟩:∃G,F=G+1:=⟨F-1,by omega⟩;have e1:(G+1:Nat)-1=G:=rfl;have e2:((G+1:Nat):Int)-1=G:=(by omega);rw[e2]at h1;rw[e1];have e3:((1+K)*G:Nat)=G*(1+K):=Nat.mul_comm _ _;rw[e3];push_cast at h1 ⊢;omega);(. (have h1:Cf.out c.leaf c.key c.val<=c.bytes:=by unfold Cf.few at hy1;omega);unfold Cf.out at h1;rw[hL,hK,hV]at h1;push_cast at h1 ⊢;omega);. unfold Cf.few at hy1;omega
end
end No
end Go.Proofs.YtmcbidhpkpmalaaGreatDoor
namespace Go.Proofs.YtmcbidhpkpmalaaGreatDoor
open Go.RowKit
open List (append_assoc length_append length_cons length_nil mem_of_getElem? range)
namespace No
open Mem Lx Bu Lf Fa
open Wd (be val aB eG)
variable{c:Cfg}{n:Nd}
theorem eZ{k:ByteArray}(h:nH c k=true):1<=k.size/\(k.size:Int)<=c.key:=by unfold nH at h;simp only[Bool.and_eq_true,decide_eq_true_eq]at h;omega
section
variable{F B L K V:Nat}
theorem uy(hs:mH c F B L K V)(h:DC c ⟨#[]⟩ ⟨#[]⟩ true n):(mE c n).length=8+n.prs.length*(3+K+V)/\n.prs.length<=L:=by (have hc:∀x∈n.prs,(ji c x.1 x.2).length=3+K+V:=fun x hx=>by obtain⟨h1,-,h3⟩:=h.each x hx;rw[mF (eZ h1).2 h3,hs.key,hs.val];rfl);have:=h.few;have:=hs.leaf;refine⟨?_,by omega⟩;unfold mE;simp only[length_append,aB,gX,iJ hc];simp;omega
theorem vW{a b s:Nat}(h:a<=b):a*s<=b*s:=Nat.mul_le_mul_right s h
theorem Em(hs:mH c F B L K V)(h:DC c ⟨#[]⟩ ⟨#[]⟩ true n)(h0:n.lv=0):(aK c n).length=c.bytes.toNat/\Ej c (aK c n)=n:=by (have hc:∀x∈n.prs,(ji c x.1 x.2).length=3+K+V:=fun x hx=>by obtain⟨h1,-,h3⟩:=h.each x hx;rw[mF (eZ h1).2 h3,hs.key,hs.val];rfl);obtain⟨hl1,hl2⟩:=uy hs h;have hm:=vW (s:=3+K+V) hl2;have ho:=hs.out;have hb1:=hs.bytes;(have e0:aK c n=slotL (mE c n) c.bytes:=by unfold aK nM;rw[if_pos h0]);(have hlen:(aK c n).length=c.bytes.toNat:=by rw[e0];refine dR ?_;rw[hl1];generalize n.prs.length*(3+K+V)=X at*;generalize L*(3+K+V)=Y at*;omega);refine⟨hlen,?_⟩;(obtain⟨Z,eb⟩:∃Z,aK c n=[1,0]++(be 2 n.prs.length++(zs 4++((n.prs.flatMap fun x=>ji c x.1 x.2)++Z))):=by refine⟨zs (c.bytes-(mE c n).length),?_⟩;rw[e0];unfold slotL;generalize zs (c.bytes-(mE c n).length)=Z;unfold mE;simp only[append_assoc]);(have d1:atL (aK c n) 1 1=0:=by unfold atL;rw[eb];rfl);(have d2:atL (aK c n) 2 2=n.prs.length:=vK (R:=zs 4++((n.prs.flatMap fun x=>ji c x.1 x.2)++Z)) (by rw[eb];exact List.drop_left' rfl) (by have:=hs.l;omega);have ek:c.key.toNat=K:=by rw[hs.key];rfl);(have ev:c.val.toNat=V:=by rw[hs.val];rfl);unfold Ej;rw[if_pos d1,d2,ek,ev,hlen,zH (by omega) (by generalize n.prs.length*(3+K+V)=X at*;generalize L*(3+K+V)=Y at*;omega)];obtain⟨lv,Ks,P,Bu,Q⟩:=n;obtain rfl:lv=0:=h0;obtain rfl:Ks=[]:=List.eq_nil_of_length_eq_zero h.kids;obtain rfl:P=[]:=List.eq_nil_of_length_eq_zero h.piv;obtain rfl:Bu=[]:=List.eq_nil_of_length_eq_zero h.buf;congr 1;refine mG fun k x hx=>?_;obtain⟨h1,-,h3⟩:=h.each x (mem_of_getElem? hx);have h1':=eZ h1;have hk:=hs.key;have hv:=hs.val;have hk2:=hs.k;have hv2:=hs.v;obtain⟨R,hR⟩:=oO hc ([1,0]++(be 2 Q.length++zs 4)) Z (a:=8) (by simp[gX]) hx;refine Eh (R:=R) ?_ (by omega) (by omega) h1'.2;rw[eb];simp only[append_assoc]at hR ⊢;exact hR
theorem vX(hs:mH c F B L K V)(h:DF c ⟨#[]⟩ ⟨#[]⟩ true n):(n.kids.flatMap (be 4)).length=n.kids.length*4/\(n.piv.flatMap (pvL c)).length=n.piv.length*(1+K)/\(n.buf.flatMap (msL c)).length=n.buf.length*(4+K+V)/\(yg c n).length=8+4*F+(1+K)*(F-1)+n.buf.length*(4+K+V)/\n.buf.length<=B:=by have hk:(n.kids.flatMap (be 4)).length=n.kids.length*4:=iJ fun x _=>aB 4 x;(have hp:(n.piv.flatMap (pvL c)).length=n.piv.length*(1+K):=iJ fun x hx=>by rw[yh (eZ (h.piv x hx)).2,hs.key];rfl);(have hm:(n.buf.flatMap (msL c)).length=n.buf.length*(4+K+V):=iJ fun x hx=>by obtain⟨h1,-,h3,-⟩:=h.buf x hx;rw[yj (eZ h1).2 h3,hs.key,hs.val];rfl);(have h1:=h.fan;have h2:=h.fewer;have h3:=h.few;have h4:=hs.fan;have h5:=hs.buffer;have h6:=hs.f;refine⟨hk,hp,hm,?_,by omega⟩;unfold yg;simp only[length_append,aB,gX,hk,hp,hm,length_cons,length_nil,hs.fan,hs.key];have e1:(4*((F:Int)-n.kids.length)).toNat=4*F-n.kids.length*4:=by omega);(have e2:((1+(K:Int))*((F:Int)-1-n.piv.length)).toNat=(1+K)*(F-1)-n.piv.length*(1+K):=by obtain⟨r,hr⟩:∃r:Nat,F-1=n.piv.length+r:=⟨F-1-n.piv.length,by omega⟩;(have e3:((F:Int)-1-n.piv.length)=(r:Int):=by omega);rw[e3,hr,Nat.mul_add,Nat.mul_comm (1+K) n.piv.length,Nat.add_sub_cancel_left];(have e4:(1+(K:Int))*(r:Int)=(((1+K)*r:Nat):Int):=by rw[Int.natCast_mul];rfl);rw[e4];rfl);(have e5:n.piv.length*(1+K)<=(1+K)*(F-1):=by rw[Nat.mul_comm (1+K)];exact vW (by omega));rw[e1,e2];generalize n.piv.length*(1+K)=X at*;generalize (1+K)*(F-1)=Y at*;generalize n.buf.length*(4+K+V)=Z at*;omega
theorem Bd(hs:mH c F B L K V)(h:DF c ⟨#[]⟩ ⟨#[]⟩ true n)(h0:0<n.lv):(aK c n).length=c.bytes.toNat/\Ej c (aK c n)=n:=by obtain⟨hl1,hl2,hl3,hl4,hl5⟩:=vX hs h;have hm:=vW (s:=4+K+V) hl5;have hi:=hs.inn;have hb1:=hs.bytes;have hlv:=h.lv;have h1:=h.fan;have h2:=h.fewer;have h3:=h.one;have h4:=hs.fan;have h6:=hs.f;have h7:=hs.b;have hk:=hs.key;have hv:=hs.val;have hk2:=hs.k;have hv2:=hs.v;(have e0:aK c n=slotL (yg c n) c.bytes:=by unfold aK nM;rw[if_neg (by omega)]);(have hlen:(aK c n).length=c.bytes.toNat:=by rw[e0];refine dR ?_;rw[hl4];generalize n.buf.length*(4+K+V)=X at*;generalize B*(4+K+V)=Y at*;generalize (1+K)*(F-1)=U at*;omega);refine⟨hlen,?_⟩;obtain⟨Z1,hz1,e1⟩:∃Z1:List UInt8,Z1.length+n.kids.length*4=4*F/\zs (4*(c.fan-n.kids.length))=Z1:=⟨_,by rw[gX,hs.fan];omega,rfl⟩;(obtain⟨Z2,hz2,e2⟩:∃Z2:List UInt8,n.piv.length*(1+K)+Z2.length=(1+K)*(F-1)/\zs ((1+c.key)*(c.fan-1-n.piv.length))=Z2:=by refine⟨_,?_,rfl⟩;rw[gX,hs.fan,hs.key];obtain⟨r,hr⟩:∃r:Nat,F-1=n.piv.length+r:=⟨F-1-n.piv.length,by omega⟩;(have e3:((F:Int)-1-n.piv.length)=(r:Int):=by omega);(have e4:(1+(K:Int))*(r:Int)=(((1+K)*r:Nat):Int):=by rw[Int.natCast_mul];rfl);rw[e3,e4,hr,Nat.mul_add (1+K),Nat.mul_comm (1+K) n.piv.length];rfl);(obtain⟨Z,eb⟩:∃Z,aK c n=[2]++(be 1 n.lv.toNat++(be 2 n.kids.length++(be 2 n.buf.length++(zs 2++(n.kids.flatMap (be 4)++(Z1++(n.piv.flatMap (pvL c)++(Z2++(n.buf.flatMap (msL c)++Z))))))))):=by refine⟨zs (c.bytes-(yg c n).length),?_⟩;rw[e0];unfold slotL;generalize zs (c.bytes-(yg c n).length)=Z;unfold yg;rw[e1,e2];simp only[append_assoc]);(clear e1 e2;have d0:=eH (b:=aK c n) (i:=0) (j:=1) (X:=[2]) eb rfl;have d1:=eH d0 (aB 1 _);have d2:=eH d1 (aB 2 _);have d3:=eH d2 (aB 2 _);have d4:=eH (j:=2) d3 rfl;have a1:atL (aK c n) 1 1=n.lv.toNat:=vK d0 (by omega);have a2:atL (aK c n) 2 2=n.kids.length:=vK d1 (by omega);have a3:atL (aK c n) 4 2=n.buf.length:=vK d2 (by omega);have ek:c.key.toNat=K:=by rw[hs.key];rfl);(have ev:c.val.toNat=V:=by rw[hs.val];rfl);(have ef:c.fan.toNat=F:=by rw[hs.fan];rfl);have em:Ei n.buf.length (8+4*F+(1+K)*(F-1)) (4+K+V) c.bytes.toNat=n.buf.length:=zH (by omega) (by generalize n.buf.length*(4+K+V)=X at*;generalize B*(4+K+V)=Y at*;generalize (1+K)*(F-1)=U at*;omega);(have oo:∀k∈n.kids,k<65536:=fun k hk=>by obtain⟨i,hi⟩:=List.mem_iff_getElem?.1 hk;have:=(h.kids i k hi).1.2;have:=hs.blocks;omega);unfold Ej;rw[if_neg (by rw[a1];omega),a1,a2,a3,ek,ev,ef,hlen,em];rw[Nat.min_eq_left (show n.kids.length<=F by omega),Nat.min_eq_left (show n.kids.length-1<=F-1 by omega),show n.kids.length-1=n.piv.length by omega];(have r1:((range n.kids.length).map fun k=>atL (aK c n) (8+k*4) 4)=n.kids:=mG fun k x hx=>by obtain⟨R,hR⟩:=oO (f:=be 4) (S:=4) (fun x _=>aB 4 x) ([2]++(be 1 n.lv.toNat++(be 2 n.kids.length++(be 2 n.buf.length++zs 2)))) (Z1++(n.piv.flatMap (pvL c)++(Z2++(n.buf.flatMap (msL c)++Z)))) (a:=8) (by simp[gX]) hx;have hx2:=oo x (mem_of_getElem? hx);refine vK (R:=R) ?_ (by omega);rw[eb];simp only[append_assoc]at hR ⊢;exact hR);(have r2:((range n.piv.length).map fun k=>PG (aK c n) (8+4*F+k*(1+K)))=n.piv:=mG fun k x hx=>by obtain⟨R,hR⟩:=oO (f:=pvL c) (S:=1+K) (fun x hx=>by rw[yh (eZ (h.piv x hx)).2,ek]) ([2]++(be 1 n.lv.toNat++(be 2 n.kids.length++(be 2 n.buf.length++(zs 2++(n.kids.flatMap (be 4)++Z1)))))) (Z2++(n.buf.flatMap (msL c)++Z)) (a:=8+4*F) (by simp only[length_append,aB,gX,hl1,length_cons,length_nil];omega) hx;have hx2:=eZ (h.piv x (mem_of_getElem? hx));refine NS (c:=c) (R:=R) ?_ (by omega);rw[eb];simp only[append_assoc]at hR ⊢;exact hR);(have r3:((range n.buf.length).map fun k=>PI c (aK c n) (8+4*F+(1+K)*(F-1)+k*(4+K+V)))=n.buf:=mG fun k x hx=>by obtain⟨R,hR⟩:=oO (f:=msL c) (S:=4+K+V) (fun x hx=>by obtain⟨h1,-,h3,-⟩:=h.buf x hx;rw[yj (eZ h1).2 h3,ek,ev]) ([2]++(be 1 n.lv.toNat++(be 2 n.kids.length++(be 2 n.buf.length++(zs 2++(n.kids.flatMap (be 4)++(Z1++(n.piv.flatMap (pvL c)++Z2)))))))) Z (a:=8+4*F+(1+K)*(F-1)) (by simp only[length_append,aB,gX,hl1,hl2,length_cons,length_nil];generalize n.piv.length*(1+K)=X at*;generalize (1+K)*(F-1)=U at*;omega) hx;obtain⟨h8,-,h9,-⟩:=h.buf x (mem_of_getElem? hx);have h8':=eZ h8;refine NT (R:=R) ?_ (by omega) (by omega) h8'.2;rw[eb];simp only[append_assoc]at hR ⊢;exact hR);rw[r1,r2,r3];obtain⟨lv,Ks,P,Bu,Q⟩:=n;obtain rfl:Q=[]:=List.eq_nil_of_length_eq_zero h.prs;simp only at h0 ⊢;congr 1;omega
end
theorem kg(h:dh c n):(aK c n).length=c.bytes.toNat/\Ej c (aK c n)=n:=by obtain⟨F,B,L,K,V,hs⟩:=qE h.1;by_cases e:n.lv=0;(. exact Em hs (h.2.1 e) e);. exact Bd hs (h.2.2 e).2 (h.2.2 e).1
theorem En{m:Nd}(h:dh c n)(h':dh c m)(e:aK c n=aK c m):n=m:=by rw[<-(kg h).2,e,(kg h').2]
end No
end Go.Proofs.YtmcbidhpkpmalaaGreatDoor
