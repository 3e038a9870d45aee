import Derived.Test.YtmcbidhpkpmalaaGreatDoorPkBK
set_option maxHeartbeats 4000000
set_option maxRecDepth 100000
namespace Go.Proofs.YtmcbidhpkpmalaaGreatDoor
open Go.RowKit
namespace Sk
open Mem Lx Bu Lf Fa No Sh Bt Po
def nodeAt(R:List (List Nd))(j i:Nat):Nd:=((R[j]?).getD [])[i]?.getD ni
def gN(n:Nd)(key:ByteArray):Nat:=n.kids[bX n.piv key]?.getD 0-1
def pth(R:List (List Nd))(key:ByteArray):Nat->Nat->List Nd
 |0,_=>[]
 |j+1,i=>nodeAt R j i::pth R key j (gN (nodeAt R j i) key)
def ats(R:List (List Nd))(key:ByteArray):Nat->Nat->List Nat
 |0,_=>[]
 |j+1,i=>i::ats R key j (gN (nodeAt R j i) key)
def yL(R:List (List Nd))(key:ByteArray):List Nd:=pth R key R.length 0
structure Wf(R:List (List Nd)):Prop where
 ne:0<R.length
 few:R.length<=7
 top:∀T,R[R.length-1]? =some T->T.length=1
 lv:∀(j:Nat) (T:List Nd),R[j]? =some T->∀n,n∈T->n.lv=(j:Int)
 kid:∀(j:Nat) (T T':List Nd),R[j+1]? =some T->R[j]? =some T'->∀n,n∈T->n.kids.length=n.piv.length+1/\∀b,b∈n.kids->1<=b/\b<=T'.length
section
variable{R:List (List Nd)}{key:ByteArray}{i j:Nat}
theorem bR{T:List Nd}{n:Nd}(hT:R[j]? =some T)(hn:T[i]? =some n):nodeAt R j i=n:=by unfold nodeAt;rw[hT,Option.getD_some,hn,Option.getD_some]
def Pl(R:List (List Nd))(j i:Nat):Prop:=∃T n,R[j]? =some T/\T[i]? =some n
theorem Wf.gN(h:Wf R)(hp:Pl R (j+1) i):∃b,(nodeAt R (j+1) i).kids[bX (nodeAt R (j+1) i).piv key]? =some b/\gN (nodeAt R (j+1) i) key=b-1/\1<=b/\Pl R j (b-1):=by obtain⟨T,n,hT,hn⟩:=hp;have e:=bR hT hn;have hj:=(List.getElem?_eq_some_iff.1 hT).1;obtain⟨T',hT'⟩:∃T',R[j]? =some T':=⟨_,List.getElem?_eq_getElem (by omega)⟩;obtain⟨h1,h2⟩:=h.kid j T T' hT hT' n (List.mem_of_getElem? hn);have hw:=nG n.piv key;obtain⟨b,hb⟩:∃b,n.kids[bX n.piv key]? =some b:=⟨_,List.getElem?_eq_getElem (by omega)⟩;obtain⟨h3,h4⟩:=h2 b (List.mem_of_getElem? hb);refine⟨b,by rw[e];exact hb,by rw[e];unfold Sk.gN;rw[hb];rfl,h3,T',_,hT',List.getElem?_eq_getElem (by omega)⟩
theorem Wf.root(h:Wf R):Pl R (R.length-1) 0:=by have h1:=h.ne;obtain⟨T,hT⟩:∃T,R[R.length-1]? =some T:=⟨_,List.getElem?_eq_getElem (by omega)⟩;have:=h.top T hT;exact⟨T,_,hT,List.getElem?_eq_getElem (by omega)⟩
end
end Sk
namespace Sk
open Mem Lx Bu Lf Fa No Sh Bt Po
def SsK:Kind (Option Addr × Nat × Nat):=⟨35,1,fun x=>[.slice x.1 x.2.1 x.2.2],fun _=>rfl,fun x u hu=>by obtain rfl:=List.mem_singleton.1 hu;rfl⟩
theorem QI:(Tryz.prog.info? 35).map (fun i=>(i.zero,i.size,i.bytes))=some (some (.slice none 0 0),1,24):=by kernel_rfl
def Rg(B:Nat)(w w':World):Prop:=w.heap.size<=w'.heap.size/\∀b,B<=b->b<w.heap.size->w'.heap[b]? =w.heap[b]?
structure TrW(w:World)(B:Nat)(A:Option Addr)(c:Nat)(S:List (Option Addr × Nat × Nat))(TT:List (List (Nd × At))):Prop where
 row:VK SsK w B A c S
 len:S.length=TT.length
 rows:∀(k:Nat) (s:Option Addr × Nat × Nat) (T:List (Nd × At)),S[k]? =some s->TT[k]? =some T->s.2.1=T.length/\VK jD w B s.1 s.2.2 T
 nds:∀(k:Nat) (T:List (Nd × At)),TT[k]? =some T->∀x,x∈T->fD w B x.1 x.2
 ap:∀(k k':Nat) (s s':Option Addr × Nat × Nat) (a a':Addr),S[k]? =some s->S[k']? =some s'->k≠k'->s.1=some a->s'.1=some a'->a.block≠a'.block
def nds(TT:List (List (Nd × At))):List (List Nd):=TT.map fun T=>T.map (·.1)
section
variable{w w' w2:World}{B c:Nat}{A:Option Addr}{S:List (Option Addr × Nat × Nat)}{TT:List (List (Nd × At))}{T:List (Nd × At)}{k i:Nat}{x:Nd × At}
theorem Rg.below(hb:Bw w w'):Rg B w w':=⟨hb.size,fun b _ hl=>hb.block b hl⟩
theorem Rg.trans(h:Rg B w w')(h2:Rg B w' w2):Rg B w w2:=⟨Nat.le_trans h.1 h2.1,fun b hB hl=>(h2.2 b hB (Nat.lt_of_lt_of_le hl h.1)).trans (h.2 b hB hl)⟩
theorem TrW.kept(h:TrW w B A c S TT)(hr:Rg B w w'):TrW w' B A c S TT:=by refine⟨h.row.keep fun a ha=>hr.2 _ (h.row.at_ a ha).1 (h.row.at_ a ha).2,h.len,fun k s T hs hT=>?_,fun k T hT x hx=>?_,h.ap⟩;(. obtain⟨h1,h2⟩:=h.rows k s T hs hT;exact⟨h1,h2.keep fun a ha=>hr.2 _ (h2.at_ a ha).1 (h2.at_ a ha).2⟩);. have h1:=h.nds k T hT x hx;exact fD.same h1 ⟨hr.1,fun y hy=>hr.2 y (fD.blk h1 hy).1 (fD.blk h1 hy).2⟩
theorem TrW.at_(h:TrW w B A c S TT)(hT:TT[k]? =some T):∃g s,A=some ⟨g,0,none⟩/\S[k]? =some s/\s.2.1=T.length/\w.cell? ⟨g,k,none⟩=some (.slice s.1 T.length s.2.2)/\VK jD w B s.1 s.2.2 T:=by have hk:=(List.getElem?_eq_some_iff.1 hT).1;obtain⟨s,hs⟩:∃s,S[k]? =some s:=⟨_,List.getElem?_eq_getElem (by rw[h.len];exact hk)⟩;obtain⟨g,hg,hc⟩:=h.row.cell hs;obtain⟨h1,h2⟩:=h.rows k s T hs hT;have h3:=hc 0 _ rfl;refine⟨g,s,hg,hs,h1,?_,h2⟩;rw[h1]at h3;simpa[SsK]using h3
theorem wR{B c:Nat}{A:Option Addr}(h:VK jD w B A c T)(hx:T[i]? =some x):∃g,A=some ⟨g,0,none⟩/\w.cell? ⟨g,i*5,none⟩=some (.int .i64 x.1.lv)/\w.cell? ⟨g,i*5+1,none⟩=some (.slice x.2.kA x.1.kids.length x.2.kc)/\w.cell? ⟨g,i*5+2,none⟩=some (.slice x.2.pA x.1.piv.length x.2.pc)/\w.cell? ⟨g,i*5+3,none⟩=some (.slice x.2.bA x.1.buf.length x.2.bc)/\w.cell? ⟨g,i*5+4,none⟩=some (.slice x.2.qA x.1.prs.length x.2.qc):=by obtain⟨g,hg,hc⟩:=h.cell hx;exact⟨g,hg,hc 0 _ rfl,hc 1 _ rfl,hc 2 _ rfl,hc 3 _ rfl,hc 4 _ rfl⟩
theorem jB(hT:TT[k]? =some T):(nds TT)[k]? =some (T.map (·.1)):=by unfold nds;rw[List.getElem?_map,hT];rfl
theorem dW:(nds TT).length=TT.length:=List.length_map _
theorem QJ(h:Pl (nds TT) k i):∃T x,TT[k]? =some T/\T[i]? =some x/\nodeAt (nds TT) k i=x.1:=by obtain⟨T',n,hT,hn⟩:=h;have e:=bR hT hn;unfold nds at hT;rw[List.getElem?_map]at hT;cases hTT:TT[k]? with|none=>rw[hTT]at hT;cases hT|some T=>(rw[hTT]at hT;cases hT;rw[List.getElem?_map]at hn;cases hx:T[i]? with|none=>rw[hx]at hn;cases hn|some x=>rw[hx]at hn;(cases hn);exact⟨T,x,rfl,hx,e⟩)
end
end Sk
namespace Sk
open Mem Lx Bu Lf Fa No Sh Bt Po
def Fits(R:List (List Nd)):Prop:=∀(j:Nat) (T:List Nd),R[j]? =some T->∀n,n∈T->Fit n/\∀b,b∈n.kids->b<4294967296
theorem Fits.at_{TT:List (List (Nd × At))}{k i:Nat}{T:List (Nd × At)}{x:Nd × At}(h:Fits (nds TT))(hT:TT[k]? =some T)(hx:T[i]? =some x):Fit x.1:=(h k _ (jB hT) x.1 (List.mem_map.2 ⟨x,List.mem_of_getElem? hx,rfl⟩)).1
theorem Ma{n:Nd}{a:At}{w:World}(hf:Fit n)(hn:vw w n a)(key:ByteArray):CB 33 #[.slice a.pA n.piv.length a.pc,.string key] w (.int .i64 (bX n.piv key:Int)):=GY hn.piv.1 key (fun m hm=>Nat.le_trans (hf.pk m hm) (by decide)) (Nat.le_trans hf.piv (by decide))
def wS(key:ByteArray)(L:List Nd):ByteArray × ByteArray × Bool:=L.foldl (fun s n=>if 0<n.lv then(dN n.piv (bX n.piv key) s.1 s.2.1 s.2.2).1 else s) (⟨#[]⟩,⟨#[]⟩,true)
theorem Fy{key:ByteArray}:∀{L:List Nd},(∀n,n∈L->Fit n)->(wS key L).1.size<=maxLen:=by (have hh:∀(L:List Nd) (s:ByteArray × ByteArray × Bool),s.1.size<=maxLen->(∀n,n∈L->Fit n)->(L.foldl (fun s n=>if 0<n.lv then(dN n.piv (bX n.piv key) s.1 s.2.1 s.2.2).1 else s) s).1.size<=maxLen:=by intro L;induction L with|nil=>exact fun s h _=>h|cons n L ih=>intro s hs hL;refine ih _ ?_ fun m hm=>hL m (List.mem_cons_of_mem _ hm);show(if 0<n.lv then(dN n.piv (bX n.piv key) s.1 s.2.1 s.2.2).1 else s).1.size<=maxLen;split;(. exact Bo (fun m hm=>Nat.le_trans ((hL n List.mem_cons_self).pk m hm) (by decide)) hs _ _ _);. exact hs);exact fun{L} hL=>hh L _ (by decide) hL
theorem Fz{R:List (List Nd)}(hw:Wf R)(key:ByteArray):∀(j i:Nat),Pl R j i->∀n,n∈pth R key (j+1) i->∃(k:Nat) (T:List Nd),R[k]? =some T/\n∈T
 |0,i,⟨T,n0,hT,hn⟩,n,h=>by unfold pth at h;rw[bR hT hn]at h;unfold pth at h;obtain rfl:=List.mem_singleton.1 h;exact⟨0,T,hT,List.mem_of_getElem? hn⟩
 |j+1,i,hp,n,h=>by unfold pth at h;rcases List.mem_cons.1 h with rfl|h;(. obtain⟨T,n0,hT,hn⟩:=hp;rw[bR hT hn];exact⟨j+1,T,hT,List.mem_of_getElem? hn⟩);. obtain⟨b,-,h2,-,h3⟩:=hw.gN (key:=key) hp;rw[h2]at h;exact Fz hw key j _ h3 n h
theorem Mc{R:List (List Nd)}(hw:Wf R)(hf:Fits R)(key:ByteArray):∀n,n∈yL R key->Fit n:=fun n h=>by unfold yL at h;have h0:=hw.ne;obtain⟨k,T,hT,hn⟩:=Fz hw key (R.length-1) 0 hw.root n (by rwa [Nat.sub_add_cancel h0]);exact(hf k T hT n hn).1
end Sk
end Go.Proofs.YtmcbidhpkpmalaaGreatDoor
namespace Go.Proofs.YtmcbidhpkpmalaaGreatDoor
open Go.RowKit
open Go.Lib (hid)
open IntKind (wrap_i64)
open List (length_set map_set mem_of_getElem?)
namespace Sk
open Mem Lx Bu Lf Fa No Sh Bt Po
theorem zY{α:Type}(K:Kind α){j:Nat}(hj:j<K.k)(u:Value){x y:α}(hy:K.cs y=(K.cs x).set j u):∀{L:List α} {i:Nat},L[i]? =some x->(L.flatMap K.cs).set (i*K.k+j) u=(L.set i y).flatMap K.cs
 |[],i,h=>by simp at h
 |a::L,0,h=>by (obtain rfl:a=x:=by simpa using h);simp only[List.flatMap_cons,List.set_cons_zero];rw[List.set_append_left _ _ (by rw[K.len];omega),hy,Nat.zero_mul,Nat.zero_add]
 |a::L,i+1,h=>by simp only[List.flatMap_cons,List.set_cons_succ];rw[List.set_append_right _ _ (by rw[K.len,Nat.succ_mul];omega),K.len,show(i+1)*K.k+j-K.k=i*K.k+j from by rw[Nat.succ_mul];omega,zY K hj u hy (by simpa using h)]
theorem VK.TH{α:Type}{K:Kind α}{w:World}{B c g i j:Nat}{L:List α}{x y:α}{u:Value}(h:VK K w B (some ⟨g,0,none⟩) c L)(hx:L[i]? =some x)(hj:j<K.k)(hy:K.cs y=(K.cs x).set j u):VK K (w.setCell ⟨g,i*K.k+j,none⟩ u) B (some ⟨g,0,none⟩) c (L.set i y):=by have h1:=(World.ownsRow.stored h (i*K.k+j) u).1;rw[zY K hj u hy hx]at h1;unfold VK;rw[length_set];exact h1
def MP(n:Nd)(L:List Mg):Nd:=⟨n.lv,n.kids,n.piv,L,n.prs⟩
def TI(a:At)(A:Option Addr)(c:Nat):At:=⟨a.kA,a.kc,a.pA,a.pc,A,c,a.qA,a.qc⟩
theorem TrW.put{w:World}{B c k i g c':Nat}{A A':Option Addr}{S:List (Option Addr × Nat × Nat)}{TT:List (List (Nd × At))}{T:List (Nd × At)}{x:Nd × At}{s:Option Addr × Nat × Nat}{L:List Mg}(h:TrW w B A c S TT)(hT:TT[k]? =some T)(hx:T[i]? =some x)(hs:S[k]? =some s)(hg:s.1=some ⟨g,0,none⟩)(hL:Fr MgK w B A' c' L):TrW (w.setCell ⟨g,i*5+3,none⟩ (.slice A' L.length c')) B A c S (TT.set k (T.set i (MP x.1 L,TI x.2 A' c'))):=by obtain⟨hn,hv⟩:=h.rows k s T hs hT;have hv0:=hv;rw[hg]at hv;(have hgT:∃X fl,w.heap[g]? =some (.cells X 50 fl):=by (rcases hv.2 with⟨h6,-⟩|⟨g',cap,cur,he,-,hh,-⟩);(. cases h6);. cases he;exact⟨cur,_,hh⟩);obtain⟨X,fl,hgx⟩:=hgT;have hk:∀y,y≠g->(w.setCell ⟨g,i*5+3,none⟩ (.slice A' L.length c')).heap[y]? =w.heap[y]? :=fun y hy=>aT _ hy;(have hsz:(w.setCell ⟨g,i*5+3,none⟩ (.slice A' L.length c')).heap.size=w.heap.size:=by simp[World.setCell]);have hfr:∀{n:Nd} {a:At},fD w B n a->fD (w.setCell ⟨g,i*5+3,none⟩ (.slice A' L.length c')) B n a:=fun hf=>fD.same hf ⟨by omega,fun y hy=>hk y fun e=>Jc hf hgx (by decide) (by decide) (by decide) (by decide) (e▸hy)⟩;have hLn:Fr MgK (w.setCell ⟨g,i*5+3,none⟩ (.slice A' L.length c')) B A' c' L:=Fr.same hL ⟨by omega,fun y hy=>hk y fun e=>Fw hL hgx (by decide) (e▸hy)⟩;refine⟨h.row.keep fun a ha=>hk _ fun e=>dJ h.row hgx (by decide) (e▸aX ha),by rw[length_set];exact h.len,fun k2 s2 T2 h1 h2=>?_,fun k2 T2 h2 y hy=>?_,h.ap⟩;(. by_cases e:k2=k;(. subst e;rw[hs]at h1;(cases h1);rw[List.getElem?_set_self (List.getElem?_eq_some_iff.1 hT).1]at h2;(cases h2);refine⟨by rw[length_set];exact hn,?_⟩;rw[hg];exact VK.TH (K:=jD) (j:=3) hv hx (by decide) rfl);. rw[List.getElem?_set_ne (fun e'=>e e'.symm)]at h2;obtain⟨h3,h4⟩:=h.rows k2 s2 T2 h1 h2;exact⟨h3,h4.keep fun a ha=>hk _ (h.ap k2 k s2 s a _ h1 hs e ha hg)⟩);. by_cases e:k2=k;(. subst e;rw[List.getElem?_set_self (List.getElem?_eq_some_iff.1 hT).1]at h2;(cases h2);have h0:=hfr (h.nds k2 T hT x (mem_of_getElem? hx));rcases List.mem_or_eq_of_mem_set hy with h3|rfl;(. exact hfr (h.nds k2 T hT y h3));. exact⟨h0.kids,h0.piv,hLn,h0.prs⟩);. rw[List.getElem?_set_ne (fun e'=>e e'.symm)]at h2;exact hfr (h.nds k2 T2 h2 y hy)
def OnW(R:List (List Nd))(key:ByteArray)(j i:Nat):Prop:=j<R.length/\(ats R key R.length 0)[R.length-1-j]? =some i
theorem mR(R:List (List Nd))(key:ByteArray):∀(J i d x:Nat),d+1<J->(ats R key J i)[d]? =some x->(ats R key J i)[d+1]? =some (gN (nodeAt R (J-1-d) x) key)
 |0,_,_,_,h,_=>absurd h (by omega)
 |1,_,_,_,h,_=>absurd h (by omega)
 |J+2,i,0,x,_,hx=>by (unfold ats at hx ⊢;obtain rfl:i=x:=by simpa using hx);unfold ats;rfl
 |J+2,i,d+1,x,h,hx=>by unfold ats at hx ⊢;rw[List.getElem?_cons_succ]at hx ⊢;rw[mR R key (J+1) _ d x (by omega) hx,show J+2-1-(d+1)=J+1-1-d from by omega]
theorem OnW.root{R:List (List Nd)}(h:0<R.length)(key:ByteArray):OnW R key (R.length-1) 0:=by refine⟨by omega,?_⟩;obtain⟨k,hk⟩:∃k,R.length=k+1:=⟨R.length-1,by omega⟩;rw[show R.length-1-(R.length-1)=0 from by omega,hk];rfl
theorem OnW.next{R:List (List Nd)}{key:ByteArray}{j i:Nat}(h:OnW R key (j+1) i):OnW R key j (gN (nodeAt R (j+1) i) key):=by obtain⟨h1,h2⟩:=h;refine⟨by omega,?_⟩;have h3:=mR R key R.length 0 (R.length-1-(j+1)) i (by omega) h2;rw[show R.length-1-(j+1)+1=R.length-1-j from by omega,show R.length-1-(R.length-1-(j+1))=j+1 from by omega]at h3;exact h3
def rwS(S:List (Option Addr × Nat × Nat)):List Nat:=S.flatMap fun s=>tA s.1
def PU(R R':List (List Nd))(m:Mg)(most:Int):Prop:=R'=R\/∃(j i:Nat) (T:List Nd) (n:Nd),1<=j/\R[j]? =some T/\T[i]? =some n/\OnW R m.1 j i/\((uG n.buf m).length:Int)<=most/\R'=R.set j (T.set i (MP n (uG n.buf m)))
theorem Md{TT:List (List (Nd × At))}{k i:Nat}{T:List (Nd × At)}{y:Nd × At}:nds (TT.set k (T.set i y))=(nds TT).set k ((T.map (·.1)).set i y.1):=by unfold nds;rw[map_set,map_set]
theorem FB{w:World}{B c:Nat}{A:Option Addr}{S:List (Option Addr × Nat × Nat)}{TT:List (List (Nd × At))}(h:TrW w B A c S TT)(hB:B<=w.heap.size)(hw:Wf (nds TT))(hf:Fits (nds TT))(m:Mg)(hm:m.1.size<=1000)(d:Nat)(hd:d<=1000)(most:Int):Calls Tryz.prog 96 #[.slice A TT.length c,mgV m,(d:Int),most] w fun e w'=>e=.returned (.slice A TT.length c)/\(∃TT',TrW w' B A c S TT'/\TT'.length=TT.length/\PU (nds TT) (nds TT') m most)/\Flow.Into (rwS S) w w':=by
 have cP:∀(n:Nd) (a:At),Fit n->∀w',vw w' n a->Hid (Calls Tryz.prog 136 #[.slice a.bA n.buf.length a.bc,mgV m] w' fun e w''=>(∃A' c',e=.returned (.slice A' (uG n.buf m).length c')/\M3 w'' w'.heap.size A' c' (uG n.buf m))/\Bw w' w''):=fun n a hf w' hn=>Ih hn.buf.1 m (Nat.le_trans hm (by decide)) (Nat.le_trans hf.buf (by decide))
 have HH:=hid h;have HW:=hid hw;have HF:=hid hf;have HB0:=hid hB;obtain⟨N,hN⟩:=eX TT.length;have HN:=hid hN;have h0:1<=N:=by rw[hN,<-dW];exact hw.ne
 have h7:N<=7:=by rw[hN,<-dW];exact hw.few
 rw[<-hN];obtain⟨K,rfl⟩:∃K,N=K+1:=⟨N-1,by omega⟩
 have hk1:IntKind.i64.wrap (((K+1:Nat):Int)-1)=(K:Int):=by rw[wrap_i64];omega
 clear h hw hf hN h0 hm hB;obtain⟨mk,md,mv⟩:=m;unfold mgV at cP ⊢;simp only at cP ⊢;have hb1:Bw w (w.alloc (.cells #[.string mk,.bool md,.string mv] 73)):=bAx;have hx1:=aH.new 73 w #[.string mk,.bool md,.string mv];go_enter Tryz.func96,Tryz.ntmps96
 go_upto_region 3 with fail
 generalize w.alloc (.cells #[.string mk,.bool md,.string mv] 73)=w1 at*;obtain⟨g5,hg5⟩:=eX w.heap.size;rw[<-hg5]at hx1;simp only[<-hg5];have HG5:=hid hg5;have HB1:=hid hb1;have HX1:=hid hx1;clear hb1 hx1 hk1 hg5
 go_loopg[2,9,10] (K+1) (fun gk s2 s9 s10 wr=>∃d i k:Nat,d<=1000/\k<=K/\gk=k+1/\s2= .int .i64 (d:Int)/\s9= .int .i64 (i:Int)/\s10= .int .i64 (k:Int)/\Hid (Pl (nds TT) k i)/\Hid (OnW (nds TT) mk k i)/\Hid (Bw w wr)/\Hid (aH 73 wr g5 #[.string mk,.bool md,.string mv]))
 case atStart=>
  refine⟨d,0,K,hd,Nat.le_refl _,rfl,rfl,rfl,rfl,?_,?_,HB1.out,HX1.out⟩
  . have:=HW.root
    rw[dW,<-HN.out]at this;exact this
  . have:=OnW.root (R:=nds TT) (by rw[dW,<-HN.out];omega) mk
    rw[dW,<-HN.out]at this;exact this
 case round=>
  clear HB1 HX1 hd;obtain⟨d,i,k,hd,hk,rfl,rfl,rfl,rfl,HP,HO,HB,HX⟩:=hrel;by_cases hk0:0<k
  . obtain⟨T,x,hT,hx,hnd⟩:=QJ HP.out
    have hTr:=HH.kept (Rg.below HB.out) (B:=B);obtain⟨g,s,rfl,hs,-,cr,hv⟩:=hTr.at_ hT;obtain⟨g',hg',c0,c1,c2,c3,c4⟩:=wR hv hx;have hi:i<T.length:=(List.getElem?_eq_some_iff.1 hx).1;have hfit:=HF.at_ hT hx;have hfr:=HH.nds k T hT x (mem_of_getElem? hx);have hkk:k<K+1:=(by omega);obtain⟨k1,hk1⟩:∃k1,k=k1+1:=⟨k-1,by omega⟩
    have HKD:Hid (∃b,x.1.kids[bX x.1.piv mk]? =some b/\1<=b/\b<4294967296/\Pl (nds TT) k1 (b-1)/\OnW (nds TT) mk k1 (b-1)):=by
     subst hk1;obtain⟨b,h2,h3,h4,h5⟩:=HW.gN (key:=mk) HP.out;have h6:=HO.next;rw[h3]at h6;rw[hnd]at h2;exact⟨b,h2,h4,(HF.out (k1+1) _ (jB hT) x.1 (List.mem_map.2 ⟨x,mem_of_getElem? hx,rfl⟩)).2 b (mem_of_getElem? h2),h5,h6⟩
    have HTX:=hid (And.intro hT (And.intro hx hs));have HK1:=hid hk1;have HFT:=hid hfit;have HFR:=hid hfr;obtain⟨tn,htn⟩:=eX T.length;rw[<-htn]at cr hi;obtain⟨sA,sn,sc⟩:=s;simp only at hg' cr;subst hg';obtain⟨⟨lv,kids,piv,buf,prs⟩,⟨kA,kc,pA,pc,bA,bc,qA,qc⟩⟩:=x;simp only at c0 c1 c2 c3 c4;have hkw:IntKind.i64.wrap ((k:Int)-1)=(k1:Int):=(by rw[wrap_i64];omega);(have hdw:d≠0->IntKind.i64.wrap ((d:Int)-1)=((d-1:Nat):Int):=fun h=>by rw[wrap_i64];omega);clear hT hx hnd hTr hs hv hfit hfr htn hk1;go_upto_region 6 with fail
    have hb3:Bw wr (wr.alloc (.cells #[lv,.slice kA kids.length kc,.slice pA piv.length pc,.slice bA buf.length bc,.slice qA prs.length qc] 50)):=bAx;have hx3:=aH.new 50 wr #[lv,.slice kA kids.length kc,.slice pA piv.length pc,.slice bA buf.length bc,.slice qA prs.length qc];generalize wr.alloc (.cells #[lv,.slice kA kids.length kc,.slice pA piv.length pc,.slice bA buf.length bc,.slice qA prs.length qc] 50)=w3 at*;obtain⟨g3,hg3⟩:=eX wr.heap.size;rw[<-hg3]at hx3;simp only[<-hg3];have HX3:=hid hx3;have HB3:Hid (Bw w w3):=HB.trans (hb3.mono HB.size);replace HX:=hid ((show aH 73 wr g5 _ from HX.out).kept hb3);clear hg3 hb3 hx3 c0 c1 c2 c3 c4 cr HB;obtain⟨c0,c1,c2,c3,c4⟩:=bD HX3.out;obtain⟨m0,m1,m2⟩:=bW HX.out;have hf3:=HFR.kept HB3.out;by_cases hq:d=0\/k=1
    . have cP3:=cP _ _ HFT.out w3 hf3.in_
      simp only at cP3
      have hqq:((d:Int)==0)=true\/(((d:Int)==0)=false/\((k:Int)==1)=true):=by
       by_cases h1:d=0
       . left;simp[h1]
       . right
         exact⟨by simpa using h1,by simp;omega⟩
      obtain⟨bn,hbn⟩:=eX buf.length;obtain⟨L,hL⟩:=eX (uG buf (mk,md,mv));have HLL:=hid hL;rw[<-hbn]at c3 cP3;rw[<-hL]at cP3;obtain⟨ln,hln⟩:=eX L.length;have HLN:=hid hln;rw[<-hln]at cP3;clear hbn hL hln hf3 cP hdw;rcases hqq with hq1|⟨hq1,hq2⟩
      all_goals
       clear hq;go_upto_region 8 with(go_at_call 136;refine cP3.mono ?_;rintro e w7 ⟨⟨A7,c7,rfl,hv7⟩,hb7⟩;have HV7:=hid hv7;have HB7:Hid (Bw w w7):=HB3.trans (hb7.mono HB3.size);clear hv7 hb7 cP3 c0 c1 c2 c3 c4 m0 m1 m2)
       by_cases hle:(ln:Int)<=most
       . have ht7:=HH.kept (Rg.below HB7.out) (B:=B)
         obtain⟨-,hv7⟩:=ht7.rows k _ T HTX.2.2 HTX.1;obtain⟨gx,egx,-,-,-,c3,-⟩:=wR hv7 HTX.2.1;simp only[Option.some.injEq,Addr.mk.injEq,and_true]at egx;subst egx;have f3:=World.ownsRow.frozenAt hv7 (i*5+3);obtain⟨g8,s8,e8,hs8,-,cr,-⟩:=ht7.at_ HTX.1;simp only[Option.some.injEq,Addr.mk.injEq,and_true]at e8;subst e8;rw[HTX.2.2]at hs8;(cases hs8);simp only at cr c3;have hput:=TrW.put ht7 HTX.1 HTX.2.1 HTX.2.2 rfl (Fr.mono (Fr.iN HV7.out) (Nat.le_trans HB0.out HB3.size));rw[<-HLN.out]at hput;have HPT:=hid hput;have HBL:Hid (Flow.Into (rwS S) w (w7.setCell ⟨g',i*5+3,none⟩ (.slice A7 ln c7))):=(Flow.Into.of_below HB7.out).trans ⟨rfl,rfl,rfl,by simp[World.setCell],fun y _ hy=>aT _ fun e=>hy (e▸List.mem_flatMap.2 ⟨_,mem_of_getElem? HTX.2.2,List.mem_singleton.2 rfl⟩)⟩;obtain⟨tn2,QK⟩:=eX T.length;rw[<-QK]at cr
         have hi2:i<tn2:=by
          rw[QK];exact(List.getElem?_eq_some_iff.1 HTX.2.1).1
         clear ht7 hv7 hput QK hi;go_wp2_with fail
         refine bodyPost_ret (v:= .slice (some g) (K+1) c) (by simp[results,Tryz.results96,go_sem]) rfl ⟨rfl,⟨_,HPT.out,by rw[length_set,<-HN.out],.inr ⟨k,i,T.map (·.1),⟨lv,kids,piv,buf,prs⟩,hk0,jB HTX.1,by rw[List.getElem?_map,HTX.2.1];rfl,HO.out,by rw[<-HLL.out,<-HLN.out];exact hle,by rw[Md,HLL.out]⟩⟩,HBL.out⟩
       . have hgt:most<(ln:Int):=by omega
         clear hle;go_wp2_with fail
         exact bodyPost_ret (v:= .slice (some g) (K+1) c) (by simp[results,Tryz.results96,go_sem]) rfl ⟨rfl,⟨TT,HH.kept (Rg.below HB7.out),HN.symm,.inl rfl⟩,Flow.Into.of_below HB7.out⟩
    . have hq1:((d:Int)==0)=false:=by simp;omega
      have hq2:((k:Int)==1)=false:=(by simp;omega);have hd2:=hdw (by omega);obtain⟨b,hb,hb1,hb2,hpl,how⟩:=HKD.out;simp only at hb;obtain⟨bk,ok,e,-,ck⟩:=RdK.kid hf3.kids.rc.1 hb;simp only at e;subst e;have cW:∀w',Bw w3 w'->Hid (CB 33 #[.slice pA piv.length pc,.string mk] w' (.int .i64 (bX piv mk:Int))):=fun w' hb=>Ma HFT.out (hf3.in_.kept hb) mk
      have hki:bX piv mk<kids.length:=(List.getElem?_eq_some_iff.1 hb).1;have hbw:IntKind.i64.wrap (b:Int)=(b:Int):=(by rw[wrap_i64];omega);have hbs:IntKind.i64.wrap ((b:Int)-1)=((b-1:Nat):Int):=(by rw[wrap_i64];omega);obtain⟨i2,hi2⟩:=eX (b-1);rw[<-hi2]at hbs hpl how;obtain⟨d2,hdd⟩:=eX (d-1);rw[<-hdd]at hd2;have hd3:d2<=1000:=(by omega);obtain⟨wy,hwy⟩:=eX (bX piv mk);simp only[<-hwy]at cW hki ck;obtain⟨kn,hkn⟩:=eX kids.length;obtain⟨pn,hpn⟩:=eX piv.length;obtain⟨bn,hbn⟩:=eX buf.length;obtain⟨qn,hqn⟩:=eX prs.length;rw[<-hkn]at c1 hki;rw[<-hpn]at c2;simp only[<-hpn]at cW;rw[<-hbn]at c3;rw[<-hqn]at c4;have HPL:=hid (And.intro hpl how);simp only[<-hkn,<-hpn,<-hbn,<-hqn];clear hb hb1 hb2 hpl how hi2 hwy HKD HFT HFR hkn hpn hbn hqn hf3 hdw hq hdd cP;go_upto_region 12 with fail
      have z1:=ah.tc c1;have z2:=ah.tc c2;have zk:=ah.tc ck;have zm:=ah.tc m0;clear c0 c1 c2 c3 c4 ck m0 m1 m2;refine ah.aj [] [(0,[]),(1,[]),(2,[]),(3,[]),(4,[]),(5,[]),(6,[]),(7,[]),(8,[]),(9,[]),(10,[]),(11,[])] [] [] (by kernel_rfl) (by kernel_rfl) (by simp) ?_;simp only[ah.pick,ah.aM,ah.dL]
      repeat (refine ah.ak (fun K hK=>?_);go_simp;first|(refine hK _ ?_;clear hK K)|(apply Exists.intro;refine⟨fun q=>?_,hK _ ?_⟩;(go_at_call 33;exact(cW _ q.into.below).out);clear hK K))
      refine ah.walk_nil ?_;intro w6 hb6 _;simp only[lC,List.drop_nil,Nat.zero_add,Nat.reduceAdd];have HB6:Hid (Bw w w6):=HB3.trans (hb6.mono HB3.size);replace HX:=hid ((show aH 73 w3 g5 _ from HX.out).kept hb6);clear z1 z2 zk zm cW hb6 HB3 HX3;go_wp2_with fail
      go_roundg (k1+1)
      case measure=>have:=HK1.out;omega
      case rel=>
       have h1:=HK1.out;subst h1;exact⟨d2,i2,k1,hd3,by omega,rfl,rfl,rfl,rfl,HPL.1,HPL.2,HB6.out,HX.out⟩
  . obtain rfl:k=0:=by omega
    have hle:((0:Nat):Int)<=0:=(by omega);go_wp2_with fail
    exact bodyPost_ret (v:= .slice A (K+1) c) (by simp[results,Tryz.results96,go_sem]) rfl ⟨rfl,⟨TT,HH.kept (Rg.below HB.out),HN.symm,.inl rfl⟩,Flow.Into.of_below HB.out⟩
end Sk
end Go.Proofs.YtmcbidhpkpmalaaGreatDoor
namespace Go.Proofs.YtmcbidhpkpmalaaGreatDoor
open Go.RowKit
open Go.Lib (hid)
open List (getElem?_of_mem mem_of_getElem?)
namespace Sk
open Mem Lx Bu Lf Fa No Sh Bt Po
structure Lad(R0 R:List (List Nd))(k:Nat):Prop where
 len:R.length=R0.length
 sh:∀(j:Nat) (T:List Nd),R[j]? =some T->∃T0,R0[j]? =some T0/\T.length=T0.length/\∀(i:Nat) (n:Nd),T[i]? =some n->∃n0,T0[i]? =some n0/\n.lv=n0.lv/\n.kids=n0.kids/\n.piv=n0.piv/\n.prs=n0.prs
 few:∀(j:Nat) (T:List Nd) (n:Nd),R[j]? =some T->n∈T->n.buf.length<=k/\Ri n.buf/\∀m,m∈n.buf->m.1.size<=200
 pl:∀(j:Nat) (T:List Nd) (i:Nat) (n:Nd),R[j]? =some T->T[i]? =some n->∀m,m∈n.buf->1<=j/\OnW R0 m.1 j i
section
variable{R0 R R':List (List Nd)}{k:Nat}
theorem Lad.start(h:∀(j:Nat) (T:List Nd) (n:Nd),R0[j]? =some T->n∈T->n.buf=[]):Lad R0 R0 0:=by refine⟨rfl,fun j T hT=>⟨T,hT,rfl,fun i n hn=>⟨n,hn,rfl,rfl,rfl,rfl⟩⟩,fun j T n hT hn=>?_,fun j T i n hT hn m hm=>?_⟩;(. rw[h j T n hT hn];exact⟨Nat.le_refl _,.nil,fun m hm=>by cases hm⟩);. rw[h j T n hT (mem_of_getElem? hn)]at hm;cases hm
theorem Lad.nodeAt(h:Lad R0 R k)(j i:Nat)(key:ByteArray):gN (nodeAt R j i) key=gN (nodeAt R0 j i) key:=by unfold Sk.nodeAt;cases hT:R[j]? with|none=>(have h1:R0[j]? =none:=by rw[List.getElem?_eq_none_iff]at hT ⊢;rw[<-h.len];exact hT);rw[h1]|some T=>(obtain⟨T0,hT0,hl,hs⟩:=h.sh j T hT;rw[hT0,Option.getD_some,Option.getD_some];cases hn:T[i]? with|none=>(have h1:T0[i]? =none:=by rw[List.getElem?_eq_none_iff]at hn ⊢;rw[<-hl];exact hn);rw[h1]|some n=>obtain⟨n0,hn0,-,h2,h3,-⟩:=hs i n hn;rw[hn0,Option.getD_some,Option.getD_some];unfold gN;rw[h2,h3])
theorem Lad.ats(h:Lad R0 R k)(key:ByteArray):∀(j i:Nat),ats R key j i=Sk.ats R0 key j i
 |0,_=>rfl
 |j+1,i=>by unfold Sk.ats;rw[h.nodeAt,h.ats key]
theorem Lad.onW(h:Lad R0 R k){key:ByteArray}{j i:Nat}(ho:OnW R key j i):OnW R0 key j i:=by obtain⟨h1,h2⟩:=ho;rw[h.len]at h1 h2;rw[h.ats]at h2;exact⟨h1,h2⟩
theorem Lad.wf(h:Lad R0 R k)(hw:Wf R0):Wf R:=by refine⟨by rw[h.len];exact hw.ne,by rw[h.len];exact hw.few,fun T hT=>?_,fun j T hT n hn=>?_,fun j T T' hT hT' n hn=>?_⟩;(. obtain⟨T0,hT0,hl,-⟩:=h.sh _ T hT;rw[h.len]at hT0;rw[hl];exact hw.top T0 hT0);(. obtain⟨i,hi⟩:=getElem?_of_mem hn;obtain⟨T0,hT0,-,hs⟩:=h.sh j T hT;obtain⟨n0,hn0,h1,-⟩:=hs i n hi;rw[h1];exact hw.lv j T0 hT0 n0 (mem_of_getElem? hn0));. obtain⟨i,hi⟩:=getElem?_of_mem hn;obtain⟨T0,hT0,-,hs⟩:=h.sh _ T hT;obtain⟨T0',TJ,hl,-⟩:=h.sh _ T' hT';obtain⟨n0,hn0,-,h1,h2,-⟩:=hs i n hi;rw[h1,h2,hl];exact hw.kid j T0 T0' hT0 TJ n0 (mem_of_getElem? hn0)
theorem Lad.fits(h:Lad R0 R k)(hf:Fits R0)(hk:k<=150):Fits R:=fun j T hT n hn=>by obtain⟨i,hi⟩:=getElem?_of_mem hn;obtain⟨T0,hT0,-,hs⟩:=h.sh j T hT;obtain⟨n0,hn0,-,h1,h2,h3⟩:=hs i n hi;obtain⟨f,g⟩:=hf j T0 hT0 n0 (mem_of_getElem? hn0);obtain⟨b1,-,b2⟩:=h.few j T n hT hn;exact⟨⟨by rw[h1];exact f.kids,by rw[h2];exact f.piv,by omega,by rw[h3];exact f.prs,by rw[h2];exact f.pk,b2,by rw[h3];exact f.qk⟩,by rw[h1];exact g⟩
theorem Lad.put(h:Lad R0 R k){m:Mg}{most:Int}(hm:m.1.size<=200)(hp:PU R R' m most):Lad R0 R' (k+1):=by rcases hp with rfl|⟨j,i,T,n,hj,hT,hn,ho,-,rfl⟩;(. exact⟨h.len,h.sh,fun j T n hT hn=>⟨Nat.le_succ_of_le (h.few j T n hT hn).1,(h.few j T n hT hn).2⟩,h.pl⟩);. have hjl:=(List.getElem?_eq_some_iff.1 hT).1;have hil:=(List.getElem?_eq_some_iff.1 hn).1;(have cs:∀{j2:Nat} {T2:List Nd},(R.set j (T.set i (MP n (uG n.buf m))))[j2]? =some T2->(j2=j/\T2=T.set i (MP n (uG n.buf m)))\/R[j2]? =some T2:=fun{j2 T2} h2=>by by_cases e:j2=j;(. subst e;rw[List.getElem?_set_self hjl]at h2;exact .inl ⟨rfl,(Option.some.inj h2).symm⟩);. rw[List.getElem?_set_ne (fun e'=>e e'.symm)]at h2;exact .inr h2);(have ct:∀{i2:Nat} {n2:Nd},(T.set i (MP n (uG n.buf m)))[i2]? =some n2->(i2=i/\n2=MP n (uG n.buf m))\/T[i2]? =some n2:=fun{i2 n2} h2=>by by_cases e:i2=i;(. subst e;rw[List.getElem?_set_self hil]at h2;exact .inl ⟨rfl,(Option.some.inj h2).symm⟩);. rw[List.getElem?_set_ne (fun e'=>e e'.symm)]at h2;exact .inr h2);obtain⟨b1,b2,b3⟩:=h.few j T n hT (mem_of_getElem? hn);refine⟨by rw[List.length_set];exact h.len,fun j2 T2 h2=>?_,fun j2 T2 n2 h2 hn2=>?_,fun j2 T2 i2 n2 h2 hn2 m2 hm2=>?_⟩;(. (rcases cs h2 with⟨rfl,rfl⟩|h2);(. obtain⟨T0,hT0,hl,hs⟩:=h.sh _ T hT;(refine⟨T0,hT0,by rw[List.length_set];exact hl,fun i2 n2 hn2=>?_⟩;rcases ct hn2 with⟨rfl,rfl⟩|hn2);(. exact hs _ n hn);. exact hs i2 n2 hn2);. exact h.sh j2 T2 h2);(. obtain⟨i2,hi2⟩:=getElem?_of_mem hn2;have old:∀{j3:Nat} {T3:List Nd},R[j3]? =some T3->T3[i2]? =some n2->n2.buf.length<=k+1/\Ri n2.buf/\∀m,m∈n2.buf->m.1.size<=200:=fun{j3 T3} h3 h4=>⟨Nat.le_succ_of_le (h.few j3 T3 n2 h3 (mem_of_getElem? h4)).1,(h.few j3 T3 n2 h3 (mem_of_getElem? h4)).2⟩;(rcases cs h2 with⟨rfl,rfl⟩|h2);(. (rcases ct hi2 with⟨rfl,rfl⟩|hi2);(. refine⟨Nat.le_trans (b2.Lp m) (Nat.succ_le_succ b1),b2.put m,fun m3 hm3=>?_⟩;rcases zP.1 hm3 with rfl|⟨h4,-⟩;(. exact hm);. exact b3 m3 h4);. exact old hT hi2);. exact old h2 hi2);. (rcases cs h2 with⟨rfl,rfl⟩|h2);(. (rcases ct hn2 with⟨rfl,rfl⟩|hn2);(. rcases zP.1 hm2 with rfl|⟨h4,-⟩;(. exact⟨hj,h.onW ho⟩);. exact h.pl _ T _ n hT hn m2 h4);. exact h.pl _ T i2 n2 hT hn2 m2 hm2);. exact h.pl j2 T2 i2 n2 h2 hn2 m2 hm2
end
theorem FC{w:World}{B c:Nat}{A:Option Addr}{S:List (Option Addr × Nat × Nat)}{TT:List (List (Nd × At))}{R0:List (List Nd)}(h:TrW w B A c S TT)(hB:B<=w.heap.size)(hw:Wf R0)(hf:Fits R0)(hL:Lad R0 (nds TT) 0){Am:Option Addr}{cm:Nat}{M:List Mg}{Bm:Nat}(hM:VK MgK w Bm Am cm M)(hMl:M.length<=100)(hMk:∀m,m∈M->m.1.size<=200){Ad':Option Addr}{cd:Nat}{dl:List UInt8}(hd:BL w Ad' dl)(hdB:∀a,0<dl.length->Ad'=some a->a.block<B)(most:Int):Calls Tryz.prog 58 #[.slice A TT.length c,.slice Am M.length cm,.slice Ad' dl.length cd,most] w fun e w'=>e=.returned (.slice A TT.length c)/\(∃TT',TrW w' B A c S TT'/\TT'.length=TT.length/\Lad R0 (nds TT') M.length)/\Flow.Into (rwS S) w w':=by (have hrow:∀x,x∈rwS S->B<=x:=fun x hx=>by obtain⟨s,hs,hx⟩:=List.mem_flatMap.1 hx;obtain⟨k,hk⟩:=getElem?_of_mem hs;obtain⟨a,ha,rfl⟩:=bU hx;obtain⟨T,hT⟩:∃T,TT[k]? =some T:=⟨_,List.getElem?_eq_getElem (by rw[<-h.len];exact(List.getElem?_eq_some_iff.1 hk).1)⟩;exact((h.rows k s T hk hT).2.at_ a ha).1);(have hMS:∀a,Am=some a->a.block∉rwS S:=fun a ha hx=>by obtain⟨s,hs,hx⟩:=List.mem_flatMap.1 hx;obtain⟨k,hk⟩:=getElem?_of_mem hs;obtain⟨b,hb,e⟩:=bU hx;obtain⟨T,hT⟩:∃T,TT[k]? =some T:=⟨_,List.getElem?_eq_getElem (by rw[<-h.len];exact(List.getElem?_eq_some_iff.1 hk).1)⟩;exact nQ (h.rows k s T hk hT).2 hM (by decide) hb ha e);have hK:∀w',Flow.Into (rwS S) w w'->VK MgK w' Bm Am cm M/\BL w' Ad' dl:=fun w' hi=>⟨hM.into hi hMS,hd.keep fun h0 a ha=>hi.block _ (hd.lt h0 a ha) fun hx=>by have:=hrow _ hx;have:=hdB a h0 ha;omega⟩;have HK:=hid hK;have HW:=hid hw;have HF:=hid hf;have HMK:=hid hMk;have HH0:=hid h;have HL0:=hid hL;have cP:∀(w':World) (TT':List (List (Nd × At))) (k:Nat) (m:Mg) (d:Nat),TrW w' B A c S TT'->Flow.Into (rwS S) w w'->Lad R0 (nds TT') k->k<100->m.1.size<=200->d<=1000->Hid (Calls Tryz.prog 96 #[.slice A TT'.length c,mgV m,(d:Int),most] w' fun e w''=>e=.returned (.slice A TT'.length c)/\(∃TT2,TrW w'' B A c S TT2/\TT2.length=TT'.length/\PU (nds TT') (nds TT2) m most)/\Flow.Into (rwS S) w' w''):=fun w' TT' k m d h1 h2 h3 h4 h5 h6=>FB h1 (Nat.le_trans hB h2.size) (h3.wf hw) (h3.fits hf (by omega)) m (by omega) d h6 most;(obtain⟨N,hN⟩:=eX TT.length;have HN:=hid hN;have hn0:1<=N:=by rw[hN,<-dW,hL.len];exact hw.ne);(have hn7:N<=7:=by rw[hN,<-dW,hL.len];exact hw.few);obtain⟨mn,hmn⟩:=eX M.length;have HMN:=hid hmn;obtain⟨dn,hdn⟩:=eX dl.length;have HDN:=hid hdn;rw[<-hmn]at hMl;rw[<-hN,<-hmn,<-hdn];clear h hB hw hf hL hM hMk hd hdB hrow hMS hK hN hmn hdn;go_enter Tryz.func58,Tryz.ntmps58;go_upto_region 2 with fail;go_loopg[0,9] mn (fun gk s0 s9 wr=>∃(k:Nat) (TT':List (List (Nd × At))),k<=mn/\gk=mn-k/\s0= .slice A N c/\s9= .int .i64 (k:Int)/\Hid (TrW wr B A c S TT')/\Hid (TT'.length=N)/\Hid (Lad R0 (nds TT') k)/\Hid (Flow.Into (rwS S) w wr));(case atStart=>exact⟨0,TT,Nat.zero_le _,rfl,rfl,rfl,HH0.out,HN.symm,HL0.out,Flow.Into.refl _ _⟩);case round=>clear HH0 HL0;obtain⟨k,TT',hk,rfl,rfl,rfl,HT,HTN,HL,HI⟩:=hrel;by_cases hlt:k<mn;(. obtain⟨m,hm⟩:∃m,M[k]? =some m:=⟨_,List.getElem?_eq_getElem (by rw[<-HMN.out];exact hlt)⟩;obtain⟨hv,hbl⟩:=HK.out wr HI.out;obtain⟨b,o,e,-,m0,m1,m2⟩:=RdK.msg hv.rd hm;subst e;have hms:=HMK.out m (mem_of_getElem? hm);have cQ:=fun d hd=>cP wr TT' k m d HT.out HI.out HL.out (by omega) hms hd;simp only[HTN.out]at cQ;have HST:Hid (∀TT2,PU (nds TT') (nds TT2) m most->Lad R0 (nds TT2) (k+1)):=fun TT2 hp=>HL.put hms hp;obtain⟨mk,md,mv⟩:=m;unfold mgV at cQ;simp only at m0 m1 m2 cQ;have hw2:IntKind.i64.wrap ((k:Int)+1)=((k+1:Nat):Int):=(by rw[IntKind.wrap_i64];omega);clear cP hv hm hms HT HL;by_cases hkd:k<dn;(. obtain⟨bd,od,e,cd'⟩:=hbl.at_ (by rw[<-HDN.out];exact hkd);subst e;generalize dl[k]=y at*;have hyl:y.toNat<=255:=(by have:=UInt8.toNat_lt y;omega);obtain⟨yn,hyn⟩:=eX y.toNat;rw[<-hyn]at cd' hyl;have hyw:IntKind.i64.wrap (yn:Int)=(yn:Int):=(by rw[IntKind.wrap_i64];omega);have hym:(yn:Int).tmod (N:Int)=((yn % N:Nat):Int):=rfl;have hNz:(N:Int)≠0:=(by omega);have hml:yn % N<=1000:=(by have:=Nat.mod_lt yn (show N>0 by omega);omega);have cQ2:=cQ (yn % N) hml;generalize yn % N=d at*;clear cQ hbl hyn hml;go_wp2_with (go_at_call 96;refine cQ2.mono ?_;rintro e w4 ⟨rfl,⟨TT2,ht,hn2,hp⟩,hi⟩;have HT2:=hid ht;have HN2:=hid hn2;have HP2:=hid hp;have HI2:=hid hi;clear ht hn2 hp hi cQ2);have HL2:=hid (HST.out TT2 HP2.out);have HI3:=hid (HI.trans HI2.out);go_roundg (mn-(k+1));(case measure=>omega);case rel=>exact⟨k+1,TT2,hlt,rfl,rfl,by go_num,HT2.out,HN2.out,HL2.out,HI3.out⟩);. (have hge:dn<=k:=by omega);have cQ2:=cQ 0 (by decide);rw[show((0:Nat):Int)=0 from rfl]at cQ2;clear cQ hbl hkd;go_wp2_with (go_at_call 96;refine cQ2.mono ?_;rintro e w4 ⟨rfl,⟨TT2,ht,hn2,hp⟩,hi⟩;have HT2:=hid ht;have HN2:=hid hn2;have HP2:=hid hp;have HI2:=hid hi;clear ht hn2 hp hi cQ2);have HL2:=hid (HST.out TT2 HP2.out);have HI3:=hid (HI.trans HI2.out);go_roundg (mn-(k+1));(case measure=>omega);case rel=>exact⟨k+1,TT2,hlt,rfl,rfl,by go_num,HT2.out,HN2.out,HL2.out,HI3.out⟩);. (obtain rfl:k=mn:=by omega);go_wp2_with fail;exact bodyPost_ret (v:= .slice A N c) (by simp[results,Tryz.results58,go_sem]) rfl ⟨rfl,⟨TT',HT.out,HTN.out,HL.out⟩,HI.out⟩
end Sk
end Go.Proofs.YtmcbidhpkpmalaaGreatDoor
namespace Go.Proofs.YtmcbidhpkpmalaaGreatDoor
open Go.RowKit
open List (getElem?_append_left getElem?_drop getElem?_eq_getElem length_append length_eq_one_iff mem_append mem_of_getElem? mem_singleton)
namespace Sk
open Mem Lx Bu Lf Fa No Sh Bt Po
structure Seg(lo hi:List ByteArray):Prop where
 len:lo.length=hi.length
 le:∀(i:Nat) (a b:ByteArray),lo[i]? =some a->hi[i]? =some b->aG a b<=0
 lt:∀(i j:Nat) (b a:ByteArray),i<j->hi[i]? =some b->lo[j]? =some a->aG b a<0
 sz:(∀a,a∈lo->a.size<=200)/\∀b,b∈hi->b.size<=200
def Btw(lo hi:List ByteArray)(i:Nat)(q:ByteArray):Prop:=∃a b,lo[i]? =some a/\hi[i]? =some b/\aG a q<=0/\aG q b<=0
theorem dw{α:Type}{L:List α}{x y:α}{i:Nat}(h:(L++[x])[i]? =some y):L[i]? =some y\/(i=L.length/\y=x):=by rcases Nat.lt_or_ge i L.length with h1|h1;(. rw[getElem?_append_left h1]at h;exact .inl h);. rw[List.getElem?_append_right h1]at h;have h2:=(List.getElem?_eq_some_iff.1 h).1;have h3:i=L.length:=(by simp at h2;omega);subst h3;simp at h;exact .inr ⟨rfl,h.symm⟩
theorem nR{α:Type}{L:List α}{x y:α}{i:Nat}(h:L[i]? =some y):(L++[x])[i]? =some y:=by rw[getElem?_append_left (List.getElem?_eq_some_iff.1 h).1];exact h
theorem eU{α:Type}{L:List α}{x:α}:(L++[x])[L.length]? =some x:=by simp
theorem Seg.app{lo hi:List ByteArray}(h:Seg lo hi){a b:ByteArray}(hab:aG a b<=0)(hl:∀c,c∈hi->aG c a<0)(ha:a.size<=200)(hb:b.size<=200):Seg (lo++[a]) (hi++[b]):=by refine⟨by simp[h.len],fun i x y hx hy=>?_,fun i j x y hij hx hy=>?_,fun x hx=>?_,fun x hx=>?_⟩;(. rcases dw hx with h1|⟨h1,rfl⟩<;>rcases dw hy with h2|⟨h2,rfl⟩;(. exact h.le i x y h1 h2);(. have:=(List.getElem?_eq_some_iff.1 h1).1;have:=h.len;omega);(. have:=(List.getElem?_eq_some_iff.1 h2).1;have:=h.len;omega);. exact hab);(. rcases dw hx with h1|⟨h1,rfl⟩<;>rcases dw hy with h2|⟨h2,rfl⟩;(. exact h.lt i j x y hij h1 h2);(. exact hl x (mem_of_getElem? h1));(. have:=(List.getElem?_eq_some_iff.1 h2).1;have:=h.len;omega);. have:=h.len;omega);(. rcases mem_append.1 hx with h1|h1;(. exact h.sz.1 x h1);. obtain rfl:=mem_singleton.1 h1;exact ha);. rcases mem_append.1 hx with h1|h1;(. exact h.sz.2 x h1);. obtain rfl:=mem_singleton.1 h1;exact hb
theorem Btw.app{lo hi:List ByteArray}{i:Nat}{q a b:ByteArray}(h:Btw lo hi i q):Btw (lo++[a]) (hi++[b]) i q:=by obtain⟨x,y,h1,h2,h3⟩:=h;exact⟨x,y,nR h1,nR h2,h3⟩
theorem BI{R:List (List Nd)}{T:List Nd}{j i:Nat}(h:j<R.length):nodeAt (R++[T]) j i=nodeAt R j i:=by unfold nodeAt;rw[getElem?_append_left h]
theorem FD{R:List (List Nd)}{T:List Nd}(key:ByteArray):∀(j i:Nat),j<=R.length->ats (R++[T]) key j i=ats R key j i
 |0,_,_=>rfl
 |j+1,i,h=>by unfold ats;rw[BI (by omega),FD key j _ (by omega)]
structure Lay(L0:List Pr)(R:List (List Nd))(lo hi:List ByteArray):Prop where
 ne:0<R.length
 lv:∀(j:Nat) (T:List Nd),R[j]? =some T->∀n,n∈T->n.lv=(j:Int)/\n.buf=[]/\Fit n/\∀b,b∈n.kids->b<4294967296
 kid:∀(j:Nat) (T T':List Nd),R[j+1]? =some T->R[j]? =some T'->∀n,n∈T->n.kids.length=n.piv.length+1/\∀b,b∈n.kids->1<=b/\b<=T'.length
 prs:∀T,R[0]? =some T->T.flatMap (·.prs)=L0
 leaf:∀T,R[0]? =some T->T.length<=L0.length+1/\∀n,n∈T->n.kids=[]/\n.piv=[]
 many:∀(j:Nat) (T:List Nd),R[j]? =some T->j+1<R.length->1<T.length
 seg:Seg lo hi
 top:∀T,R[R.length-1]? =some T->T.length=lo.length/\0<T.length
 cov:∀(T:List Nd) (l:Nat) (n:Nd),R[0]? =some T->T[l]? =some n->∀p,p∈n.prs->∃i,Btw lo hi i p.1/\(ats R p.1 R.length i)[R.length-1]? =some l
structure UpS(V:Int)(lo hi:List ByteArray)(i:Nat)(U:List Nd)(a b:List ByteArray):Prop where
 at_:i<=lo.length
 len:U.length=a.length
 seg:Seg a b
 nd:∀n,n∈U->n.lv=V/\n.buf=[]/\Fit n/\(∀b,b∈n.kids->b<4294967296)/\n.kids.length=n.piv.length+1/\n.prs=[]/\∀b,b∈n.kids->1<=b/\b<=i
 last:∀(c:ByteArray) (j:Nat) (x:ByteArray),c∈b->i<=j->lo[j]? =some x->aG c x<0
 cov:∀m,m<i->∃t n,U[t]? =some n/\∀q,Btw lo hi m q->Btw a b t q/\gN n q=m
 pos:0<i->0<U.length
 cnt:U.length<=i
theorem UpS.start(V:Int)(lo hi:List ByteArray):UpS V lo hi 0 [] [] []:=⟨Nat.zero_le _,rfl,⟨rfl,(fun i a b h=>by simp at h),(fun i j b a _ h=>by simp at h),(fun a h=>by cases h),fun a h=>by cases h⟩,(fun n h=>by cases h),(fun c j x h=>by cases h),(fun m h=>absurd h (by omega)),(fun h=>absurd h (by omega)),Nat.le_refl _⟩
structure PvS(lo hi:List ByteArray)(i k:Nat)(P:List ByteArray):Prop where
 len:P.length=k-1
 mid:∀(j:Nat) (p a b:ByteArray),P[j]? =some p->hi[i+j]? =some a->lo[i+j+1]? =some b->aG a p<0/\aG p b<=0
 sz:∀p,p∈P->p.size<=200
def kdS(i k:Nat):List Nat:=(List.range k).map fun j=>i+j+1
theorem Jf(i k:Nat):kdS i (k+1)=kdS i k++[i+k+1]:=by unfold kdS;rw[List.range_succ,List.map_append];rfl
theorem jV(i k:Nat):(kdS i k).length=k:=by simp[kdS]
theorem OO{i k j:Nat}(h:j<k):(kdS i k)[j]? =some (i+j+1):=by simp[kdS,h]
theorem FE{i k b:Nat}:b∈kdS i k↔i+1<=b/\b<=i+k:=by simp only[kdS,List.mem_map,List.mem_range];constructor;(. rintro⟨j,hj,rfl⟩;omega);. intro h;exact⟨b-i-1,by omega,by omega⟩
theorem PvS.next{lo hi:List ByteArray}{i k:Nat}{P:List ByteArray}(h:PvS lo hi i k P)(hk:1<=k){a b p:ByteArray}(ha:hi[i+k-1]? =some a)(hb:lo[i+k]? =some b)(h1:aG a p<0)(h2:aG p b<=0)(hs:p.size<=200):PvS lo hi i (k+1) (P++[p]):=by refine⟨by rw[length_append,h.len];simp;omega,fun j q x y hq hx hy=>?_,fun q hq=>?_⟩;(. rcases dw hq with h3|⟨h3,rfl⟩;(. exact h.mid j q x y h3 hx hy);. rw[h.len]at h3;subst h3;rw[show i+(k-1)=i+k-1 from by omega,ha]at hx;rw[show i+(k-1)+1=i+k from by omega,hb]at hy;(cases hx);(cases hy);exact⟨h1,h2⟩);. rcases mem_append.1 hq with h3|h3;(. exact h.sz q h3);. obtain rfl:=mem_singleton.1 h3;exact hs
theorem PvS.way{lo hi:List ByteArray}{i k:Nat}{P:List ByteArray}(h:PvS lo hi i k P)(hs:Seg lo hi)(hl:i+k<=lo.length){j:Nat}(hj:j<k){q:ByteArray}(hq:Btw lo hi (i+j) q):bX P q=j:=by have hlen:=hs.len;(have hSR:SRi P:=by refine List.pairwise_iff_getElem.2 fun x y hx hy hxy=>?_;have hx':P[x]? =some P[x]:=getElem?_eq_getElem hx;have hy':P[y]? =some P[y]:=getElem?_eq_getElem hy;have hpl:=h.len;obtain⟨a1,e1⟩:∃a,hi[i+x]? =some a:=⟨_,getElem?_eq_getElem (by omega)⟩;obtain⟨b1,f1⟩:∃b,lo[i+x+1]? =some b:=⟨_,getElem?_eq_getElem (by omega)⟩;obtain⟨a2,e2⟩:∃a,hi[i+y]? =some a:=⟨_,getElem?_eq_getElem (by omega)⟩;obtain⟨b2,f2⟩:∃b,lo[i+y+1]? =some b:=⟨_,getElem?_eq_getElem (by omega)⟩;have m1:=h.mid x _ a1 b1 hx' e1 f1;have m2:=h.mid y _ a2 b2 hy' e2 f2;(have m3:aG b1 a2<=0:=by rcases Nat.lt_or_ge (x+1) y with h3|h3;(. obtain⟨c,ec⟩:∃c,hi[i+x+1]? =some c:=⟨_,getElem?_eq_getElem (by omega)⟩;obtain⟨d,ed⟩:∃d,lo[i+y]? =some d:=⟨_,getElem?_eq_getElem (by omega)⟩;have n1:=hs.le _ _ _ f1 ec;have n2:=hs.lt (i+x+1) (i+y) c d (by omega) ec ed;have n3:=hs.le _ _ _ ed e2;exact oJ n1 (oJ (by omega) n3));. (obtain rfl:y=x+1:=by omega);exact hs.le _ _ _ f1 e2);exact GX (oJ m1.2 m3) m2.1);obtain⟨a,b,ha,hb,h1,h2⟩:=hq;have hpl:=h.len;refine((hSR.zw q j (by omega)).1 ⟨fun p h0 hp=>?_,fun p hp=>?_⟩).symm;(. obtain⟨x,hx⟩:∃x,hi[i+(j-1)]? =some x:=⟨_,getElem?_eq_getElem (by omega)⟩;exact oJ (h.mid (j-1) p x a hp hx (by rw[show i+(j-1)+1=i+j from by omega];exact ha)).2 h1);. obtain⟨y,hy⟩:∃y,lo[i+j+1]? =some y:=⟨_,getElem?_eq_getElem (by have:=(List.getElem?_eq_some_iff.1 hp).1;omega)⟩;exact GX h2 (h.mid j p b y hp hb hy).1
theorem UpS.next{V:Int}{lo hi:List ByteArray}{i k:Nat}{U:List Nd}{a b P:List ByteArray}(h:UpS V lo hi i U a b)(hs:Seg lo hi)(hk:1<=k)(hk2:k<=80)(hl:i+k<=lo.length)(hlb:lo.length<4294967000)(hP:PvS lo hi i k P){x y:ByteArray}(hx:lo[i]? =some x)(hy:hi[i+k-1]? =some y):UpS V lo hi (i+k) (U++[⟨V,kdS i k,P,[],[]⟩]) (a++[x]) (b++[y]):=by have hlen:=hs.len;(have hxy:aG x y<=0:=by rcases Nat.lt_or_ge 1 k with h1|h1;(. obtain⟨c,hc⟩:∃c,hi[i]? =some c:=⟨_,getElem?_eq_getElem (by omega)⟩;obtain⟨d,hd⟩:∃d,lo[i+k-1]? =some d:=⟨_,getElem?_eq_getElem (by omega)⟩;have h2:=hs.le _ _ _ hx hc;have h3:=hs.lt i (i+k-1) c d (by omega) hc hd;have h4:=hs.le _ _ _ hd hy;exact oJ h2 (oJ (by omega) h4));. (obtain rfl:k=1:=by omega);exact hs.le _ _ _ hx (by simpa using hy));(have hbl:b.length=U.length:=by rw[h.len,h.seg.len]);refine⟨hl,by simp[h.len],h.seg.app hxy (fun c hc=>h.last c i x hc (Nat.le_refl _) hx) (hs.sz.1 x (mem_of_getElem? hx)) (hs.sz.2 y (mem_of_getElem? hy)),fun n hn=>?_,fun c j z hc hj hz=>?_,fun m hm=>?_,fun _=>by simp,by have:=h.cnt;simp;omega⟩;(. rcases mem_append.1 hn with h1|h1;(. obtain⟨n1,n2,n3,n4,n5,n6,n7⟩:=h.nd n h1;exact⟨n1,n2,n3,n4,n5,n6,fun q hq=>⟨(n7 q hq).1,Nat.le_trans (n7 q hq).2 (Nat.le_add_right _ _)⟩⟩);. obtain rfl:=mem_singleton.1 h1;refine⟨rfl,rfl,⟨by rw[jV];exact hk2,by rw[hP.len];omega,Nat.zero_le _,Nat.zero_le _,hP.sz,(fun p hp=>by cases hp),fun p hp=>by cases hp⟩,fun q hq=>?_,by rw[jV,hP.len];omega,rfl,fun q hq=>?_⟩;(. have:=FE.1 hq;omega);. have:=FE.1 hq;omega);(. rcases mem_append.1 hc with h1|h1;(. exact h.last c j z h1 (by omega) hz);. obtain rfl:=mem_singleton.1 h1;exact hs.lt (i+k-1) j c z (by omega) hy hz);. rcases Nat.lt_or_ge m i with h1|h1;(. obtain⟨t,n,ht,hc⟩:=h.cov m h1;exact⟨t,n,nR ht,fun q hq=>⟨(hc q hq).1.app,(hc q hq).2⟩⟩);. refine⟨U.length,_,eU,fun q hq=>⟨?_,?_⟩⟩;(. obtain⟨c,d,hc,hd,h3,h4⟩:=hq;refine⟨x,y,by rw[h.len];exact eU,by rw[<-hbl];exact eU,?_,?_⟩;(. rcases Nat.lt_or_ge i m with h5|h5;(. obtain⟨e,he⟩:∃e,hi[i]? =some e:=⟨_,getElem?_eq_getElem (by omega)⟩;have h6:=hs.le _ _ _ hx he;have h7:=hs.lt i m e c h5 he hc;exact oJ h6 (oJ (by omega) h3));. (obtain rfl:m=i:=by omega);rw[hx]at hc;(cases hc);exact h3);. rcases Nat.lt_or_ge m (i+k-1)with h5|h5;(. obtain⟨e,he⟩:∃e,lo[i+k-1]? =some e:=⟨_,getElem?_eq_getElem (by omega)⟩;have h6:=hs.lt m (i+k-1) d e h5 hd he;have h7:=hs.le _ _ _ he hy;exact oJ h4 (oJ (by omega) h7));. (obtain rfl:m=i+k-1:=by omega);rw[hy]at hd;(cases hd);exact h4);. have hw:=hP.way hs hl (j:=m-i) (by omega) (by rw[show i+(m-i)=m from by omega];exact hq);unfold gN;show((kdS i k)[bX P q]?).getD 0-1=m;rw[hw,OO (by omega),Option.getD_some];omega
theorem Lay.next{L0:List Pr}{R:List (List Nd)}{lo hi:List ByteArray}{U:List Nd}{a b:List ByteArray}(h:Lay L0 R lo hi)(hu:UpS (R.length:Int) lo hi lo.length U a b)(h1:1<lo.length):Lay L0 (R++[U]) a b:=by have hne:=h.ne;obtain⟨T,hT⟩:∃T,R[R.length-1]? =some T:=⟨_,getElem?_eq_getElem (by omega)⟩;obtain⟨ht1,ht2⟩:=h.top T hT;refine⟨by simp,fun j T' hj n hn=>?_,fun j T1 T2 h1 h2 n hn=>?_,fun T' hT'=>?_,fun T' hT'=>h.leaf T' (by rw[getElem?_append_left hne]at hT';exact hT'),fun j T' hj hl=>?_,hu.seg,fun T' hT'=>?_,fun T' l n hT' hn p hp=>?_⟩;(. rcases dw hj with h1|⟨rfl,rfl⟩;(. exact h.lv j T' h1 n hn);. obtain⟨n1,n2,n3,n4,-⟩:=hu.nd n hn;exact⟨n1,n2,n3,n4⟩);(. rcases dw h1 with h3|⟨h3,rfl⟩;(. (have h4:R[j]? =some T2:=by rw[getElem?_append_left (by have:=(List.getElem?_eq_some_iff.1 h3).1;omega)]at h2;exact h2);exact h.kid j T1 T2 h3 h4 n hn);. (have h4:R[R.length-1]? =some T2:=by rw[getElem?_append_left (by omega)]at h2;rw[<-h3];exact h2);obtain⟨h5,-⟩:=h.top T2 h4;obtain⟨-,-,-,-,n5,-,n7⟩:=hu.nd n hn;exact⟨n5,fun q hq=>by rw[h5];exact n7 q hq⟩);(. rw[getElem?_append_left hne]at hT';exact h.prs T' hT');(. rw[length_append,List.length_singleton]at hl;rcases dw hj with h3|⟨rfl,-⟩;(. rcases Nat.lt_or_ge (j+1) R.length with h4|h4;(. exact h.many j T' h3 h4);. have:=h.top T' (by rw[show R.length-1=j from by omega];exact h3);omega);. omega);(. rw[length_append,List.length_singleton,Nat.add_sub_cancel,eU]at hT';(cases hT');exact⟨hu.len,hu.pos (by omega)⟩);. rw[getElem?_append_left hne]at hT';obtain⟨i,hi',ha⟩:=h.cov T' l n hT' hn p hp;(have hil:i<lo.length:=by obtain⟨x,-,hx,-⟩:=hi';exact(List.getElem?_eq_some_iff.1 hx).1);obtain⟨t,u,hut,hc⟩:=hu.cov i hil;obtain⟨h1,h2⟩:=hc p.1 hi';refine⟨t,h1,?_⟩;rw[length_append,List.length_singleton];unfold ats;rw[FD _ _ _ (Nat.le_refl _)];have h3:nodeAt (R++[U]) R.length t=u:=bR eU hut;rw[h3,h2,Nat.add_sub_cancel];obtain⟨r,hr⟩:∃r,R.length=r+1:=⟨R.length-1,by omega⟩;rw[hr,List.getElem?_cons_succ];rw[hr]at ha;exact ha
theorem Lay.wf{L0:List Pr}{R:List (List Nd)}{lo hi:List ByteArray}(h:Lay L0 R lo hi)(h1:lo.length<=1)(h7:R.length<=7):Wf R/\Fits R/\Lad R R 0/\∀(T:List Nd) (l:Nat) (n:Nd),R[0]? =some T->T[l]? =some n->∀p,p∈n.prs->OnW R p.1 0 l:=by refine⟨⟨h.ne,h7,fun T hT=>?_,fun j T hT n hn=>(h.lv j T hT n hn).1,h.kid⟩,fun j T hT n hn=>(h.lv j T hT n hn).2.2,Lad.start fun j T n hT hn=>(h.lv j T hT n hn).2.1,fun T l n hT hn p hp=>?_⟩;(. have:=h.top T hT;omega);. obtain⟨i,⟨x,-,hx,-⟩,ha⟩:=h.cov T l n hT hn p hp;have:=(List.getElem?_eq_some_iff.1 hx).1;obtain rfl:i=0:=(by omega);exact⟨h.ne,by rw[Nat.sub_zero];exact ha⟩
structure LfS(L0:List Pr)(q:Nat)(U:List Nd)(lo hi:List ByteArray):Prop where
 qle:q<=L0.length
 len:U.length=lo.length
 seg:Seg lo hi
 nd:∀n,n∈U->n.lv=0/\n.buf=[]/\Fit n/\n.kids=[]/\n.piv=[]
 fl:U.flatMap (·.prs)=L0.take q
 last:∀c,c∈hi->∀p,p∈L0.drop q->aG c p.1<0
 cov:∀(l:Nat) (n:Nd),U[l]? =some n->∀p,p∈n.prs->Btw lo hi l p.1
 cnt:U.length<=q+1
theorem LfS.start(L0:List Pr):LfS L0 0 [] [] []:=⟨Nat.zero_le _,rfl,(UpS.start 0 [] []).seg,(fun n h=>by cases h),by simp,(fun c h=>by cases h),(fun l n h=>by simp at h),Nat.zero_le _⟩
theorem LfS.empty:LfS [] 0 [⟨0,[],[],[],[]⟩] [⟨#[]⟩] [⟨#[]⟩]:=by have h:=(UpS.start 0 [] []).seg.app (a:=⟨#[]⟩) (b:=⟨#[]⟩) (by rw[bN];decide) (fun c hc=>by cases hc) (by decide) (by decide);refine⟨Nat.le_refl _,rfl,h,fun n hn=>?_,rfl,(fun c _ p hp=>by cases hp),fun l n hn p hp=>?_,by decide⟩;(. obtain rfl:=mem_singleton.1 hn;exact⟨rfl,rfl,⟨Nat.zero_le _,Nat.zero_le _,Nat.zero_le _,Nat.zero_le _,(fun p hp=>by cases hp),(fun p hp=>by cases hp),fun p hp=>by cases hp⟩,rfl,rfl⟩);. obtain rfl:=mem_singleton.1 (mem_of_getElem? hn);cases hp
theorem LfS.next{L0:List Pr}{q n:Nat}{U:List Nd}{lo hi:List ByteArray}(h:LfS L0 q U lo hi)(hr:PRi L0)(hs:∀p,p∈L0->p.1.size<=200)(UD:L0.length<=150)(hn:0<n)(hq:q+n<=L0.length){x y:Pr}(hx:L0[q]? =some x)(hy:L0[q+n-1]? =some y):LfS L0 (q+n) (U++[⟨0,[],[],[],(L0.drop q).take n⟩]) (lo++[x.1]) (hi++[y.1]):=by (have Me:∀{i j:Nat} {a b:Pr},L0[i]? =some a->L0[j]? =some b->i<=j->aG a.1 b.1<=0:=fun{i j a b} ha hb hij=>by rcases Nat.lt_or_ge i j with h1|h1;(. have:=hr.at_ ha hb h1;omega);. (obtain rfl:i=j:=by omega);rw[ha]at hb;(cases hb);rw[bN];omega);(have J6:∀{p:Pr},p∈(L0.drop q).take n->∃j,j<n/\L0[q+j]? =some p:=fun{p} hp=>by obtain⟨j,hj⟩:=List.getElem?_of_mem hp;rw[List.getElem?_take]at hj;split at hj;(. rw[getElem?_drop]at hj;exact⟨j,‹_›,hj⟩);. cases hj);(have hbl:hi.length=U.length:=by rw[h.len,h.seg.len]);refine⟨hq,by simp[h.len],h.seg.app (Me hx hy (by omega)) (fun c hc=>h.last c hc x (mem_of_getElem? (by rw[getElem?_drop];exact hx:(L0.drop q)[0]? =some x))) (hs x (mem_of_getElem? hx)) (hs y (mem_of_getElem? hy)),fun m hm=>?_,?_,fun c hc p hp=>?_,fun l m hm p hp=>?_,by have:=h.cnt;simp;omega⟩;(. rcases mem_append.1 hm with h1|h1;(. exact h.nd m h1);. obtain rfl:=mem_singleton.1 h1;refine⟨rfl,rfl,⟨Nat.zero_le _,Nat.zero_le _,Nat.zero_le _,?_,(fun p hp=>by cases hp),(fun p hp=>by cases hp),fun p hp=>?_⟩,rfl,rfl⟩;(. show((L0.drop q).take n).length<=150;rw[List.length_take,List.length_drop];omega);. obtain⟨j,-,hj⟩:=J6 hp;exact hs p (mem_of_getElem? hj));(. rw[List.flatMap_append,h.fl];show _++((L0.drop q).take n++[])=_;rw[List.append_nil,List.take_add]);(. obtain⟨j,hj⟩:=List.getElem?_of_mem hp;rw[getElem?_drop]at hj;rcases mem_append.1 hc with h1|h1;(. exact h.last c h1 p (mem_of_getElem? (by rw[getElem?_drop,show q+(n+j)=q+n+j from by omega];exact hj:(L0.drop q)[n+j]? =some p)));. obtain rfl:=mem_singleton.1 h1;exact hr.at_ hy hj (by omega));. rcases dw hm with h1|⟨rfl,rfl⟩;(. exact(h.cov l m h1 p hp).app);. obtain⟨j,hj,hp'⟩:=J6 hp;exact⟨x.1,y.1,by rw[h.len];exact eU,by rw[<-hbl];exact eU,Me hx hp' (by omega),Me hp' hy (by omega)⟩
theorem LfS.lay{L0:List Pr}{q:Nat}{U:List Nd}{lo hi:List ByteArray}(h:LfS L0 q U lo hi)(hq:L0.length<=q)(h0:0<U.length):Lay L0 [U] lo hi:=by refine⟨by simp,fun j T hj n hn=>?_,fun j T T' h1 _=>?_,fun T hT=>?_,fun T hT=>?_,fun j T _ hl=>absurd hl (by simp),h.seg,fun T hT=>?_,fun T l n hT hn p hp=>?_⟩;(. (have hj0:j=0:=by have:=(List.getElem?_eq_some_iff.1 hj).1;simp at this;exact this);subst hj0;obtain rfl:U=T:=(by simpa using hj);obtain⟨n1,n2,n3,n4⟩:=h.nd n hn;exact⟨n1,n2,n3,fun b hb=>by rw[n4.1]at hb;cases hb⟩);(. simp at h1);(. (obtain rfl:U=T:=by simpa using hT);rw[h.fl,List.take_of_length_le hq]);(. (obtain rfl:U=T:=by simpa using hT);exact⟨by have:=h.cnt;have:=h.qle;omega,fun n hn=>(h.nd n hn).2.2.2⟩);(. (obtain rfl:U=T:=by simpa using hT);exact⟨h.len,h0⟩);. (obtain rfl:U=T:=by simpa using hT);refine⟨l,h.cov l n hn p hp,?_⟩;rfl
theorem Lay.none_{R:List (List Nd)}{lo hi:List ByteArray}(h:Lay [] R lo hi):R=[[⟨0,[],[],[],[]⟩]]:=by have hne:=h.ne;obtain⟨T,hT⟩:∃T,R[0]? =some T:=⟨_,getElem?_eq_getElem hne⟩;obtain⟨h1,h2⟩:=h.leaf T hT;(have h3:R.length=1:=by rcases Nat.lt_or_ge 1 R.length with h4|h4;(. have:=h.many 0 T hT h4;simp at h1;omega);. omega);have h5:=h.top T (by rw[h3];exact hT);obtain⟨n,rfl⟩:∃n,T=[n]:=length_eq_one_iff.1 (by simp at h1;omega);obtain⟨e1,e2,-,-⟩:=h.lv 0 _ hT n (by simp);obtain⟨e3,e4⟩:=h2 n (by simp);have e5:=h.prs _ hT;simp at e5;obtain⟨lv,kids,piv,buf,prs⟩:=n;simp only at e1 e2 e3 e4 e5;subst e1 e2 e3 e4 e5;obtain⟨U,rfl⟩:∃U,R=[U]:=length_eq_one_iff.1 h3;(obtain rfl:U=_:=by simpa using hT);rfl
theorem Lad.none_{R:List (List Nd)}(h:Lad [[⟨0,[],[],[],[]⟩]] R 0):R=[[ni]]:=by obtain⟨T,rfl⟩:∃T,R=[T]:=length_eq_one_iff.1 h.len;(obtain⟨T0,e,hl,hs⟩:=h.sh 0 T rfl;obtain rfl:_=T0:=by simpa using e);obtain⟨n,rfl⟩:∃n,T=[n]:=length_eq_one_iff.1 hl;(obtain⟨n0,e0,e1,e2,e3,e4⟩:=hs 0 n rfl;obtain rfl:_=n0:=by simpa using e0);have h6:=(h.few 0 _ n rfl (by simp)).1;obtain⟨lv,kids,piv,buf,prs⟩:=n;simp only at e1 e2 e3 e4 h6;obtain rfl:buf=[]:=List.length_eq_zero_iff.1 (by omega);subst e1 e2 e3 e4;rfl
end Sk
end Go.Proofs.YtmcbidhpkpmalaaGreatDoor
namespace Go.Proofs.YtmcbidhpkpmalaaGreatDoor
open Go.RowKit
open List (mem_flatten mem_of_getElem?)
namespace Sk
open Mem Lx Bu Lf Fa No Sh Bt Po
open Ca (upF)
def jw(D:List Nat)(n:Nd):Nd:=⟨n.lv,n.kids.map fun b=>(D[b-1]?).getD 0,n.piv,n.buf,n.prs⟩
def prv(BB:List (List Nat)):Nat->List Nat
 |0=>[]
 |j+1=>(BB[j]?).getD []
structure Bks(c:Cfg)(f:Nat->List UInt8)(tb:List Bool)(R:List (List Nd))(BB:List (List Nat)):Prop where
 has:∀(j i:Nat) (D:List Nat) (b:Nat),BB[j]? =some D->D[i]? =some b->Has c f b (jw (prv BB j) (nodeAt R j i))
 tk:∀b,b∈BB.flatten->tb.getD b false=true
 one:BB.flatten.Nodup
def Full(R:List (List Nd))(BB:List (List Nat)):Prop:=∀(j:Nat) (T:List Nd) (D:List Nat),R[j]? =some T->BB[j]? =some D->D.length=T.length
section
variable{c:Cfg}{f:Nat->List UInt8}{tb tb':List Bool}{R:List (List Nd)}{BB:List (List Nat)}{D:List Nat}{k j:Nat}
theorem Bks.none_(c:Cfg)(f:Nat->List UInt8)(tb:List Bool)(R:List (List Nd)):Bks c f tb R []:=⟨fun j i D b h=>by simp at h,fun b h=>by simp at h,by simp⟩
theorem uP(h:j<=BB.length):prv (BB++[D]) j=prv BB j:=by cases j with|zero=>rfl|succ j=>show((BB++[D])[j]?).getD []=(BB[j]?).getD [];rw[List.getElem?_append_left (by omega)]
theorem Bks.row(h:Bks c f tb R BB):Bks c f tb R (BB++[[]]):=by refine⟨fun j i D b hD hb=>?_,fun b hb=>h.tk b (by simpa using hb),by simpa using h.one⟩;rcases dw hD with h1|⟨-,rfl⟩;(. rw[uP (Nat.le_of_lt (List.getElem?_eq_some_iff.1 h1).1)];exact h.has j i D b h1 hb);. simp at hb
theorem Mf(h:Got tb 1 tb' [k]):tb.getD k false=false/\tb'=tb.set k true/\k<tb.length:=by have hg:=h.fresh;exact⟨hg.1 0 (by simp),hg.2.symm,h.lt (by simp)⟩
theorem Jg{b:Nat}(h:tb.getD b false=true):(tb.set k true).getD b false=true:=by simp only[List.getD_eq_getElem?_getD]at h ⊢;rw[List.getElem?_set];split;(. split;(. rfl);. subst_vars;rename_i h1;rw[List.getElem?_eq_none (by omega)]at h;cases h);. exact h
theorem OP(h:k<tb.length):(tb.set k true).getD k false=true:=by simp only[List.getD_eq_getElem?_getD];rw[List.getElem?_set_self h];rfl
theorem Has.up{i b:Nat}{n:Nd}{s:List UInt8}(h:Has c f i n)(hb:i≠b):Has c (upF f b s) i n:=⟨h.th,h.lt,by unfold upF;rw[if_neg hb];exact h.is,h.rt⟩
theorem Bks.next{n:Nd}(h:Bks c f tb R (BB++[D]))(hg:Got tb 1 tb' [k])(hc:c.blocks<=65536)(hl:(tb.length:Int)=c.blocks)(h0:tb.getD 0 false=true)(hr:dh c n)(hn:n=jw (prv BB BB.length) (nodeAt R BB.length D.length)):Bks c (upF f k (aK c n)) tb' R (BB++[D++[k]]):=by obtain⟨g1,rfl,g3⟩:=Mf hg;(have hk0:0<k:=by rcases Nat.eq_zero_or_pos k with rfl|h1;(. rw[g1]at h0;cases h0);. exact h1);(have hne:∀b,b∈(BB++[D]).flatten->b≠k:=fun b hb e=>by subst e;rw[h.tk b hb]at g1;cases g1);(have hfl:(BB++[D++[k]]).flatten=(BB++[D]).flatten++[k]:=by simp);refine⟨fun j i D' b hD hb=>?_,fun b hb=>?_,?_⟩;(. rcases dw hD with h1|⟨rfl,rfl⟩;(. have h2:=h.has j i D' b (nR h1) hb;rw[uP (Nat.le_of_lt (List.getElem?_eq_some_iff.1 h1).1)]at h2 ⊢;exact h2.up (hne b (mem_flatten.2 ⟨D',mem_of_getElem? (nR h1),mem_of_getElem? hb⟩)));. rw[uP (Nat.le_refl _)];rcases dw hb with h1|⟨rfl,rfl⟩;(. have h2:=h.has BB.length i D b eU h1;rw[uP (Nat.le_refl _)]at h2;exact h2.up (hne b (mem_flatten.2 ⟨D,by simp,mem_of_getElem? h1⟩)));. rw[<-hn];exact⟨⟨hk0,by omega⟩,by omega,by unfold upF;rw[if_pos rfl],hr⟩);(. rw[hfl]at hb;rcases List.mem_append.1 hb with h1|h1;(. exact Jg (h.tk b h1));. obtain rfl:=List.mem_singleton.1 h1;exact OP g3);. rw[hfl];refine List.nodup_append.2 ⟨h.one,by simp,fun a ha b hb=>?_⟩;obtain rfl:=List.mem_singleton.1 hb;exact hne a ha
theorem Jh{L:List Nat}(h:L.Nodup){i i' b:Nat}(hi:L[i]? =some b)(hi':L[i']? =some b):i=i':=by
 have h1:=List.pairwise_iff_getElem.1 h;obtain⟨l1,e1⟩:=List.getElem?_eq_some_iff.1 hi;obtain⟨l2,e2⟩:=List.getElem?_eq_some_iff.1 hi';rcases Nat.lt_trichotomy i i' with h2|h2|h2
 . exact absurd (e1.trans e2.symm) (h1 i i' l1 l2 h2)
 . exact h2
 . exact absurd (e2.trans e1.symm) (h1 i' i l2 l1 h2)
theorem FH:∀(BB:List (List Nat)) (j i b:Nat) (D:List Nat) (j' i':Nat) (D':List Nat),BB.flatten.Nodup->BB[j]? =some D->D[i]? =some b->BB[j']? =some D'->D'[i']? =some b->j=j'/\i=i'
 |[],j,i,b,D,_,_,_,_,hD,_,_,_=>by simp at hD
 |E::BB,j,i,b,D,j',i',D',h,hD,hb,hD',hb'=>by rw[List.flatten_cons,List.nodup_append]at h;obtain⟨h1,h2,h3⟩:=h;cases j with|zero=>(obtain rfl:E=D:=(by simpa using hD);cases j' with|zero=>obtain rfl:E=D':=(by simpa using hD');exact⟨rfl,Jh h1 hb hb'⟩|succ j'=>exact absurd rfl (h3 b (mem_of_getElem? hb) b (mem_flatten.2 ⟨D',mem_of_getElem? (by simpa using hD'),mem_of_getElem? hb'⟩)))|succ j=>(cases j' with|zero=>obtain rfl:E=D':=(by simpa using hD');exact absurd rfl (h3 b (mem_of_getElem? hb') b (mem_flatten.2 ⟨D,mem_of_getElem? (by simpa using hD),mem_of_getElem? hb⟩))|succ j'=>obtain⟨e1,e2⟩:=FH BB j i b D j' i' D' h2 (by simpa using hD) hb (by simpa using hD') hb';exact⟨by omega,e2⟩)
end
end Sk
end Go.Proofs.YtmcbidhpkpmalaaGreatDoor
