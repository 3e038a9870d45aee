import Derived.Lib.TrailingZeros
import Derived.Test.YtmcbidhpkpmalaaGreatDoorPkAA
import Derived.Test.YtmcbidhpkpmalaaGreatDoorProg
import Derived.WalkLawsBesides
import Derived.Lib.AppendZeros
set_option maxHeartbeats 1000000
namespace Go.Proofs.YtmcbidhpkpmalaaGreatDoor.Bt
open Go.Lib (ctz)
open List (getD replicate)
def pc(f:Nat->Bool):Nat->Nat
 |0=>0
 |k+1=>pc f k+if f k then 1 else 0
theorem CJ(f:Nat->Bool):∀k,pc f k<=k
 |0=>Nat.le_refl _
 |k+1=>by have:=CJ f k;unfold pc;split<;>omega
theorem jY{f g:Nat->Bool}:∀{k:Nat},(∀i,i<k->f i=g i)->pc f k=pc g k
 |0,_=>rfl
 |k+1,h=>by unfold pc;rw[jY (k:=k) fun i hi=>h i (by omega),h k (by omega)]
theorem za(f:Nat->Bool)(a:Nat):∀b,pc f (a+b)=pc f a+pc (fun i=>f (a+i)) b
 |0=>rfl
 |b+1=>by rw[<-Nat.add_assoc];show pc f (a+b)+(if f (a+b)then 1 else 0)=pc f a+(pc (fun i=>f (a+i)) b+(if f (a+b)then 1 else 0));rw[za f a b];omega
theorem CK{f:Nat->Bool}:∀{k:Nat},(∀i,i<k->f i=false)->pc f k=0
 |0,_=>rfl
 |k+1,h=>by unfold pc;rw[CK (k:=k) fun i hi=>h i (by omega),h k (by omega)];rfl
theorem CO{f:Nat->Bool}{n:Nat}(h:∀i,n<=i->f i=false){m:Nat}(hm:n<=m):pc f m=pc f n:=by obtain⟨d,rfl⟩:∃d,m=n+d:=⟨m-n,by omega⟩;rw[za,CK (f:=fun i=>f (n+i)) fun i _=>h _ (by omega)];rfl
theorem JL(f:Nat->Bool):∀k,pc (fun i=> !f i) k=k-pc f k
 |0=>rfl
 |k+1=>by have:=CJ f k;unfold pc;rw[JL f k];cases f k<;>simp<;>omega
theorem jI(a c x m:Nat)(ha:a<256)(hc:c<256):(a+256*x)&&& (c+256*m)=(a&&& c)+256*(x&&& m):=by (have h:∀(a x:Nat),a<256->a+256*x=x<<<8 |||a:=fun a x ha=>by rw[<-Nat.shiftLeft_add_eq_or_of_lt (i:=8) (by omega)];simp[Nat.shiftLeft_eq];omega);have hac:a&&& c<256:=Nat.lt_of_le_of_lt Nat.and_le_left ha;rw[h a x ha,h c m hc,h (a&&& c) (x&&& m) hac];apply Nat.eq_of_testBit_eq;intro i;simp only[Nat.testBit_and,Nat.testBit_or,Nat.testBit_shiftLeft];by_cases hi:8<=i;(. have e1:a.testBit i=false:=Nat.testBit_lt_two_pow (Nat.lt_of_lt_of_le ha (by simpa using Nat.pow_le_pow_right (n:=2) (by omega) hi));have e2:c.testBit i=false:=Nat.testBit_lt_two_pow (Nat.lt_of_lt_of_le hc (by simpa using Nat.pow_le_pow_right (n:=2) (by omega) hi));simp[hi,e1,e2]);. simp[hi]
def rep(c:Nat):Nat->Nat
 |0=>0
 |n+1=>c+256*rep c n
theorem sW(c n:Nat):rep c (n+1)=c+256*rep c n:=rfl
def s1(n x:Nat):Nat:=(x / 2&&& rep 85 n)+(x&&& rep 85 n)
def s2(n x:Nat):Nat:=(x / 4&&& rep 51 n)+(x&&& rep 51 n)
def s3(n x:Nat):Nat:=(x / 16+x)&&& rep 15 n
def q1(b:Nat):Nat:=(b / 2&&& 85)+(b&&& 85)
def q2(b:Nat):Nat:=(b / 4&&& 51)+(b&&& 51)
theorem CQ:∀b,b<256->∀t,t<2->(b / 2+128*t)&&& 85=b / 2&&& 85:=by decide+kernel
theorem AA:∀b,b<256->∀t,t<4->(b / 4+64*t)&&& 51=b / 4&&& 51:=by decide+kernel
theorem Qb:∀b,b<256->q1 b<256:=by decide+kernel
theorem M9:∀b,b<256->q2 (q1 b)<=68/\q2 (q1 b) % 16<=4:=by decide+kernel
theorem Qc:∀b,b<256->q2 (q1 b) / 16+q2 (q1 b) % 16=pc b.testBit 8:=by decide+kernel
theorem Kk(n b h:Nat)(hb:b<256):s1 (n+1) (b+256*h)=q1 b+256*s1 n h:=by
 unfold s1 q1;rw[sW];have e:(b+256*h) / 2=(b / 2+128*(h % 2))+256*(h / 2):=by omega
 rw[e,jI _ 85 _ _ (by omega) (by omega),jI b 85 _ _ hb (by omega),CQ b hb _ (by omega)];omega
theorem Kl(n b h:Nat)(hb:b<256):s2 (n+1) (b+256*h)=q2 b+256*s2 n h:=by
 unfold s2 q2;rw[sW];have e:(b+256*h) / 4=(b / 4+64*(h % 4))+256*(h / 4):=by omega
 rw[e,jI _ 51 _ _ (by omega) (by omega),jI b 51 _ _ hb (by omega),AA b hb _ (by omega)];omega
def s21(n x:Nat):Nat:=s2 n (s1 n x)
theorem ze(n b h:Nat)(hb:b<256):s21 (n+1) (b+256*h)=q2 (q1 b)+256*s21 n h:=by unfold s21;rw[Kk n b h hb,Kl n (q1 b) _ (Qb b hb)]
theorem Km:∀(n x:Nat),s21 n x % 16<=4
 |0,x=>by simp[s21,s2,rep]
 |n+1,x=>by (have e:x=x % 256+256*(x / 256):=by omega);have:=M9 (x % 256) (by omega);rw[e,ze n _ _ (by omega)];omega
def sb:Nat->Nat->Nat
 |0,_=>0
 |n+1,x=>pc (x % 256).testBit 8+256*sb n (x / 256)
theorem JM:∀(n x:Nat),s3 n (s21 n x)=sb n x
 |0,x=>by simp[s3,rep,sb]
 |n+1,x=>by (have ih:=JM n (x / 256);have hl:=Km n (x / 256);have hq:=M9 (x % 256) (by omega);have hp:=Qc (x % 256) (by omega);have e:x=x % 256+256*(x / 256):=by omega);unfold sb;rw[<-ih,<-hp];(have e2:s21 (n+1) x=q2 (q1 (x % 256))+256*s21 n (x / 256):=by have:=ze n (x % 256) (x / 256) (by omega);rwa [<-e]at this);(rw[e2];generalize s21 n (x / 256)=k at*;generalize q2 (q1 (x % 256))=c at*;unfold s3;rw[sW];have e3:(c+256*k) / 16+(c+256*k)=(c / 16+c+16*(k % 16))+256*(k / 16+k):=by omega);(rw[e3,jI _ 15 _ _ (by omega) (by omega),show(15:Nat)=2 ^ 4-1 from rfl,Nat.and_two_pow_sub_one_eq_mod];have e4:(c / 16+c+16*(k % 16)) % 2 ^ 4=c / 16+c % 16:=by omega);rw[e4]
theorem kS(x k:Nat):pc x.testBit (8+k)=pc (x % 256).testBit 8+pc (x / 256).testBit k:=by rw[za];congr 1;(. refine jY fun i hi=>?_;rw[show 256=2 ^ 8 from rfl,Nat.testBit_mod_two_pow];simp[hi]);. refine jY fun i _=>?_;show x.testBit (8+i)=_;rw[show 256=2 ^ 8 from rfl,Nat.testBit_div_two_pow];congr 1;omega
def ones(x:Nat):Nat:=pc x.testBit 64
theorem Kn(x:Nat):ones x<=64:=CJ _ _
theorem jJ{p y B:Nat}(h:p<=8)(k:y<=B):p+256*y<=8+256*B:=by omega
theorem Gx(x v t u:Nat)(hv:v=sb 8 x)(ht:t=v+v / 256)(hu:u=t+t / 65536):v<=578721382704613384/\(u+u / 4294967296) % 128=ones x:=by
 have h:∀y,pc (Nat.testBit (y % 256)) 8<=8:=fun y=>CJ _ _
 have e:ones x=pc (x % 256).testBit 8+(pc (x / 256 % 256).testBit 8+(pc (x / 256 / 256 % 256).testBit 8+(pc (x / 256 / 256 / 256 % 256).testBit 8+(pc (x / 256 / 256 / 256 / 256 % 256).testBit 8
  +(pc (x / 256 / 256 / 256 / 256 / 256 % 256).testBit 8+(pc (x / 256 / 256 / 256 / 256 / 256 / 256 % 256).testBit 8+pc (x / 256 / 256 / 256 / 256 / 256 / 256 / 256 % 256).testBit 8)))))):=by
  unfold ones;rw[kS x 56,kS _ 48,kS _ 40,kS _ 32,kS _ 24,kS _ 16,kS _ 8]
  have:∀y,pc (Nat.testBit y) 8=pc (Nat.testBit (y % 256)) 8:=fun y=>jY fun i hi=>by
   rw[show 256=2 ^ 8 from rfl,Nat.testBit_mod_two_pow];simp[hi]
  rw[this (x / 256 / 256 / 256 / 256 / 256 / 256 / 256)]
 have h0:=h x;have h1:=h (x / 256);have h2:=h (x / 256 / 256);have h3:=h (x / 256 / 256 / 256);have h4:=h (x / 256 / 256 / 256 / 256);have h5:=h (x / 256 / 256 / 256 / 256 / 256);have h6:=h (x / 256 / 256 / 256 / 256 / 256 / 256);have h7:=h (x / 256 / 256 / 256 / 256 / 256 / 256 / 256);rw[e];simp only[sb]at hv;generalize pc (Nat.testBit (x % 256)) 8=p0 at*;generalize pc (Nat.testBit (x / 256 % 256)) 8=p1 at*;generalize pc (Nat.testBit (x / 256 / 256 % 256)) 8=p2 at*;generalize pc (Nat.testBit (x / 256 / 256 / 256 % 256)) 8=p3 at*;generalize pc (Nat.testBit (x / 256 / 256 / 256 / 256 % 256)) 8=p4 at*;generalize pc (Nat.testBit (x / 256 / 256 / 256 / 256 / 256 % 256)) 8=p5 at*;generalize pc (Nat.testBit (x / 256 / 256 / 256 / 256 / 256 / 256 % 256)) 8=p6 at*;generalize pc (Nat.testBit (x / 256 / 256 / 256 / 256 / 256 / 256 / 256 % 256)) 8=p7 at*;clear h e;have d1:∀y z,y<256->(y+256*z) / 256=z:=fun y z _=>by omega
 have d2:∀y z,y<65536->(y+65536*z) / 65536=z:=fun y z _=>by omega
 have d3:∀y z,y<4294967296->(y+4294967296*z) / 4294967296=z:=fun y z _=>by omega
 have d4:∀y z,y<128->(y+256*z) % 128=y:=fun y z _=>by omega
 have hle:v<=578721382704613384:=by
  subst hv;exact jJ h0 (jJ h1 (jJ h2 (jJ h3 (jJ h4 (jJ h5 (jJ h6 (jJ h7 (Nat.le_refl 0))))))))
 refine⟨hle,?_⟩;clear hle;have a:p0+p1+p2+p3<=32:=by clear ht hu hv d1 d2 d3 d4;omega
 have b:p1+p2+p3+p4<=32:=by clear ht hu hv d1 d2 d3 d4;omega
 have c:p2+p3+p4+p5<=32:=by clear ht hu hv d1 d2 d3 d4;omega
 have d:p3+p4+p5+p6<=32:=by clear ht hu hv d1 d2 d3 d4;omega
 have s:p0+p1+p2+p3+p4+p5+p6+p7<128:=by clear ht hu hv d1 d2 d3 d4 a b c d;omega
 have l0:p0<256:=by clear ht hu hv d1 d2 d3 d4 a b c d s;omega
 have l1:p0+p1+256*(p1+p2)<65536:=by clear ht hu hv d1 d2 d3 d4 a b c d s;omega
 have l2:p0+p1+p2+p3+256*(p1+p2+p3+p4)+65536*(p2+p3+p4+p5+256*(p3+p4+p5+p6))<4294967296:=by
  clear ht hu hv d1 d2 d3 d4 s l0 l1;generalize p0+p1+p2+p3=A at*;generalize p1+p2+p3+p4=B at*;generalize p2+p3+p4+p5=C at*;generalize p3+p4+p5+p6=D at*;clear h0 h1 h2 h3 h4 h5 h6 h7;omega
 have t1:t=(p0+p1+256*(p1+p2))+65536*((p2+p3+256*(p3+p4))+65536*((p4+p5+256*(p5+p6))+65536*(p6+p7+256*p7))):=by
  rw[ht,hv,d1 p0 _ l0];simp+arith
 have t2:u=(p0+p1+p2+p3+256*(p1+p2+p3+p4)+65536*(p2+p3+p4+p5+256*(p3+p4+p5+p6)))+4294967296*((p4+p5+p6+p7+256*(p5+p6+p7))+65536*(p6+p7+256*p7)):=by
  rw[hu,t1,d2 _ _ l1];simp+arith
 have t3:u+u / 4294967296=(p0+p1+p2+p3+p4+p5+p6+p7)+256*((p1+p2+p3+p4+p5+p6+p7)+256*(p2+p3+p4+p5+256*(p3+p4+p5+p6))+16777216*((p4+p5+p6+p7+256*(p5+p6+p7))+65536*(p6+p7+256*p7))+256*(p6+p7+256*p7)):=by
  rw[t2,d3 _ _ l2];simp+arith
 rw[t3,d4 _ _ s];simp+arith
def bt(ws:List Nat)(i:Nat):Bool:=(ws.getD (i / 64) 0).testBit (i % 64)
structure Rep(ws:List Nat)(tb:List Bool):Prop where
 len:ws.length=(tb.length+63) / 64
 lt:∀x∈ws,x<18446744073709551616
 bit:∀i,bt ws i=tb.getD i false
theorem Rep.vE{ws:List Nat}{tb:List Bool}(h:Rep ws tb){j:Nat}(hj:j<ws.length):ws[j]<18446744073709551616:=h.lt _ (List.getElem_mem hj)
theorem Rep.word{ws:List Nat}{tb:List Bool}(h:Rep ws tb){i:Nat}(hi:i<tb.length):i / 64<ws.length:=by rw[h.len];omega
theorem Na{ws:List Nat}{j:Nat}(hj:j<ws.length)(k:Nat)(hk:k<64):bt ws (64*j+k)=ws[j].testBit k:=by unfold bt;rw[show(64*j+k) / 64=j by omega,show(64*j+k) % 64=k by omega];simp[getD,hj]
theorem Nc{ws:List Nat}{i:Nat}(hi:i / 64<ws.length):bt ws i=ws[i / 64].testBit (i % 64):=by have:=Na hi (i % 64) (by omega);rwa [show 64*(i / 64)+i % 64=i by omega]at this
theorem Ko{ws:List Nat}{j:Nat}(hj:j<ws.length):pc (bt ws) (64*(j+1))=pc (bt ws) (64*j)+ones ws[j]:=by rw[show 64*(j+1)=64*j+64 by omega,za];congr 1;exact jY fun k hk=>Na hj k hk
def cnt(tb:List Bool):Nat:=pc (fun i=>tb.getD i false) tb.length
theorem Rep.cnt{ws:List Nat}{tb:List Bool}(h:Rep ws tb):pc (bt ws) (64*ws.length)=cnt tb:=by unfold Bt.cnt;rw[jY fun i _=>h.bit i];refine CO (fun i hi=>?_) (by rw[h.len];omega);simp[getD,hi]
theorem Gy(n:Nat):Rep (replicate ((n+63) / 64) 0) (replicate n false):=by refine⟨by simp,fun x hx=>by rw[List.eq_of_mem_replicate hx];omega,fun i=>?_⟩;(have e1:(replicate ((n+63) / 64) 0).getD (i / 64) 0=0:=by simp only[getD,List.getElem?_replicate];split<;>rfl);(have e2:(replicate n false).getD i false=false:=by simp only[getD,List.getElem?_replicate];split<;>rfl);unfold bt;rw[e1,e2];simp
theorem iA{α:Type}(l:List α)(i j:Nat)(x d:α)(hi:i<l.length):(l.set i x).getD j d=if j=i then x else l.getD j d:=by simp only[getD,List.getElem?_set];by_cases h:j=i;(. subst h;simp[hi]);. rw[if_neg (by omega),if_neg h]
theorem Rep.set{ws:List Nat}{tb:List Bool}(h:Rep ws tb){i:Nat}(hi:i<tb.length):
 Rep (ws.set (i / 64) (ws.getD (i / 64) 0 |||2 ^ (i % 64))) (tb.set i true):=by
 have hj:=h.word hi;have hw:ws.getD (i / 64) 0<18446744073709551616:=by simp[getD,hj];exact h.vE hj
 refine⟨by simpa using h.len,fun x hx=>?_,fun k=>?_⟩
 . rcases List.mem_or_eq_of_mem_set hx with hx|rfl
   . exact h.lt x hx
   . exact Nat.or_lt_two_pow (n:=64) hw (Nat.pow_lt_pow_right (by omega) (by omega))
 . rw[iA _ _ _ _ _ hi]
   unfold bt;rw[iA _ _ _ _ _ hj];by_cases hk:k / 64=i / 64
   . rw[if_pos hk,Nat.testBit_or,Nat.testBit_two_pow,<-hk]
     by_cases he:k=i
     . subst he;simp
     . rw[if_neg he,<-h.bit k];unfold bt
       have:¬i % 64=k % 64:=(by omega);simp[this]
   . rw[if_neg hk,if_neg (fun e=>hk (by rw[e])),<-h.bit k];rfl
theorem Rep.clear{ws:List Nat}{tb:List Bool}(h:Rep ws tb){i:Nat}(hi:i<tb.length):
 Rep (ws.set (i / 64) (ws.getD (i / 64) 0&&& (18446744073709551615-2 ^ (i % 64)))) (tb.set i false):=by
 have hj:=h.word hi;have hp:2 ^ (i % 64)<2 ^ 64:=Nat.pow_lt_pow_right (by omega) (by omega);refine⟨by simpa using h.len,fun x hx=>?_,fun k=>?_⟩
 . rcases List.mem_or_eq_of_mem_set hx with hx|rfl
   . exact h.lt x hx
   . exact Nat.lt_of_le_of_lt Nat.and_le_right (Nat.lt_of_le_of_lt (Nat.sub_le _ _) (by decide))
 . rw[iA _ _ _ _ _ hi]
   unfold bt;rw[iA _ _ _ _ _ hj];by_cases hk:k / 64=i / 64
   . rw[if_pos hk,Nat.testBit_and,show 18446744073709551615-2 ^ (i % 64)=2 ^ 64-(2 ^ (i % 64)+1) by omega,Nat.testBit_two_pow_sub_succ hp,Nat.testBit_two_pow,<-hk]
     by_cases he:k=i
     . subst he;simp
     . rw[if_neg he,<-h.bit k];unfold bt
       have:¬i % 64=k % 64:=(by omega);simp[this];omega
   . rw[if_neg hk,if_neg (fun e=>hk (by rw[e])),<-h.bit k];rfl
theorem vF(x s:Nat):((x&&& 2 ^ s) != 0)=x.testBit s:=by rw[Bool.eq_iff_iff];simp only[bne_iff_ne,ne_eq];constructor;(. intro h;cases hb:x.testBit s with|true=>rfl|false=>(exfalso;apply h);apply Nat.eq_of_testBit_eq;intro i;rw[Nat.testBit_and,Nat.testBit_two_pow];by_cases hi:s=i;(. subst hi;simp[hb]);. simp[hi]);. intro h h0;have:(x&&& 2 ^ s).testBit s=true:=(by rw[Nat.testBit_and,h];simp);rw[h0]at this;simp at this
def fs(f:Nat->Bool):Nat->Nat->Option Nat
 |0,_=>none
 |m+1,k=>if f k then some k else fs f m (k+1)
theorem CU{f:Nat->Bool}:∀{m k:Nat},fs f m k=none->∀i,k<=i->i<k+m->f i=false
 |0,k,_,i,h1,h2=>by omega
 |m+1,k,h,i,h1,h2=>by unfold fs at h;split at h;(. cases h);. rename_i hf;by_cases he:i=k;(. subst he;simpa using hf);. exact CU h i (by omega) (by omega)
theorem CV{f:Nat->Bool}:∀{m k r:Nat},fs f m k=some r->k<=r/\r<k+m/\f r=true/\∀i,k<=i->i<r->f i=false
 |0,k,r,h=>by cases h
 |m+1,k,r,h=>by unfold fs at h;split at h;(. rename_i hf;(cases h);exact⟨Nat.le_refl _,by omega,hf,fun i h1 h2=>by omega⟩);. rename_i hf;obtain⟨h1,h2,h3,h4⟩:=CV h;exact⟨by omega,by omega,h3,fun i h5 h6=>by by_cases he:i=k;(. subst he;simpa using hf);. exact h4 i (by omega) h6⟩
def eF(tb:List Bool)(from_:Int)(b:Bool):Option Nat:=fs (fun i=>tb.getD i false==b) (tb.length-from_.toNat) from_.toNat
def foI(o:Option Nat):Int:=(o.getD 0:Nat)
def foB(o:Option Nat):Bool:=o.isSome
theorem pO{tb:List Bool}{f:Int}{b:Bool}(h:eF tb f b=none)(i:Nat)(h1:f<=i)(h2:i<tb.length):tb.getD i false≠b:=by have:=CU h i (by omega) (by omega);simpa using this
theorem kT{tb:List Bool}{f:Int}{b:Bool}{r:Nat}(h:eF tb f b=some r):f<=r/\r<tb.length/\tb.getD r false=b/\∀i:Nat,f<=i->i<r->tb.getD i false≠b:=by obtain⟨h1,h2,h3,h4⟩:=CV h;exact⟨by omega,by omega,by simpa using h3,fun i h5 h6=>by simpa using h4 i (by omega) h6⟩
def inB(tb:List Bool)(i:Int):Bool:=decide (0<=i/\i<tb.length)
def hasB(tb:List Bool)(i:Int):Bool:=decide (0<=i)&&tb.getD i.toNat false
def Gh(tb:List Bool)(i:Int):Int:=if inB tb i then if hasB tb i then 10 else 0 else 4
def BZ(tb:List Bool)(i:Int):List Bool:=if inB tb i then tb.set i.toNat true else tb
theorem sZ{tb:List Bool}{i:Nat}{v:Bool}(hi:i<tb.length)(h:tb.getD i false=v):tb.set i v=tb:=by subst h;simp only[getD,List.getElem?_eq_getElem hi,Option.getD_some];exact List.set_getElem_self hi
theorem Nf{tb:List Bool}{i:Int}(h:inB tb i=true):∃k:Nat,i=k/\k<tb.length:=by unfold inB at h;have:=of_decide_eq_true h;exact⟨i.toNat,by omega,by omega⟩
theorem Ng{tb:List Bool}{i:Int}(h:inB tb i=false):¬(0<=i/\i<tb.length):=of_decide_eq_false h
theorem xJ(tb:List Bool)(k:Nat):hasB tb k=tb.getD k false:=by simp[hasB]
def wt(turn:Bool):Nat:=if turn then 18446744073709551615 else 0
def wd(ws:List Nat)(turn:Bool)(i:Nat):Nat:=(ws.getD (i / 64) 0 ^^^ wt turn) / 2 ^ (i % 64)
theorem Nh(turn:Bool){k:Nat}(hk:k<64):(wt turn).testBit k=turn:=by cases turn;(. simp[wt]);. show(2 ^ 64-1).testBit k=true;rw[Nat.testBit_two_pow_sub_one];simpa using hk
theorem CX(ws:List Nat)(turn:Bool)(i k:Nat)(hk:i % 64+k<64):(wd ws turn i).testBit k=(bt ws (i+k) ^^ turn):=by unfold wd bt;rw[Nat.testBit_div_two_pow,Nat.testBit_xor,show(i+k) / 64=i / 64 by omega,show(i+k) % 64=k+i % 64 by omega,Nh turn (by omega)]
theorem Ni{ws:List Nat}{tb:List Bool}(h:Rep ws tb)(turn:Bool){i:Nat}(hi:i<tb.length):wd ws turn i<2 ^ (64-i % 64):=by (have hj:=h.word hi;have hw:ws.getD (i / 64) 0<2 ^ 64:=by simp[getD,hj];exact h.vE hj);have hx:ws.getD (i / 64) 0 ^^^ wt turn<2 ^ 64:=Nat.xor_lt_two_pow hw (by cases turn<;>simp[wt]);unfold wd;rw[Nat.div_lt_iff_lt_mul (Nat.two_pow_pos _),<-Nat.pow_add];rwa [show 64-i % 64+i % 64=64 by omega]
theorem Kq{ws:List Nat}{tb:List Bool}(h:Rep ws tb)(turn:Bool){i:Nat}(hi:i<tb.length):wd ws turn i<18446744073709551616:=
 by
 have:2 ^ (64-i % 64)<=2 ^ 64:=Nat.pow_le_pow_right (by omega) (by omega);exact Nat.lt_of_lt_of_le (Ni h turn hi) this
theorem CY{ws:List Nat}{tb:List Bool}(h:Rep ws tb)(turn:Bool)(i:Nat):((bt ws i ^^ turn)=true)=(tb.getD i false= !turn):=by rw[h.bit];cases tb.getD i false<;>cases turn<;>simp
theorem Kr{ws:List Nat}{tb:List Bool}(h:Rep ws tb)(turn:Bool){i:Nat}(h0:wd ws turn i=0)(k:Nat)(h1:i<=k)(h2:k<i+(64-i % 64)):tb.getD k false≠ !turn:=by have hb:=CX ws turn i (k-i) (by omega);rw[h0,show i+(k-i)=k by omega,Nat.zero_testBit]at hb;rw[ne_eq,<-CY h turn k,<-hb];simp
theorem zf{x:Nat}(h0:x≠0)(h:x<2 ^ 64):x.testBit (ctz 64 x)=true/\∀k,k<ctz 64 x->x.testBit k=false:=by
 obtain⟨m,hm,_⟩:=Lib.ctzFrom_spec 64 x (by omega) h;have e:ctz 64 x=Lib.ctzFrom 64 x:=by simp[ctz,h0]
 rw[e];generalize Lib.ctzFrom 64 x=c at*;subst hm;refine⟨?_,fun k hk=>?_⟩
 . rw[Nat.mul_comm,Nat.testBit_mul_two_pow];simp[Nat.testBit_zero]
 . rw[Nat.mul_comm,Nat.testBit_mul_two_pow];simp;omega
theorem Nj{x k:Nat}(h0:x≠0)(h:x<2 ^ k)(hk:k<=64):ctz 64 x<k:=by obtain⟨h1,_⟩:=zf h0 (Nat.lt_of_lt_of_le h (Nat.pow_le_pow_right (by omega) hk));apply Nat.lt_of_not_le;intro hle;rw[Nat.testBit_lt_two_pow (Nat.lt_of_lt_of_le h (Nat.pow_le_pow_right (by omega) hle))]at h1;cases h1
theorem Kt{ws:List Nat}{tb:List Bool}(h:Rep ws tb)(turn:Bool){i:Nat}(hi:i<tb.length)(h0:wd ws turn i≠0):
 ctz 64 (wd ws turn i)<64-i % 64/\(tb.getD (i+ctz 64 (wd ws turn i)) false= !turn)/\∀k,i<=k->k<i+ctz 64 (wd ws turn i)->tb.getD k false≠ !turn:=by
 have hl:=Ni h turn hi;have hc:=Nj h0 hl (by omega);obtain⟨h1,h2⟩:=zf h0 (Nat.lt_of_lt_of_le hl (Nat.pow_le_pow_right (by omega) (by omega)));refine⟨hc,?_,fun k hk1 hk2=>?_⟩
 . rw[<-CY h turn,<-CX ws turn i _ (by omega),h1]
 . have:=h2 (k-i) (by omega)
   rw[CX ws turn i _ (by omega),show i+(k-i)=k by omega]at this;rw[ne_eq,<-CY h turn k,this];simp
end Go.Proofs.YtmcbidhpkpmalaaGreatDoor.Bt
namespace Go.Proofs.YtmcbidhpkpmalaaGreatDoor
open Go.RowKit
namespace Bt
theorem Qd(x:Nat)(hx:x<18446744073709551616):IntKind.u64.wrap (bits .and .u64 ((x:Int) / 2) 6148914691236517205+bits .and .u64 (x:Int) 6148914691236517205)=((s1 8 x:Nat):Int)/\s1 8 x<18446744073709551616:=by have e1:=u64_and_nat (x / 2) 6148914691236517205 (by omega) (by decide);have e2:=u64_and_nat x 6148914691236517205 hx (by decide);have e:s1 8 x=(x / 2&&& 6148914691236517205)+(x&&& 6148914691236517205):=rfl;have b1:x / 2&&& 6148914691236517205<=6148914691236517205:=Nat.and_le_right;have b2:x&&& 6148914691236517205<=6148914691236517205:=Nat.and_le_right;rw[show(x:Int) / 2=((x / 2:Nat):Int)from rfl];rw[show((6148914691236517205:Nat):Int)=6148914691236517205 from rfl]at e1 e2;rw[e1,e2,e,IntKind.wrap_u64];omega
theorem Qe(x:Nat)(hx:x<18446744073709551616):IntKind.u64.wrap (bits .and .u64 ((x:Int) / 4) 3689348814741910323+bits .and .u64 (x:Int) 3689348814741910323)=((s2 8 x:Nat):Int)/\s2 8 x<=7378697629483820646:=by have e1:=u64_and_nat (x / 4) 3689348814741910323 (by omega) (by decide);have e2:=u64_and_nat x 3689348814741910323 hx (by decide);have e:s2 8 x=(x / 4&&& 3689348814741910323)+(x&&& 3689348814741910323):=rfl;have b1:x / 4&&& 3689348814741910323<=3689348814741910323:=Nat.and_le_right;have b2:x&&& 3689348814741910323<=3689348814741910323:=Nat.and_le_right;rw[show(x:Int) / 4=((x / 4:Nat):Int)from rfl];rw[show((3689348814741910323:Nat):Int)=3689348814741910323 from rfl]at e1 e2;rw[e1,e2,e,IntKind.wrap_u64];omega
theorem Qf(x:Nat)(hx:x<=7378697629483820646):bits .and .u64 (IntKind.u64.wrap ((x:Int) / 16+(x:Int))) 1085102592571150095=((s3 8 x:Nat):Int):=by have e1:=u64_and_nat (x / 16+x) 1085102592571150095 (by omega) (by decide);rw[show((1085102592571150095:Nat):Int)=1085102592571150095 from rfl]at e1;rw[IntKind.wrap_u64,show((x:Int) / 16+(x:Int)) % 18446744073709551616=((x / 16+x:Nat):Int) by omega,e1];rfl
theorem Qg(x v t u:Nat)(hv:v=sb 8 x)(ht:t=v+v / 256)(hu:u=t+t / 65536):
 IntKind.u64.wrap ((v:Int)+(v:Int) / 256)=(t:Int)/\IntKind.u64.wrap ((t:Int)+(t:Int) / 65536)=(u:Int)/\IntKind.u64.wrap ((u:Int)+(u:Int) / 4294967296)=((u+u / 4294967296:Nat):Int)/\u+u / 4294967296<9223372036854775808/\(u+u / 4294967296) % 128=ones x:=by
 obtain⟨h1,h2⟩:=Gx x v t u hv ht hu;clear hv;simp only[IntKind.wrap_u64];omega
theorem pQ(x:Nat)(w:World)(hx:x<18446744073709551616):CW 196 #[.int .u64 (x:Int)] w (.int .i64 (ones x:Nat)):=by (obtain⟨k1,l1⟩:=Qd x hx;obtain⟨k2,l2⟩:=Qe _ l1;have k3:=Qf _ l2;have e3:s3 8 (s2 8 (s1 8 x))=sb 8 x:=JM 8 x;rw[e3]at k3;obtain⟨v,hv⟩:=eX (sb 8 x);obtain⟨t,ht⟩:=eX (v+v / 256);obtain⟨u,hu⟩:=eX (t+t / 65536);obtain⟨k4,k5,k6,l6,k7⟩:=Qg x v t u hv ht hu;rw[<-hv]at k3;generalize s2 8 (s1 8 x)=a2 at*;generalize s1 8 x=a1 at*;generalize u+u / 4294967296=q at*;have k8:bits .and .i64 ((q:Int)) 127=(ones x:Nat):=by rw[i64_and127,<-k7];omega);clear e3 l1 l2 k7 hv ht hu;go_enter Tryz.func196,Tryz.ntmps196;go_wp2;go_ret;exact⟨rfl,rfl⟩
def Tab(w:World):Prop:=∀j,j<64->w.cell? ⟨1,j,none⟩=some (.int .u8 (Lib.deBruijn64tab.getD j 0:Nat))
theorem Tab.lt{w:World}(h:Tab w): 1 <w.heap.size:=by have h0:=h 0 (by omega);rcases Nat.lt_or_ge 1 w.heap.size with h'|h';(. exact h');. simp[World.cell?,Array.getElem?_eq_none h']at h0
theorem Tab.keep{w w':World}(h:Tab w)(hk:w'.heap[1]? =w.heap[1]?):Tab w':=fun j hj=>by rw[<-h j hj];exact World.cell?_of_block (w:=w) (a:=⟨1,j,none⟩) hk
theorem Nk(x a:Nat)(hx0:x≠0)(hx:x<18446744073709551616)(hlow:x&&& (18446744073709551616-x)=a):
 IntKind.u64.wrap (bits BinOp.and IntKind.u64 (x:Int) (IntKind.u64.wrap (-(x:Int)))*285870213051353865) / 288230376151711744=((a*285870213051353865 % 18446744073709551616 / 288230376151711744:Nat):Int):=by
 have e1:IntKind.u64.wrap (-(x:Int))=((18446744073709551616-x:Nat):Int):=by rw[IntKind.wrap_u64];omega
 rw[e1,u64_and_nat x _ hx (by omega),hlow,IntKind.wrap_u64];omega
theorem Ku(x k idx:Nat)(w:World)(hx0:((x:Int)==0)=false)
 (key:IntKind.u64.wrap (bits BinOp.and IntKind.u64 (x:Int) (IntKind.u64.wrap (-(x:Int)))*285870213051353865) / 288230376151711744=(idx:Int))
 (hi:idx<64) (hk:k<64) (hcell:w.cell? ⟨1,idx,none⟩=some (.int .u8 k)):
 CW 192 #[.int .u64 (x:Int)] w (.int .i64 k):=by
 go_enter Tryz.func192,Tryz.ntmps192
 go_wp2_with (simp only[key])
 go_ret
 exact⟨rfl,rfl⟩
theorem kU(x:Nat)(w:World)(h0:x≠0)(hx:x<18446744073709551616)(hT:Tab w):
 CW 192 #[.int .u64 (x:Int)] w (.int .i64 (Lib.ctz 64 x:Nat)):=by
 obtain⟨hlow,hk⟩:=Lib.lowest_bit 64 x h0 hx;obtain⟨hi,htab⟩:=Lib.deBruijn64_at _ hk;have hcell:=hT _ hi;rw[htab]at hcell;exact Ku x _ _ w (by simp;omega) (Nk x _ h0 hx hlow) hi hk hcell
theorem Kv(i:Nat):IntKind.u64.wrap (2 ^ (i % 64))=((2 ^ (i % 64):Nat):Int):=by
 have:2 ^ (i % 64)<2 ^ 64:=Nat.pow_lt_pow_right (by omega) (by omega);rw[IntKind.wrap_u64];have e:(2:Int) ^ (i % 64)=((2 ^ (i % 64):Nat):Int):=by simp
 rw[e];generalize 2 ^ (i % 64)=p at*;omega
theorem CZ(i:Nat)(w:World)(hi:i<9223372036854775808):CW 165 #[(i:Int)] w (.int .u64 (2 ^ (i % 64):Nat)):=by have k1:=Kv i;go_enter Tryz.func165,Tryz.ntmps165;go_wp2;go_ret;exact⟨by rw[k1];rfl,rfl⟩
end Bt
end Go.Proofs.YtmcbidhpkpmalaaGreatDoor
namespace Go.Proofs.YtmcbidhpkpmalaaGreatDoor.Po
open Bt
def fill(tb:List Bool):Nat->List Bool
 |0=>tb
 |p+1=>(fill tb p).set p true
def frs(tb:List Bool):Nat->List Nat
 |0=>[]
 |p+1=>frs tb p++(if tb.getD p false then []else [p])
def free(tb:List Bool):Nat:=tb.length-cnt tb
theorem Nl(tb:List Bool):cnt tb<=tb.length:=CJ _ _
theorem dX(tb:List Bool):∀p,(fill tb p).length=tb.length
 |0=>rfl
 |p+1=>by unfold fill;rw[List.length_set,dX tb p]
theorem gy(tb:List Bool):∀(p i:Nat),p<=i->(fill tb p).getD i false=tb.getD i false
 |0,_,_=>rfl
 |p+1,i,h=>by unfold fill;by_cases hp:p<tb.length;(. rw[iA _ _ _ _ _ (by rw[dX];exact hp),if_neg (by omega),gy tb p i (by omega)]);. rw[List.set_eq_of_length_le (by rw[dX];omega),gy tb p i (by omega)]
def Full(tb:List Bool)(p q:Nat):Prop:=∀j,p<=j->j<q->tb.getD j false=true
theorem pR(tb:List Bool)(p:Nat):∀d,p+d<=tb.length->Full tb p (p+d)->fill tb (p+d)=fill tb p/\frs tb (p+d)=frs tb p
 |0,_,_=>⟨rfl,rfl⟩
 |d+1,h,hf=>by obtain⟨h1,h2⟩:=pR tb p d (by omega) fun j h3 h4=>hf j h3 (by omega);have h5:=hf (p+d) (by omega) (by omega);refine⟨?_,?_⟩;(. show(fill tb (p+d)).set (p+d) true=fill tb p;rw[sZ (by rw[dX];omega) (by rw[gy tb _ _ (Nat.le_refl _)];exact h5),h1]);. show frs tb (p+d)++(if tb.getD (p+d) false then []else [p+d])=frs tb p;rw[h5,h2];simp
theorem C8(tb:List Bool):∀p,(frs tb p).length=pc (fun i=> !tb.getD i false) p
 |0=>rfl
 |p+1=>by unfold frs pc;rw[List.length_append,C8 tb p];cases tb.getD p false<;>rfl
theorem Ky(tb:List Bool):(frs tb tb.length).length=free tb:=by rw[C8,JL];rfl
def Got(tb:List Bool)(k:Nat)(t:List Bool)(l:List Nat):Prop:=∃p,p<=tb.length/\t=fill tb p/\l=frs tb p/\l.length=k
theorem Got.len{tb:List Bool}{k:Nat}{t:List Bool}{l:List Nat}(h:Got tb k t l):t.length=tb.length/\l.length=k:=by obtain⟨p,_,rfl,_,h4⟩:=h;exact⟨dX tb p,h4⟩
theorem JN(tb:List Bool):∀(p x:Nat),x∈frs tb p->x<p
 |0,x,h=>by cases h
 |p+1,x,h=>by unfold frs at h;rcases List.mem_append.1 h with h|h;(. exact Nat.lt_succ_of_lt (JN tb p x h));. split at h;(. cases h);. (obtain rfl:x=p:=by simpa using h);omega
theorem Got.lt{tb:List Bool}{k:Nat}{t:List Bool}{l:List Nat}(h:Got tb k t l){x:Nat}(hx:x∈l):x<tb.length:=by obtain⟨p,h1,_,rfl,_⟩:=h;exact Nat.lt_of_lt_of_le (JN tb p x hx) h1
theorem C9{tb:List Bool}{q a k:Nat}(hq:q<=tb.length)(ha:a<=q)(hf:∀j,a<=j->j<q->(fill tb q).getD j false=true)(hk:(frs tb q).length<k)(hkf:k<=free tb):
 ∃r,q<=r/\r<tb.length/\eF (fill tb q) (a:Int) false=some r/\(fill tb q).getD r false=false/\(fill tb q).set r true=fill tb (r+1)/\frs tb (r+1)=frs tb q++[r]:=by
 cases ho:eF (fill tb q) (a:Int) false with
 |none=>
  have hno:=pO ho;obtain⟨d,hd⟩:∃d,tb.length=q+d:=⟨tb.length-q,by omega⟩
  have hfull:Full tb q (q+d):=fun j h1 h2=>by
   have:=hno j (by omega) (by rw[dX];omega);rw[gy tb q j h1]at this;simpa using this
  have:=(pR tb q d (by omega) hfull).2;rw[<-hd]at this;have h2:=Ky tb;rw[this]at h2;omega
 |some r=>
  obtain⟨h1,h2,h3,h4⟩:=kT ho;rw[dX]at h2
  have hqr:q<=r:=by
   rcases Nat.lt_or_ge r q with h|h
   . rw[hf r (by omega) h]at h3;cases h3
   . exact h
  obtain⟨d,rfl⟩:∃d,r=q+d:=⟨r-q,by omega⟩
  have hfull:Full tb q (q+d):=fun j h5 h6=>by
   have:=h4 j (by omega) h6;rw[gy tb q j h5]at this;simpa using this
  obtain⟨e1,e2⟩:=pR tb q d (by omega) hfull;refine⟨q+d,hqr,h2,rfl,h3,?_,?_⟩
  . show _=(fill tb (q+d)).set (q+d) true
    rw[e1]
  . show frs tb (q+d)++(if tb.getD (q+d) false then []else [q+d])=_
    rw[gy tb q _ hqr]at h3;rw[e2,h3];rfl
theorem Kz(tb:List Bool)(r:Nat)(hr:r<tb.length):(fill tb (r+1)).getD r false=true:=by show((fill tb r).set r true).getD r false=true;rw[iA _ _ _ _ _ (by rw[dX];exact hr),if_pos rfl]
theorem in_lt{tb:List Bool}{i:Nat}(h:i<tb.length):inB tb i=true:=by unfold inB;simp;omega
def pU(tb:List Bool)(l:List Nat):List Bool:=l.foldl (fun t x=>t.set x true) tb
theorem tq(tb:List Bool)(a b:List Nat):pU tb (a++b)=pU (pU tb a) b:=by unfold pU;rw[List.foldl_append]
theorem ny(tb:List Bool):∀p,p<=tb.length->pU tb (frs tb p)=fill tb p
 |0,_=>rfl
 |p+1,h=>by have ih:=ny tb p (by omega);unfold frs;rw[tq,ih];cases hv:tb.getD p false with|true=>show fill tb p=(fill tb p).set p true;exact(sZ (by rw[dX];omega) (by rw[gy tb p p (Nat.le_refl _)];exact hv)).symm|false=>rfl
def AB(tb:List Bool)(l:List Nat):Prop:=∀k (h:k<l.length),(pU tb (l.take k)).getD l[k] false=false
theorem vG(tb:List Bool):∀p,p<=tb.length->AB tb (frs tb p)
 |0,_=>fun k h=>absurd h (by simp[frs])
 |p+1,hp=>by have ih:=vG tb p (by omega);cases hv:tb.getD p false with|true=>(have e:frs tb (p+1)=frs tb p:=by show frs tb p++(if tb.getD p false then []else [p])=_;rw[hv];simp);rw[e];exact ih|false=>(have e:frs tb (p+1)=frs tb p++[p]:=by show frs tb p++(if tb.getD p false then []else [p])=_;rw[hv];rfl);rw[e];intro k h;by_cases hk:k<(frs tb p).length;(. rw[List.take_append_of_le_length (by omega),List.getElem_append_left hk];exact ih k hk);. (have hk':k=(frs tb p).length:=by simp at h;omega);subst hk';rw[List.take_left',List.getElem_append_right (Nat.le_refl _)];(. simp only[Nat.sub_self,List.getElem_cons_zero];rw[ny tb p (by omega),gy tb p p (Nat.le_refl _)];exact hv);. rfl
theorem Got.fresh{tb:List Bool}{k:Nat}{t:List Bool}{l:List Nat}(h:Got tb k t l):AB tb l/\pU tb l=t:=by obtain⟨p,h1,rfl,rfl,_⟩:=h;exact⟨vG tb p h1,ny tb p h1⟩
end Go.Proofs.YtmcbidhpkpmalaaGreatDoor.Po
namespace Go.Proofs.YtmcbidhpkpmalaaGreatDoor
open Go.RowKit
namespace Mem
def aH(U:TypeId)(w:World)(g:Nat)(C:Array Value):Prop:=w.heap[g]? =some (.cells C U (0,0))
section
variable{P:Program}{U T:TypeId}{w w':World}{g:Nat}{C C':Array Value}
theorem aH.lt(h:aH U w g C):g<w.heap.size:=(Array.getElem?_eq_some_iff.1 h).1
theorem aH.kept(h:aH U w g C)(hb:Bw w w'):aH U w' g C:=(hb.block g h.lt).trans h
theorem aH.cell(h:aH U w g C){i:Nat}{v:Value}(hv:C[i]? =some v):w.cell? ⟨g,i,none⟩=some v:=by unfold aH at h;simp[World.cell?,h,hv]
theorem aH.free(h:aH U w g C)(i:Nat):w.frozen? ⟨g,i,none⟩=false:=by unfold aH at h;simp[World.frozen?,h]
theorem aH.new(U:TypeId)(w:World)(C:Array Value):aH U (w.alloc (.cells C U)) w.heap.size C:=heap_alloc_new w _
theorem aH.set(h:aH U w g C)(i:Nat)(v:Value):aH U (w.setCell ⟨g,i,none⟩ v) g (C.setIfInBounds i v):=by unfold aH at h ⊢;simp[World.setCell,Array.getElem?_modify,h]
theorem addr_add(g i:Nat):Addr.add ⟨g,0,none⟩ i=⟨g,i,none⟩:=by by_cases h0:i=0<;>simp[Addr.add,h0]
theorem pV(hx:aH U w g C):∀(n i:Nat) (acc:Array Value),i+n<=C.size->(loadCellsFrom ⟨g,0,none⟩ i n acc).run P w= .ok (acc++((C.toList.drop i).take n).toArray) w
 |0,i,acc,_=>by simp[loadCellsFrom]
 |n+1,i,acc,h=>by (have hi:i<C.size:=by omega);have hc:=hx.cell (i:=i) (v:=C[i]) (by simp[hi]);have ih:=pV hx n (i+1) (acc.push C[i]) (by omega);unfold loadCellsFrom;rw[Sem.run_bind,run_load,addr_add,hc];simp only[Result.andThen_ok];rw[ih];congr 1;apply Array.ext';(have hd:C.toList.drop i=C[i]::C.toList.drop (i+1):=by rw[List.drop_eq_getElem_cons (by simpa using hi)];simp);simp[hd]
theorem nT{fs:Array Field}(hu:P.underlying T=some (.struct fs))(hs:(P.info? T).map (·.size)=some C.size)(hx:aH U w g C):(Instr.loadAt T (.pointer (some ⟨g,0,none⟩))).run P w= .ok (.agg C) w:=by obtain⟨i,hi,hz⟩:=Option.map_eq_some_iff.1 hs;have hl:=pV (P:=P) hx C.size 0 #[] (by omega);simp only[List.drop_zero]at hl;rw[List.take_of_length_le (by simp)]at hl;simp[Instr.loadAt,Instr.sureAddr,loadVar,isAgg,run_underlying hu,sizeOf,typeInfo,hi,hz,loadCells,hl]
def nC(w:World)(g:Nat):List Value->Nat->World
 |[],_=>w
 |v::r,i=>nC (w.setCell ⟨g,i,none⟩ v) g r (i+1)
def nD(C:Array Value):List Value->Nat->Array Value
 |[],_=>C
 |v::r,i=>nD (C.setIfInBounds i v) r (i+1)
theorem nU:∀(vs:List Value) (C:Array Value) (i:Nat),i+vs.length<=C.size->(nD C vs i).toList=C.toList.take i++vs++C.toList.drop (i+vs.length)
 |[],C,i,_=>by simp[nD]
 |v::r,C,i,h=>by (simp only[List.length_cons]at h;show(nD (C.setIfInBounds i v) r (i+1)).toList=_;rw[nU r _ _ (by simp;omega)];simp only[Array.toList_setIfInBounds,List.length_cons];rw[List.take_set,List.drop_set_of_lt (by omega),List.take_succ_eq_append_getElem (by simpa using(show i<C.size by omega))];rw[List.set_append_right _ _ (by simp;omega),List.length_take];have:i-min i C.toList.length=0:=by simp;omega);rw[this,show i+1+r.length=i+(r.length+1) by omega];simp
theorem rX:∀(vs:List Value) {w:World} {C:Array Value} (i:Nat),aH U w g C->aH U (nC w g vs i) g (nD C vs i)
 |[],_,_,_,h=>h
 |v::r,_,_,i,h=>rX r (i+1) (h.set i v)
theorem nW:∀(vs:List Value) (w:World) (i:Nat),Flow.Into [g] w (nC w g vs i)
 |[],w,_=>Flow.Into.refl _ _
 |v::r,w,i=>(show Flow.Into [g] w (w.setCell ⟨g,i,none⟩ v)from⟨rfl,rfl,rfl,by simp[World.setCell],fun k _ hk=>Below.heap_setCell _ _ _ _ (by simpa using hk)⟩).trans (nW r _ _)
def Qh(w:World)(g:Nat)(C:Array Value):World:=nC w g C.toList 0
theorem KA(h:aH U w g C)(hs:C'.size=C.size):aH U (Qh w g C') g C':=by have h1:=rX C'.toList 0 h;(have e:nD C C'.toList 0=C':=by apply Array.ext';rw[nU _ _ _ (by simp;omega)];simp;omega);rw[e]at h1;exact h1
theorem Da(w:World)(g:Nat)(C:Array Value):Flow.Into [g] w (Qh w g C):=nW _ _ _
theorem rY:∀(vs:List Value) {w:World} {C:Array Value} (i:Nat),aH U w g C->i+vs.length<=C.size->(∀v∈vs,v.oneCell'=true)->(storeCells ⟨g,0,none⟩ vs i).run P w= .ok () (nC w g vs i)
 |[],w,C,i,_,_,_=>by simp[storeCells,nC]
 |v::r,w,C,i,hx,h,h1=>by (simp only[List.length_cons]at h;have hi:i<C.size:=by omega);have hc:=hx.cell (i:=i) (v:=C[i]) (by simp[hi]);have ih:=rY r (i+1) (hx.set i v) (by simp;omega) (fun v hv=>h1 v (List.mem_cons_of_mem _ hv));unfold storeCells;rw[Sem.run_bind,addr_add,run_store P w _ v _ (h1 v (by simp)),hc];simp only[hx.free i,Bool.false_eq_true,if_false,Result.andThen_ok];exact ih
theorem tu(hs:(P.info? T).map (·.size)=some C.size)(hz:C'.size=C.size)(h1:∀v∈C'.toList,v.oneCell'=true)(hx:aH U w g C):(Instr.storeAt T (.pointer (some ⟨g,0,none⟩)) (.agg C')).run P w= .ok () (Qh w g C'):=by obtain⟨i,hi,hz2⟩:=Option.map_eq_some_iff.1 hs;have hst:=rY (P:=P) C'.toList 0 hx (by simp;omega) h1;have hcs:(Value.agg C').cells=C':=rfl;simp[Instr.storeAt,Instr.sureAddr,storeVar,hcs,sizeOf,typeInfo,hi,hz,hz2];exact hst
theorem gW{fs:Array Field}(hu:P.underlying T=some (.struct fs))(hs:(P.info? T).map (·.size)=some C.size)(hx:aH U w g C):(loadVar T ⟨g,0,none⟩).run P w= .ok (.agg C) w:=by have h:=nT (P:=P) hu hs hx;simpa[Instr.loadAt,Instr.sureAddr]using h
theorem aO{ops:Array Oper}{rest:List Oper}{o:Oper}{a:Act}{Q:Exit->Act->World->Prop}(hgd:o.guard=none)(x:Operand)(T:TypeId)(ho:o.op= .load T x){fs:Array Field}(hu:P.underlying T=some (.struct fs))(g:Nat)(C:Array Value)(hs:(P.info? T).map (·.size)=some C.size)(hx:a.eval x= .pointer (some ⟨g,0,none⟩))(hb:aH U w g C)
 (h:wpList P ops Q rest (a.put o.dst (.agg C)) w):wpList P ops Q (o::rest) a w:=by
 refine wpList_plain hgd fun K hK=>?_;unfold Oper.wp execOp;simp only[ho,hx,Sem.run_bind,nT hu hs hb,Result.andThen_ok,Sem.run_pure];exact hK _ _ h
theorem pW{ops:Array Oper}{rest:List Oper}{o:Oper}{a:Act}{Q:Exit->Act->World->Prop}(hgd:o.guard=none)(x:Operand)(T:TypeId)(ho:o.op= .load T x){fs:Array Field}(hu:P.underlying T=some (.struct fs))(g:Nat)(C D:Array Value)(hs:(P.info? T).map (·.size)=some D.size)(hx:a.eval x= .pointer (some ⟨g,0,none⟩))(hb:aH U w g C)(hD:(C.toList.take D.size).toArray=D)(hle:D.size<=C.size)
 (h:wpList P ops Q rest (a.put o.dst (.agg D)) w):wpList P ops Q (o::rest) a w:=by
 refine wpList_plain hgd fun K hK=>?_;obtain⟨i,hi,hz⟩:=Option.map_eq_some_iff.1 hs;have hl:=pV (P:=P) hb D.size 0 #[] (by omega);simp only[List.drop_zero]at hl;rw[hD]at hl
 have h9:(Instr.loadAt T (.pointer (some ⟨g,0,none⟩))).run P w= .ok (.agg D) w:=by
  simp[Instr.loadAt,Instr.sureAddr,loadVar,isAgg,run_underlying hu,sizeOf,typeInfo,hi,hz,loadCells,hl]
 unfold Oper.wp execOp;simp only[ho,hx,Sem.run_bind,h9,Result.andThen_ok,Sem.run_pure];exact hK _ _ h
theorem bf{ops:Array Oper}{rest:List Oper}{o:Oper}{a:Act}{Q:Exit->Act->World->Prop}(hgd:o.guard=none)(x y:Operand)(T:TypeId)(ho:o.op= .store T x y)(hd:o.dst=none)(g:Nat)(C C':Array Value)(hs:(P.info? T).map (·.size)=some C.size)(hz:C'.size=C.size)(h1:∀v∈C'.toList,v.oneCell'=true)(hx:a.eval x= .pointer (some ⟨g,0,none⟩))(hy:a.eval y= .agg C')(hb:aH U w g C)
 (h:∀w',Hid (aH U w' g C')->Flow.Into [g] w w'->wpList P ops Q rest a w'):wpList P ops Q (o::rest) a w:=by
 refine wpList_plain hgd fun K hK=>?_;unfold Oper.wp execOp;simp only[ho,hx,hy,Sem.run_bind,tu hs hz h1 hb,Result.andThen_ok,Sem.run_pure];rw[Oper.upon_skip,hd];exact hK _ _ (h _ (KA hb hz) (Da w g C'))
end
end Mem
end Go.Proofs.YtmcbidhpkpmalaaGreatDoor
namespace Go.Proofs.YtmcbidhpkpmalaaGreatDoor
open Go.RowKit
open List (length replicate)
namespace Mem
structure Kp(T1 T2:TypeId)(B:Nat)(w w':World):Prop where
 below:Below B w w'
 block:∀(b:Nat) (C:Array Value) (T:TypeId) (f:Nat × Nat),w.heap[b]? =some (Obj.cells C T f)->T≠T1->T≠T2->w'.heap[b]? =some (Obj.cells C T f)
section
variable{T1 T2:TypeId}{B:Nat}{w w' w2:World}
theorem Kp.refl(T1 T2:TypeId)(B:Nat)(w:World):Kp T1 T2 B w w:=⟨Below.refl _ _,fun _ _ _ _ h _ _=>h⟩
theorem Kp.trans(h:Kp T1 T2 B w w')(k:Kp T1 T2 B w' w2):Kp T1 T2 B w w2:=⟨h.below.trans k.below,fun b C T f hb h1 h2=>k.block b C T f (h.block b C T f hb h1 h2) h1 h2⟩
theorem Kp.of_below(h:Bw w w')(hB:B<=w.heap.size):Kp T1 T2 B w w':=⟨h.mono hB,fun b _ _ _ hb _ _=>(h.block b (Array.getElem?_eq_some_iff.1 hb).1).trans hb⟩
theorem Kp.set(h:Kp T1 T2 B w w'){g i:Nat}{C:Array Value}{T:TypeId}{f:Nat × Nat}(hg:B<=g)(hx:w'.heap[g]? =some (.cells C T f))(hT:T=T1\/T=T2)(v:Value):Kp T1 T2 B w (w'.setCell ⟨g,i,none⟩ v):=by refine⟨h.below.setCell hg _,fun b C' T' f' hb h1 h2=>?_⟩;have h3:=h.block b C' T' f' hb h1 h2;by_cases e:b=g;(. subst e;rw[hx]at h3;simp only[Option.some.injEq,Obj.cells.injEq]at h3;obtain⟨-,rfl,-⟩:=h3;rcases hT with hT|hT;(. exact absurd hT h1);. exact absurd hT h2);. rw[<-h3];exact Below.heap_setCell _ _ _ _ e
theorem Kp.box(h:Kp T1 T2 B w w'){b:Nat}{C:Array Value}{T:TypeId}{f:Nat × Nat}(hb:w.heap[b]? =some (.cells C T f))(h1:T≠T1)(h2:T≠T2):w'.heap[b]? =some (.cells C T f):=h.block b C T f hb h1 h2
end
section
variable{U:TypeId}{B:Nat}{w w':World}{v:Value}{l:List UInt8}
theorem Own.row(h:Own U w B v l):∀k,v.ownBlock=some k->B<=k/\∃C,w.heap[k]? =some (.cells C U (0,0)):=by (intro k hk;rcases h.2 with⟨rfl,_⟩|⟨g,cap,cur,rfl,hb,hg,_⟩);(. simp[Value.ownBlock]at hk);. simp[Value.ownBlock]at hk;subst hk;exact⟨hb,cur,hg⟩
theorem Own.sl(h:Own U w B v l):∃A m c,v= .slice A m c:=by obtain⟨A,c,e,-,-⟩:=h.slice;exact⟨A,_,c,e⟩
theorem Own.grown{T2:TypeId}(h:Own U w B v l)(hg:w.grownBy w' v.ownBlock)(hB:B<=w.heap.size):Kp U T2 B w w':=by refine⟨⟨hg.os,hg.tape,hg.output,hg.size,fun k hk=>hg.block k (by omega) fun e=>?_⟩,fun b C T f hb h1 _=>?_⟩;(. have:=(h.row k e.symm).1;omega);. refine(hg.block b (Array.getElem?_eq_some_iff.1 hb).1 fun e=>?_).trans hb;obtain⟨-,C',h3⟩:=h.row b e.symm;rw[hb]at h3;simp only[Option.some.injEq,Obj.cells.injEq]at h3;exact h1 h3.2.1
theorem Own.keep(h:Own U w B v l)(hk:∀k,v.ownBlock=some k->w'.heap[k]? =w.heap[k]?):Own U w' B v l:=by refine⟨h.1,?_⟩;rcases h.2 with hn|⟨g,cap,cur,rfl,hb,hg,hr⟩;(. exact .inl hn);. exact .inr ⟨g,cap,cur,rfl,hb,(hk g rfl).trans hg,hr⟩
theorem Own.kept(h:Own U w B v l)(hb:Bw w w'):Own U w' B v l:=h.keep fun k hk=>by obtain⟨-,C,hc⟩:=h.row k hk;exact hb.block k (Array.getElem?_eq_some_iff.1 hc).1
theorem Own.aT(h:Own U w B v l){g i:Nat}{C:Array Value}{T:TypeId}{f:Nat × Nat}(hx:w.heap[g]? =some (.cells C T f))(hT:T≠U)(x:Value):Own U (w.setCell ⟨g,i,none⟩ x) B v l:=h.keep fun k hk=>by obtain⟨-,C',hc⟩:=h.row k hk;refine Below.heap_setCell _ _ _ _ fun e=>?_;subst e;rw[hx]at hc;simp only[Option.some.injEq,Obj.cells.injEq]at hc;exact hT hc.2.1
end
theorem wpList_append_text{P:Program}{w:World}{ops:Array Oper}{rest:List Oper}{o:Oper}{a:Act}{Q:Exit->Act->World->Prop}(hgd:o.guard=none)(s x:Operand)(t u:TypeId)
 (ho:o.op= .call { callee:= .builtin .append,args:= #[s,x],argTypes:= #[t,u] }) (B:Nat) (U:TypeId) (ht:P.underlying t=some (.slice U)) (hu:P.underlying u=some .string) (hinfo:(P.info? U).map (fun i=>(i.zero,i.size,i.bytes))=some (some (.int .u8 0),1,1))
 (v:Value) (xs:List UInt8) (hs:a.eval s=v) (hown:Own U w B v xs) (sb:ByteArray) (hx:a.eval x= .string sb) (hsz:xs.length+sb.size<=1048576) (hB:B<=w.heap.size)
 (h:∀v' w',Hid (Own U w' B v' (xs++sb.data.toList))->w.grownBy w' v.ownBlock->wpList P ops Q rest (a.put o.dst v') w'):wpList P ops Q (o::rest) a w:=by
 obtain⟨i,hi,hz,hs1,hb1⟩:=info_parts hinfo;refine Lib.wpList_append_own_string w hgd s x t u ho B U i ht hu hi hz hs1 hb1 v xs.length (aD xs) hs hown sb hx (by unfold maxLen;omega) (by omega) hB fun v' w' h1 h2 _=>h v' w' ?_ h2;show w'.ownsRow B U 1 v' (xs++sb.data.toList).length (aD (xs++sb.data.toList));rw[List.length_append,show aD (xs++sb.data.toList)=aD xs++aD sb.data.toList by simp[aD]];exact h1
theorem vH(k:Nat):Builtin.zeroCells (Value.int IntKind.u8 0).cells k=(replicate k (Value.int .u8 0)).toArray:=by have e:(Value.int IntKind.u8 0).cells= #[Value.int .u8 0]:=rfl;apply Array.ext';rw[e];simp[Builtin.zeroCells,Nat.mod_one];rw[List.eq_replicate_iff];simp
theorem rD{P:Program}(w:World)(t tn u ty e:TypeId)(i:TypeInfo)(kn:IntKind)(ht:P.underlying t=some (.slice e))(htn:P.underlying tn=some (.int kn))(hu:P.underlying u=some .string)(hi:P.info? e=some i)(hz:i.zero=some (.int .u8 0))(hs1:i.size=1)(hb1:i.bytes=1)
 (A:Option Addr) (n c k:Nat) (hk:n+k<=1048576) (sb:ByteArray) (hsb:sb.data.toList=replicate k 0):
 (Builtin.append_ #[t,tn] ty #[.slice A n c,(k:Int)]).run P w=(Builtin.append_ #[t,u] ty #[.slice A n c,.string sb]).run P w:=by
 have hw:IntKind.i64.wrap (k:Int)=k:=by rw[IntKind.wrap_i64];omega
 have hneg:¬((k:Int)<0):=by omega
 have h48:¬(281474976710656<(k:Int)):=by omega
 have hsz:sb.size=k:=by
  have:=congrArg length hsb;simpa using this
 have hex:((sb.extract 0 k).data.map fun b=>Value.int .u8 b.toNat)=(replicate k (Value.int .u8 0)).toArray:=by
  apply Array.ext';simp[ByteArray.data_extract,hsb]
 have hfc:Builtin.firstCells 1 k (.string sb)=pure (replicate k (Value.int .u8 0)).toArray:=by
  simp only[Builtin.firstCells];rw[hex]
 generalize hv:(replicate k (Value.int .u8 0)).toArray=vs at*;have hzc:Builtin.zeroCells (Value.int IntKind.u8 0).cells k=vs:=by rw[vH,hv]
 by_cases h0:k=0
 . subst h0
   have hvs:vs= #[]:=(by rw[<-hv];rfl);have hw0:IntKind.i64.wrap 0=0:=rfl;subst hvs;by_cases hc:n<=c
   . simp[Builtin.append_,run_underlying ht,run_underlying htn,run_underlying hu,sizeOf,typeInfo,hi,hs1,hb1,Builtin.lenOf,asInt,asIntOf,hw0,hsz,hfc,hc]
   . have h48':¬(281474976710656<Builtin.nextslicecap n c):=by
      have:=growslice_fits (need:=n) (old:=c) (bytes:=1) (by omega) (by omega);omega
     have h63:¬(9223372036854775807<(n:Int)):=(by omega);simp[Builtin.append_,run_underlying ht,run_underlying htn,run_underlying hu,sizeOf,typeInfo,hi,hs1,hb1,Builtin.lenOf,asInt,asIntOf,hw0,hsz,hfc,hc,h48',h63]
 . by_cases hc:n+k<=c
   . simp[Builtin.append_,run_underlying ht,run_underlying htn,run_underlying hu,sizeOf,typeInfo,hi,hs1,hb1,Builtin.lenOf,asInt,asIntOf,hw,hneg,h48,hsz,hfc,hc,h0,zeroValue,hz,hzc]
   . have h48':¬(281474976710656<Builtin.nextslicecap (n+k) c):=by
      have:=growslice_fits (need:=n+k) (old:=c) (bytes:=1) (by omega) (by omega);omega
     have h63:¬(9223372036854775807<(n:Int)+(k:Int)):=(by omega);simp[Builtin.append_,run_underlying ht,run_underlying htn,run_underlying hu,sizeOf,typeInfo,hi,hs1,hb1,Builtin.lenOf,asInt,asIntOf,hw,hneg,h48,hsz,hfc,hc,h0,zeroValue,hz,hzc,h48',h63]
theorem kV{P:Program}{w:World}{ops:Array Oper}{rest:List Oper}{o:Oper}{a:Act}{Q:Exit->Act->World->Prop}(hgd:o.guard=none)(s x:Operand)(t tn u:TypeId){kn:IntKind}
 (ho:o.op= .call { callee:= .builtin .append,args:= #[s,x],argTypes:= #[t,tn] }) (B:Nat) (U:TypeId) (ht:P.underlying t=some (.slice U)) (htn:P.underlying tn=some (.int kn)) (hu:P.underlying u=some .string) (hinfo:(P.info? U).map (fun i=>(i.zero,i.size,i.bytes))=some (some (.int .u8 0),1,1))
 (v:Value) (xs:List UInt8) (hs:a.eval s=v) (hown:Own U w B v xs) (k:Nat) (hx:a.eval x= .int .i64 (k:Int)) (hsz:xs.length+k<=1048576) (hB:B<=w.heap.size)
 (h:∀v' w',Hid (Own U w' B v' (xs++replicate k 0))->w.grownBy w' v.ownBlock->wpList P ops Q rest (a.put o.dst v') w'):wpList P ops Q (o::rest) a w:=by
 obtain⟨i,hi,hz,hs1,hb1⟩:=info_parts hinfo;obtain⟨A,c,rfl,-,-⟩:=hown.slice;obtain⟨sb,hsb⟩:∃sb:ByteArray,sb.data.toList=replicate k 0:=⟨⟨(replicate k 0).toArray⟩,rfl⟩
 have hsl:sb.size=k:=by
  have:=congrArg length hsb;simpa using this
 obtain⟨v',w',hr,h2,h3,_⟩:=Lib.run_append_own_string (P:=P) w B t u o.type U i ht hu hi hz hs1 hb1 (.slice A xs.length c) xs.length (aD xs) hown sb (by unfold maxLen;omega) (by omega) hB;rw[<-rD w t tn u o.type U i kn ht htn hu hi hz hs1 hb1 A xs.length c k hsz sb hsb]at hr;refine Lib.wpList_append_run w hgd s x t tn ho _ _ hs hx v' w' hr (h v' w' ?_ h3)
 have e:Lib.strCells sb=aD (replicate k 0):=by
  unfold Lib.strCells;rw[hsb];rfl
 rw[e,hsl]at h2;show w'.ownsRow B U 1 v' (xs++replicate k 0).length (aD (xs++replicate k 0));rw[List.length_append,List.length_replicate,show aD (xs++replicate k 0)=aD xs++aD (replicate k 0) by simp[aD]];exact h2
end Mem
end Go.Proofs.YtmcbidhpkpmalaaGreatDoor
namespace Go.Proofs.YtmcbidhpkpmalaaGreatDoor.Wd
def isW(n:Int):Bool:=n==1 || n==2 || n==4 || n==8
theorem pX{n:Int}(h:isW n=true):n=1\/n=2\/n=4\/n=8:=by simpa[isW,or_assoc]using h
def be:Nat->Nat->List UInt8
 |0,_=>[]
 |n+1,v=>be n (v / 256)++[UInt8.ofNat (v % 256)]
@[simp] theorem aB (n v:Nat):(be n v).length=n:=by
 induction n generalizing v with
 |zero=>rfl
 |succ n ih=>simp[be,ih]
theorem KD(n v:Nat):be (n+1) v=UInt8.ofNat (v / 256 ^ n % 256)::be n v:=by induction n generalizing v with|zero=>simp[be]|succ n ih=>rw[be,ih,List.cons_append];congr 2;. rw[Nat.div_div_eq_div_mul,Nat.pow_succ,Nat.mul_comm]
def val(l:List UInt8):Nat:=l.foldl (fun v x=>256*v+x.toNat) 0
theorem jZ(l:List UInt8)(x:UInt8):val (l++[x])=256*val l+x.toNat:=by simp[val]
theorem vI(l:List UInt8):val l<256 ^ l.length:=by suffices h:∀(n:Nat) (l:List UInt8),l.length=n->val l<256 ^ n from h _ _ rfl;intro n;induction n with|zero=>intro l hl;obtain rfl:=List.eq_nil_of_length_eq_zero hl;simp[val]|succ n ih=>(intro l hl;have hne:l≠[]:=by intro e;simp[e]at hl);obtain⟨r,x,rfl⟩:∃r x,l=r++[x]:=⟨l.dropLast,l.getLast hne,(List.dropLast_concat_getLast hne).symm⟩;rw[jZ,Nat.pow_succ];have h1:=ih r (by simpa using hl);have h2:x.toNat<256:=x.toNat_lt;omega
theorem eG(n v:Nat):val (be n v)=v % 256 ^ n:=by induction n generalizing v with|zero=>simp[be,val,Nat.mod_one]|succ n ih=>(have e:(UInt8.ofNat (v % 256)).toNat=v % 256:=by simp);rw[be,jZ,ih,e,Nat.pow_succ,Nat.mul_comm (256 ^ n) 256,Nat.mod_mul];omega
theorem Nn(l:List UInt8):be l.length (val l)=l:=by suffices h:∀(n:Nat) (l:List UInt8),l.length=n->be n (val l)=l from h _ _ rfl;intro n;induction n with|zero=>intro l hl;obtain rfl:=List.eq_nil_of_length_eq_zero hl;rfl|succ n ih=>(intro l hl;have hne:l≠[]:=by intro e;simp[e]at hl);obtain⟨r,x,rfl⟩:∃r x,l=r++[x]:=⟨l.dropLast,l.getLast hne,(List.dropLast_concat_getLast hne).symm⟩;(have h2:x.toNat<256:=x.toNat_lt;have h3:(256*val r+x.toNat) / 256=val r:=by omega);(have h4:(256*val r+x.toNat) % 256=x.toNat:=by omega);rw[jZ,be,h3,h4,ih r (by simpa using hl)];simp
def rowAt(l:List UInt8)(wd v j:Nat):List UInt8:=l++(List.replicate (wd-j) 0++be j v)
theorem vJ(l:List UInt8){wd j:Nat}(v:Nat)(h:j<=wd):(rowAt l wd v j).length=l.length+wd:=by simp[rowAt];omega
theorem rowAt_zero(l:List UInt8)(wd v:Nat):rowAt l wd v 0=l++List.replicate wd 0:=by simp[rowAt,be]
theorem rowAt_all(l:List UInt8)(wd v:Nat):rowAt l wd v wd=l++be wd v:=by simp[rowAt]
theorem AJ(l:List UInt8){wd v j:Nat}(h:j<wd):(rowAt l wd v j).set (l.length+(wd-j-1)) (UInt8.ofNat (v / 256 ^ j % 256))=rowAt l wd v (j+1):=by unfold rowAt;obtain⟨r,hr⟩:∃r,wd-j=r+1:=⟨wd-j-1,by omega⟩;(have hr':wd-(j+1)=r:=by omega);rw[hr,hr',KD,List.replicate_succ',List.set_append_right _ _ (by omega)];congr 1;rw[show l.length+(r+1-1)-l.length=r by omega,List.append_assoc,List.set_append_right _ _ (by simp)];simp
end Go.Proofs.YtmcbidhpkpmalaaGreatDoor.Wd
namespace Go.Proofs.YtmcbidhpkpmalaaGreatDoor
open Go.RowKit
namespace No
open Mem
open Wd (be val aB eG jZ vI)
def zs(n:Int):List UInt8:=List.replicate n.toNat 0
theorem gX(n:Int):(zs n).length=n.toNat:=List.length_replicate
def txt(s:ByteArray):List UInt8:=s.data.toList
theorem fG(s:ByteArray):(txt s).length=s.size:=rfl
theorem Db(s:ByteArray):strOf (txt s)=s:=rfl
theorem pY(l:List UInt8):txt (strOf l)=l:=rfl
def slotL(l:List UInt8)(most:Int):List UInt8:=l++zs (most-l.length)
theorem dR{l:List UInt8}{most:Int}(h:(l.length:Int)<=most):(slotL l most).length=most.toNat:=by unfold slotL;rw[List.length_append,gX];omega
section
variable{α:Type}{f:α->List UInt8}{S:Nat}{L:List α}
theorem iJ(hS:∀x∈L,(f x).length=S):(L.flatMap f).length=L.length*S:=by induction L with|nil=>simp|cons x xs ih=>rw[List.flatMap_cons,List.length_append,ih (fun y hy=>hS y (List.mem_cons_of_mem _ hy)),hS x List.mem_cons_self,List.length_cons,Nat.succ_mul,Nat.add_comm]
theorem AL(hS:∀x∈L,(f x).length=S):∀{k:Nat} {x:α},L[k]? =some x->∃R,(L.flatMap f).drop (k*S)=f x++R:=by induction L with|nil=>intro k x h;simp at h|cons y ys ih=>(intro k x h;cases k with|zero=>obtain rfl:y=x:=(by simpa using h);exact⟨ys.flatMap f,by simp⟩|succ k=>obtain⟨R,hR⟩:=ih (fun z hz=>hS z (List.mem_cons_of_mem _ hz)) (k:=k) (x:=x) (by simpa using h);refine⟨R,?_⟩;rw[List.flatMap_cons,Nat.succ_mul,Nat.add_comm,<-List.drop_drop,List.drop_left' (hS y List.mem_cons_self),hR])
theorem oO(hS:∀x∈L,(f x).length=S)(A R:List UInt8){a k:Nat}{x:α}(ha:A.length=a)(hx:L[k]? =some x):∃R',(A++(L.flatMap f++R)).drop (a+k*S)=f x++R':=by obtain⟨R',h⟩:=AL hS hx;refine⟨R'++R,?_⟩;have hk:k<L.length:=(List.getElem?_eq_some_iff.1 hx).1;have hl:=iJ hS;have hm:k*S<=L.length*S:=Nat.mul_le_mul_right _ (Nat.le_of_lt hk);rw[<-List.drop_drop,List.drop_left' ha,List.drop_append_of_le_length (by omega),h,List.append_assoc]
end
def atL(b:List UInt8)(i w:Nat):Nat:=val ((b.drop i).take w)
def KE(b:List UInt8)(i n:Nat):List UInt8:=(b.drop i).take n
theorem vK{b R:List UInt8}{i w v:Nat}(h:b.drop i=be w v++R)(hv:v<256 ^ w):atL b i w=v:=by unfold atL;rw[h,List.take_left' (aB w v),eG,Nat.mod_eq_of_lt hv]
theorem eH{b X R:List UInt8}{i j:Nat}(h:b.drop i=X++R)(hj:X.length=j):b.drop (i+j)=R:=by rw[<-List.drop_drop,h,List.drop_left' hj]
theorem tC{b R:List UInt8}{i:Nat}{s:ByteArray}{most:Int}(h:b.drop i=slotL (txt s) most++R):strOf (KE b i s.size)=s:=by unfold KE slotL at*;rw[h,List.append_assoc,List.take_left' (fG s)];exact Db s
end No
end Go.Proofs.YtmcbidhpkpmalaaGreatDoor
namespace Go.Proofs.YtmcbidhpkpmalaaGreatDoor
open Go.RowKit
open Go.Lib (hid)
namespace Wd
open Mem
theorem p8(n:Int)(w:World):CW 186 #[n] w (.bool (isW n)):=by
 by_cases h1:n=1
 . subst h1;go_enter Tryz.func186,Tryz.ntmps186;go_wp2;go_ret;exact⟨rfl,rfl⟩
 by_cases h2:n=2
 . subst h2;go_enter Tryz.func186,Tryz.ntmps186;go_wp2;go_ret;exact⟨rfl,rfl⟩
 by_cases h4:n=4
 . subst h4;go_enter Tryz.func186,Tryz.ntmps186;go_wp2;go_ret;exact⟨rfl,rfl⟩
 by_cases h8:n=8
 . subst h8;go_enter Tryz.func186,Tryz.ntmps186;go_wp2;go_ret;exact⟨rfl,rfl⟩
 have HR:=hid (show isW n=false by simp[isW,h1,h2,h4,h8]);have g1:(n==1)=false:=by simpa using h1
 have g2:(n==2)=false:=by simpa using h2
 have g4:(n==4)=false:=by simpa using h4
 have g8:(n==8)=false:=by simpa using h8
 clear h1 h2 h4 h8;go_enter Tryz.func186,Tryz.ntmps186
 go_wp2
 go_ret
 exact⟨by rw[HR.out];rfl,rfl⟩
theorem gK:(Tryz.prog.info? 5).map (fun i=>(i.zero,i.size,i.bytes))=some (some (.int .u8 0),1,1):=by kernel_rfl
theorem p9:(Tryz.prog.info? 5).map (·.size)=some 1:=by kernel_rfl
theorem lT(n:Nat)(hn:n<=140737488355328)(w:World):
 (Instr.makeSlice 26 (.int .i64 (n:Int)) (.int .i64 (n:Int))).run Tryz.prog w= .ok (.slice (some w.heap.size) n n) (w.alloc (.cells (aD (List.replicate n 0)).toArray 5)):=by
 obtain⟨i0,hi,hz,hs,hb⟩:=info_parts gK;have hr:=run_make (P:=Tryz.prog) w 26 5 i0 (.int .u8 0) Tryz.underlying26 hi hz .i64 .i64 n n (by omega) (by omega) (by rw[hb];omega) (by omega);rw[hr,hs];simp only[Int.toNat_natCast,Nat.mul_one];rw[<-pF (z:=(Value.int IntKind.u8 0).cells) rfl n]
theorem Dc(p:Option Addr)(c:Nat)(l:List UInt8)(w:World)(h:BL w p l)(hl:l.length<=140737488355328):
 Calls Tryz.prog 143 #[.slice p l.length c] w fun e w'=>e=.returned (.slice (some w.heap.size) l.length l.length)/\Row 5 w' w.heap.size l/\Bw w w':=by
 have hmk:=fun w=>lT l.length hl w;obtain⟨n,hn⟩:=eX l.length;rw[<-hn]at hmk;have HN:=hid hn;rw[<-hn];clear hn hl;go_enter Tryz.func143,Tryz.ntmps143
 go_wp2_with (with_reducible refine iI rfl (.tmp 7) (.tmp 8) _ _ rfl 5 Tryz.underlying26 p9 w.heap.size n n n c p rfl rfl (List.replicate n 0) l (Row.new _ _ _) HN.out.symm (h.alloc _) (Nat.le_refl _) (by simp) w.heap.size w (bAx) (Nat.le_refl _) ?_;intro w1 HR1 hb1)
 go_ret
 refine⟨rfl,?_,hb1⟩;have:=HR1.out;rw[<-HN.out]at this;simpa using this
theorem pow_div(v j:Nat):v / 256 ^ j / 256=v / 256 ^ (j+1):=by rw[Nat.div_div_eq_div_mul,Nat.pow_succ]
theorem Df(p:Option Addr)(c:Nat)(l:List UInt8)(wd v:Nat)(w:World)(h:BL w p l)(hl:l.length<=140737488355000)(hw:isW (wd:Int)=true)(hv:v<18446744073709551616):
 Calls Tryz.prog 182 #[.slice p l.length c,(wd:Int),.int .u64 (v:Int)] w fun e w'=>e=.returned (.slice (some w.heap.size) (l.length+wd) (l.length+wd))/\Row 5 w' w.heap.size (l++be wd v)/\Bw w w':=by
 have hwd:wd<=8:=by have:=pX hw;omega
 have hmk:=fun w=>lT (l.length+wd) (by omega) w;obtain⟨n,hn⟩:=eX l.length;rw[<-hn]at hmk;have hl':n<=140737488355000:=by omega
 have HN:=hid hn;have cW:=fun w=>hid (p8 wd w);rw[hw]at cW;rw[<-hn];clear hn hl hw;rw[show((n+wd:Nat):Int)=(n:Int)+(wd:Int)from by omega]at hmk;have HV:=hid hv;clear hv;go_enter Tryz.func182,Tryz.ntmps182
 go_wp2_with (first
  |(go_at_call 186;refine(cW _).mono ?_;rintro e w' ⟨rfl,rfl⟩)
  |(with_reducible refine iI rfl (.tmp 17) (.tmp 18) _ _ rfl 5 Tryz.underlying26 p9 w.heap.size (n+wd) (n+wd) n c p rfl rfl (List.replicate (n+wd) 0) l (Row.new _ _ _) HN.out.symm (h.alloc _) (by omega) (by simp) w.heap.size w (bAx) (Nat.le_refl _) ?_;intro w1 HR1 hb1))
 go_loopw [2,8] (fun vv i wr=>∃(j m:Nat) (z:Int),j<=wd/\i= .int .i64 z/\vv= .int .u64 (m:Int)/\Hid (z=n+wd-j-1)/\Hid (m=v / 256 ^ j)/\Row 5 wr w.heap.size (rowAt l wd v j)/\Bw w wr) (fun _ i _=>(intOf i-n+1).toNat)
 case atStart=>exact⟨0,v,_,Nat.zero_le _,rfl,rfl,by unfold Hid;omega,by unfold Hid;simp,by
  have:=HR1.out;rw[rowAt_zero];rw[<-HN.out]at this
  simpa[Nat.add_sub_cancel_left]using this,hb1⟩
 case round=>
  obtain⟨j,m,z,hj,rfl,rfl,HZ,HM,hrow,hbw⟩:=hrel;by_cases hlt:j<wd
  . obtain⟨q,hq⟩:=eX (n+(wd-j-1))
    obtain rfl:z=(q:Int):=(by have:=HZ.out;omega);have hq1:n<=q:=(by omega);have hq2:q<n+wd:=(by omega);have hlen:q<(rowAt l wd v j).length:=(by rw[vJ _ _ hj,<-HN.out];exact hq2);have hcell:=hrow.cell hlen;have hfree:=hrow.free q;generalize ((rowAt l wd v j)[q].toNat:Int)=y at hcell;have hset:=fun z hz=>hid (hrow.set hlen (UInt8.ofNat (m % 256)) (z:=z) hz);have HB:=hid hbw;have HQ:=hid hq;clear hrow hbw hq hlen
    go_wp2
    refine⟨⟨j+1,m / 256,_,hlt,rfl,by simp,by have:=HZ.out;unfold Hid;omega,by have:=HM.out;unfold Hid;rw[this,pow_div],?_,HB.setCell (Nat.le_refl _) _⟩,by simp[intOf];omega⟩;have h1:=(hset (↑m % 256) (by simp)).out;rw[HQ.out,HM.out,HN.out,AJ l hlt]at h1;rw[HQ.out,HM.out,HN.out];exact h1
  . obtain rfl:j=wd:=by omega
    obtain rfl:z=(n:Int)-1:=(by have:=HZ.out;omega);have HR:=hid hrow;have HB:=hid hbw;clear hrow hbw
    go_wp2
    go_ret
    have h1:=HR.out;rw[rowAt_all]at h1;exact⟨rfl,h1,HB.out⟩
end Wd
end Go.Proofs.YtmcbidhpkpmalaaGreatDoor
namespace Go.Proofs.YtmcbidhpkpmalaaGreatDoor
open Go.RowKit
namespace Wd
open Mem
end Wd
namespace Mem
section
variable{α:Type}{K:Kind α}{P:Program}
end
end Mem
end Go.Proofs.YtmcbidhpkpmalaaGreatDoor
