import Derived.Lib.TrailingZeros
namespace Go.Proofs.YtjpjjnalpdpljaaGreatDoor.Bt
def pc (f:Nat->Bool):Nat->Nat
 |0=>0
 |k+1=>pc f k+if f k then 1 else 0
theorem pc_le (f:Nat->Bool):∀k,pc f k<=k
 |0=>Nat.le_refl _
 |k+1=>by have:=pc_le f k;unfold pc;split<;>omega
theorem pc_congr {f g:Nat->Bool}:∀{k:Nat},(∀i,i<k->f i=g i)->pc f k=pc g k
 |0,_=>rfl
 |k+1,h=>by
  unfold pc
  rw [pc_congr (k:=k) fun i hi=>h i (by omega),h k (by omega)]
theorem pc_add (f:Nat->Bool) (a:Nat):∀b,pc f (a+b)=pc f a+pc (fun i=>f (a+i)) b
 |0=>rfl
 |b+1=>by
  rw [<-Nat.add_assoc]
  show pc f (a+b)+(if f (a+b) then 1 else 0)=pc f a+(pc (fun i=>f (a+i)) b+(if f (a+b) then 1 else 0))
  rw [pc_add f a b];omega
theorem pc_none {f:Nat->Bool}:∀{k:Nat},(∀i,i<k->f i=false)->pc f k=0
 |0,_=>rfl
 |k+1,h=>by
  unfold pc
  rw [pc_none (k:=k) fun i hi=>h i (by omega),h k (by omega)];rfl
theorem pc_beyond {f:Nat->Bool} {n:Nat} (h:∀i,n<=i->f i=false) {m:Nat} (hm:n<=m):pc f m=pc f n:=by
 obtain ⟨d,rfl⟩:∃d,m=n+d:=⟨m-n,by omega⟩
 rw [pc_add,pc_none (f:=fun i=>f (n+i)) fun i _=>h _ (by omega)];rfl
theorem pc_not (f:Nat->Bool):∀k,pc (fun i=> !f i) k=k-pc f k
 |0=>rfl
 |k+1=>by
  have:=pc_le f k
  unfold pc
  rw [pc_not f k]
  cases f k<;>simp<;>omega
theorem and_bytes (a c x m:Nat) (ha:a<256) (hc:c<256):(a+256*x)&&& (c+256*m)=(a&&& c)+256*(x&&& m):=by
 have h:∀(a x:Nat),a<256->a+256*x=x<<<8 |||a:=fun a x ha=>by
  rw [<-Nat.shiftLeft_add_eq_or_of_lt (i:=8) (by omega)];simp [Nat.shiftLeft_eq];omega
 have hac:a&&& c<256:=Nat.lt_of_le_of_lt Nat.and_le_left ha
 rw [h a x ha,h c m hc,h (a&&& c) (x&&& m) hac]
 apply Nat.eq_of_testBit_eq
 intro i
 simp only [Nat.testBit_and,Nat.testBit_or,Nat.testBit_shiftLeft]
 by_cases hi:8<=i
 . have e1:a.testBit i=false:=Nat.testBit_lt_two_pow (Nat.lt_of_lt_of_le ha (by simpa using Nat.pow_le_pow_right (n:=2) (by omega) hi))
   have e2:c.testBit i=false:=Nat.testBit_lt_two_pow (Nat.lt_of_lt_of_le hc (by simpa using Nat.pow_le_pow_right (n:=2) (by omega) hi))
   simp [hi,e1,e2]
 . simp [hi]
def rep (c:Nat):Nat->Nat
 |0=>0
 |n+1=>c+256*rep c n
theorem rep_succ (c n:Nat):rep c (n+1)=c+256*rep c n:=rfl
def s1 (n x:Nat):Nat:=(x / 2&&& rep 85 n)+(x&&& rep 85 n)
def s2 (n x:Nat):Nat:=(x / 4&&& rep 51 n)+(x&&& rep 51 n)
def s3 (n x:Nat):Nat:=(x / 16+x)&&& rep 15 n
def q1 (b:Nat):Nat:=(b / 2&&& 85)+(b&&& 85)
def q2 (b:Nat):Nat:=(b / 4&&& 51)+(b&&& 51)
theorem half_mask:∀b,b<256->∀t,t<2->(b / 2+128*t)&&& 85=b / 2&&& 85:=by decide+kernel
theorem quart_mask:∀b,b<256->∀t,t<4->(b / 4+64*t)&&& 51=b / 4&&& 51:=by decide+kernel
theorem q1_lt:∀b,b<256->q1 b<256:=by decide+kernel
theorem q2_le:∀b,b<256->q2 (q1 b)<=68/\q2 (q1 b) % 16<=4:=by decide+kernel
theorem q_pop:∀b,b<256->q2 (q1 b) / 16+q2 (q1 b) % 16=pc b.testBit 8:=by decide+kernel
theorem s1_step (n b h:Nat) (hb:b<256):s1 (n+1) (b+256*h)=q1 b+256*s1 n h:=by
 unfold s1 q1
 rw [rep_succ]
 have e:(b+256*h) / 2=(b / 2+128*(h % 2))+256*(h / 2):=by omega
 rw [e,and_bytes _ 85 _ _ (by omega) (by omega),and_bytes b 85 _ _ hb (by omega),half_mask b hb _ (by omega)];omega
theorem s2_step (n b h:Nat) (hb:b<256):s2 (n+1) (b+256*h)=q2 b+256*s2 n h:=by
 unfold s2 q2
 rw [rep_succ]
 have e:(b+256*h) / 4=(b / 4+64*(h % 4))+256*(h / 4):=by omega
 rw [e,and_bytes _ 51 _ _ (by omega) (by omega),and_bytes b 51 _ _ hb (by omega),quart_mask b hb _ (by omega)];omega
def s21 (n x:Nat):Nat:=s2 n (s1 n x)
theorem s21_step (n b h:Nat) (hb:b<256):s21 (n+1) (b+256*h)=q2 (q1 b)+256*s21 n h:=by
 unfold s21
 rw [s1_step n b h hb,s2_step n (q1 b) _ (q1_lt b hb)]
theorem s21_low:∀(n x:Nat),s21 n x % 16<=4
 |0,x=>by simp [s21,s2,rep]
 |n+1,x=>by
  have e:x=x % 256+256*(x / 256):=by omega
  have:=q2_le (x % 256) (by omega)
  rw [e,s21_step n _ _ (by omega)];omega
def sb:Nat->Nat->Nat
 |0,_=>0
 |n+1,x=>pc (x % 256).testBit 8+256*sb n (x / 256)
theorem s3_s21:∀(n x:Nat),s3 n (s21 n x)=sb n x
 |0,x=>by simp [s3,rep,sb]
 |n+1,x=>by
  have ih:=s3_s21 n (x / 256)
  have hl:=s21_low n (x / 256)
  have hq:=q2_le (x % 256) (by omega)
  have hp:=q_pop (x % 256) (by omega)
  have e:x=x % 256+256*(x / 256):=by omega
  unfold sb
  rw [<-ih,<-hp]
  have e2:s21 (n+1) x=q2 (q1 (x % 256))+256*s21 n (x / 256):=by
   have:=s21_step n (x % 256) (x / 256) (by omega)
   rwa [<-e] at this
  rw [e2]
  generalize s21 n (x / 256)=k at*
  generalize q2 (q1 (x % 256))=c at*
  unfold s3
  rw [rep_succ]
  have e3:(c+256*k) / 16+(c+256*k)=(c / 16+c+16*(k % 16))+256*(k / 16+k):=by omega
  rw [e3,and_bytes _ 15 _ _ (by omega) (by omega),show (15:Nat)=2 ^ 4-1 from rfl,Nat.and_two_pow_sub_one_eq_mod]
  have e4:(c / 16+c+16*(k % 16)) % 2 ^ 4=c / 16+c % 16:=by omega
  rw [e4]
theorem pc_byte (x k:Nat):pc x.testBit (8+k)=pc (x % 256).testBit 8+pc (x / 256).testBit k:=by
 rw [pc_add]
 congr 1
 . refine pc_congr fun i hi=>?_
   rw [show 256=2 ^ 8 from rfl,Nat.testBit_mod_two_pow];simp [hi]
 . refine pc_congr fun i _=>?_
   show x.testBit (8+i)=_
   rw [show 256=2 ^ 8 from rfl,Nat.testBit_div_two_pow];congr 1;omega
def ones (x:Nat):Nat:=pc x.testBit 64
theorem ones_le (x:Nat):ones x<=64:=pc_le _ _
theorem byte_le {p y B:Nat} (h:p<=8) (k:y<=B):p+256*y<=8+256*B:=by omega
theorem ones_sum (x v t u:Nat) (hv:v=sb 8 x) (ht:t=v+v / 256) (hu:u=t+t / 65536):v<=578721382704613384/\(u+u / 4294967296) % 128=ones x:=by
 have h:∀y,pc (Nat.testBit (y % 256)) 8<=8:=fun y=>pc_le _ _
 have e:ones x=pc (x % 256).testBit 8+(pc (x / 256 % 256).testBit 8+(pc (x / 256 / 256 % 256).testBit 8+(pc (x / 256 / 256 / 256 % 256).testBit 8+(pc (x / 256 / 256 / 256 / 256 % 256).testBit 8
  +(pc (x / 256 / 256 / 256 / 256 / 256 % 256).testBit 8+(pc (x / 256 / 256 / 256 / 256 / 256 / 256 % 256).testBit 8+pc (x / 256 / 256 / 256 / 256 / 256 / 256 / 256 % 256).testBit 8)))))):=by
  unfold ones
  rw [pc_byte x 56,pc_byte _ 48,pc_byte _ 40,pc_byte _ 32,pc_byte _ 24,pc_byte _ 16,pc_byte _ 8]
  have:∀y,pc (Nat.testBit y) 8=pc (Nat.testBit (y % 256)) 8:=fun y=>pc_congr fun i hi=>by
   rw [show 256=2 ^ 8 from rfl,Nat.testBit_mod_two_pow];simp [hi]
  rw [this (x / 256 / 256 / 256 / 256 / 256 / 256 / 256)]
 have h0:=h x
 have h1:=h (x / 256)
 have h2:=h (x / 256 / 256)
 have h3:=h (x / 256 / 256 / 256)
 have h4:=h (x / 256 / 256 / 256 / 256)
 have h5:=h (x / 256 / 256 / 256 / 256 / 256)
 have h6:=h (x / 256 / 256 / 256 / 256 / 256 / 256)
 have h7:=h (x / 256 / 256 / 256 / 256 / 256 / 256 / 256)
 rw [e]
 simp only [sb] at hv
 generalize pc (Nat.testBit (x % 256)) 8=p0 at*
 generalize pc (Nat.testBit (x / 256 % 256)) 8=p1 at*
 generalize pc (Nat.testBit (x / 256 / 256 % 256)) 8=p2 at*
 generalize pc (Nat.testBit (x / 256 / 256 / 256 % 256)) 8=p3 at*
 generalize pc (Nat.testBit (x / 256 / 256 / 256 / 256 % 256)) 8=p4 at*
 generalize pc (Nat.testBit (x / 256 / 256 / 256 / 256 / 256 % 256)) 8=p5 at*
 generalize pc (Nat.testBit (x / 256 / 256 / 256 / 256 / 256 / 256 % 256)) 8=p6 at*
 generalize pc (Nat.testBit (x / 256 / 256 / 256 / 256 / 256 / 256 / 256 % 256)) 8=p7 at*
 clear h e
 have d1:∀y z,y<256->(y+256*z) / 256=z:=fun y z _=>by omega
 have d2:∀y z,y<65536->(y+65536*z) / 65536=z:=fun y z _=>by omega
 have d3:∀y z,y<4294967296->(y+4294967296*z) / 4294967296=z:=fun y z _=>by omega
 have d4:∀y z,y<128->(y+256*z) % 128=y:=fun y z _=>by omega
 have hle:v<=578721382704613384:=by
  subst hv
  exact byte_le h0 (byte_le h1 (byte_le h2 (byte_le h3 (byte_le h4 (byte_le h5 (byte_le h6 (byte_le h7 (Nat.le_refl 0))))))))
 refine ⟨hle,?_⟩
 clear hle
 have a:p0+p1+p2+p3<=32:=by clear ht hu hv d1 d2 d3 d4;omega
 have b:p1+p2+p3+p4<=32:=by clear ht hu hv d1 d2 d3 d4;omega
 have c:p2+p3+p4+p5<=32:=by clear ht hu hv d1 d2 d3 d4;omega
 have d:p3+p4+p5+p6<=32:=by clear ht hu hv d1 d2 d3 d4;omega
 have s:p0+p1+p2+p3+p4+p5+p6+p7<128:=by clear ht hu hv d1 d2 d3 d4 a b c d;omega
 have l0:p0<256:=by clear ht hu hv d1 d2 d3 d4 a b c d s;omega
 have l1:p0+p1+256*(p1+p2)<65536:=by clear ht hu hv d1 d2 d3 d4 a b c d s;omega
 have l2:p0+p1+p2+p3+256*(p1+p2+p3+p4)+65536*(p2+p3+p4+p5+256*(p3+p4+p5+p6))<4294967296:=by
  clear ht hu hv d1 d2 d3 d4 s l0 l1
  generalize p0+p1+p2+p3=A at*
  generalize p1+p2+p3+p4=B at*
  generalize p2+p3+p4+p5=C at*
  generalize p3+p4+p5+p6=D at*
  clear h0 h1 h2 h3 h4 h5 h6 h7
  omega
 have t1:t=(p0+p1+256*(p1+p2))+65536*((p2+p3+256*(p3+p4))+65536*((p4+p5+256*(p5+p6))+65536*(p6+p7+256*p7))):=by
  rw [ht,hv,d1 p0 _ l0];simp+arith
 have t2:u=(p0+p1+p2+p3+256*(p1+p2+p3+p4)+65536*(p2+p3+p4+p5+256*(p3+p4+p5+p6)))+4294967296*((p4+p5+p6+p7+256*(p5+p6+p7))+65536*(p6+p7+256*p7)):=by
  rw [hu,t1,d2 _ _ l1];simp+arith
 have t3:u+u / 4294967296=(p0+p1+p2+p3+p4+p5+p6+p7)+256*((p1+p2+p3+p4+p5+p6+p7)+256*(p2+p3+p4+p5+256*(p3+p4+p5+p6))+16777216*((p4+p5+p6+p7+256*(p5+p6+p7))+65536*(p6+p7+256*p7))+256*(p6+p7+256*p7)):=by
  rw [t2,d3 _ _ l2];simp+arith
 rw [t3,d4 _ _ s];simp+arith
def bt (ws:List Nat) (i:Nat):Bool:=(ws.getD (i / 64) 0).testBit (i % 64)
structure Rep (ws:List Nat) (tb:List Bool):Prop where
 len:ws.length=(tb.length+63) / 64
 lt:∀x∈ws,x<18446744073709551616
 bit:∀i,bt ws i=tb.getD i false
theorem Rep.get_lt {ws:List Nat} {tb:List Bool} (h:Rep ws tb) {j:Nat} (hj:j<ws.length):ws[j]<18446744073709551616:=h.lt _ (List.getElem_mem hj)
theorem Rep.word {ws:List Nat} {tb:List Bool} (h:Rep ws tb) {i:Nat} (hi:i<tb.length):i / 64<ws.length:=by rw [h.len];omega
theorem bt_at {ws:List Nat} {j:Nat} (hj:j<ws.length) (k:Nat) (hk:k<64):bt ws (64*j+k)=ws[j].testBit k:=by
 unfold bt
 rw [show (64*j+k) / 64=j by omega,show (64*j+k) % 64=k by omega]
 simp [List.getD,hj]
theorem bt_get {ws:List Nat} {i:Nat} (hi:i / 64<ws.length):bt ws i=ws[i / 64].testBit (i % 64):=by
 have:=bt_at hi (i % 64) (by omega)
 rwa [show 64*(i / 64)+i % 64=i by omega] at this
theorem pc_word {ws:List Nat} {j:Nat} (hj:j<ws.length):pc (bt ws) (64*(j+1))=pc (bt ws) (64*j)+ones ws[j]:=by
 rw [show 64*(j+1)=64*j+64 by omega,pc_add]
 congr 1
 exact pc_congr fun k hk=>bt_at hj k hk
def cnt (tb:List Bool):Nat:=pc (fun i=>tb.getD i false) tb.length
theorem Rep.cnt {ws:List Nat} {tb:List Bool} (h:Rep ws tb):pc (bt ws) (64*ws.length)=cnt tb:=by
 unfold Bt.cnt
 rw [pc_congr fun i _=>h.bit i]
 refine pc_beyond (fun i hi=>?_) (by rw [h.len];omega)
 simp [List.getD,hi]
theorem rep_free (n:Nat):Rep (List.replicate ((n+63) / 64) 0) (List.replicate n false):=by
 refine ⟨by simp,fun x hx=>by rw [List.eq_of_mem_replicate hx];omega,fun i=>?_⟩
 have e1:(List.replicate ((n+63) / 64) 0).getD (i / 64) 0=0:=by
  simp only [List.getD,List.getElem?_replicate];split<;>rfl
 have e2:(List.replicate n false).getD i false=false:=by
  simp only [List.getD,List.getElem?_replicate];split<;>rfl
 unfold bt
 rw [e1,e2];simp
theorem getD_set {α:Type} (l:List α) (i j:Nat) (x d:α) (hi:i<l.length):(l.set i x).getD j d=if j=i then x else l.getD j d:=by
 simp only [List.getD,List.getElem?_set]
 by_cases h:j=i
 . subst h;simp [hi]
 . rw [if_neg (by omega),if_neg h]
theorem Rep.set {ws:List Nat} {tb:List Bool} (h:Rep ws tb) {i:Nat} (hi:i<tb.length):
 Rep (ws.set (i / 64) (ws.getD (i / 64) 0 |||2 ^ (i % 64))) (tb.set i true):=by
 have hj:=h.word hi
 have hw:ws.getD (i / 64) 0<18446744073709551616:=by simp [List.getD,hj];exact h.get_lt hj
 refine ⟨by simpa using h.len,fun x hx=>?_,fun k=>?_⟩
 . rcases List.mem_or_eq_of_mem_set hx with hx|rfl
   . exact h.lt x hx
   . exact Nat.or_lt_two_pow (n:=64) hw (Nat.pow_lt_pow_right (by omega) (by omega))
 . rw [getD_set _ _ _ _ _ hi]
   unfold bt
   rw [getD_set _ _ _ _ _ hj]
   by_cases hk:k / 64=i / 64
   . rw [if_pos hk,Nat.testBit_or,Nat.testBit_two_pow,<-hk]
     by_cases he:k=i
     . subst he;simp
     . rw [if_neg he,<-h.bit k];unfold bt
       have:¬i % 64=k % 64:=by omega
       simp [this]
   . rw [if_neg hk,if_neg (fun e=>hk (by rw [e])),<-h.bit k];rfl
theorem Rep.clear {ws:List Nat} {tb:List Bool} (h:Rep ws tb) {i:Nat} (hi:i<tb.length):
 Rep (ws.set (i / 64) (ws.getD (i / 64) 0&&& (18446744073709551615-2 ^ (i % 64)))) (tb.set i false):=by
 have hj:=h.word hi
 have hp:2 ^ (i % 64)<2 ^ 64:=Nat.pow_lt_pow_right (by omega) (by omega)
 refine ⟨by simpa using h.len,fun x hx=>?_,fun k=>?_⟩
 . rcases List.mem_or_eq_of_mem_set hx with hx|rfl
   . exact h.lt x hx
   . exact Nat.lt_of_le_of_lt Nat.and_le_right (Nat.lt_of_le_of_lt (Nat.sub_le _ _) (by decide))
 . rw [getD_set _ _ _ _ _ hi]
   unfold bt
   rw [getD_set _ _ _ _ _ hj]
   by_cases hk:k / 64=i / 64
   . rw [if_pos hk,Nat.testBit_and,show 18446744073709551615-2 ^ (i % 64)=2 ^ 64-(2 ^ (i % 64)+1) by omega,Nat.testBit_two_pow_sub_succ hp,Nat.testBit_two_pow,<-hk]
     by_cases he:k=i
     . subst he;simp
     . rw [if_neg he,<-h.bit k];unfold bt
       have:¬i % 64=k % 64:=by omega
       simp [this];omega
   . rw [if_neg hk,if_neg (fun e=>hk (by rw [e])),<-h.bit k];rfl
theorem and_pow_zero (x s:Nat):((x&&& 2 ^ s) != 0)=x.testBit s:=by
 rw [Bool.eq_iff_iff]
 simp only [bne_iff_ne,ne_eq]
 constructor
 . intro h
   cases hb:x.testBit s with
   |true=>rfl
   |false=>
    exfalso;apply h
    apply Nat.eq_of_testBit_eq
    intro i
    rw [Nat.testBit_and,Nat.testBit_two_pow]
    by_cases hi:s=i
    . subst hi;simp [hb]
    . simp [hi]
 . intro h h0
   have:(x&&& 2 ^ s).testBit s=true:=by rw [Nat.testBit_and,h];simp
   rw [h0] at this;simp at this
def fs (f:Nat->Bool):Nat->Nat->Option Nat
 |0,_=>none
 |m+1,k=>if f k then some k else fs f m (k+1)
theorem fs_none {f:Nat->Bool}:∀{m k:Nat},fs f m k=none->∀i,k<=i->i<k+m->f i=false
 |0,k,_,i,h1,h2=>by omega
 |m+1,k,h,i,h1,h2=>by
  unfold fs at h
  split at h
  . cases h
  . rename_i hf
    by_cases he:i=k
    . subst he;simpa using hf
    . exact fs_none h i (by omega) (by omega)
theorem fs_some {f:Nat->Bool}:∀{m k r:Nat},fs f m k=some r->k<=r/\r<k+m/\f r=true/\∀i,k<=i->i<r->f i=false
 |0,k,r,h=>by cases h
 |m+1,k,r,h=>by
  unfold fs at h
  split at h
  . rename_i hf
    cases h
    exact ⟨Nat.le_refl _,by omega,hf,fun i h1 h2=>by omega⟩
  . rename_i hf
    obtain ⟨h1,h2,h3,h4⟩:=fs_some h
    exact ⟨by omega,by omega,h3,fun i h5 h6=>by
     by_cases he:i=k
     . subst he;simpa using hf
     . exact h4 i (by omega) h6⟩
def firstO (tb:List Bool) (from_:Int) (b:Bool):Option Nat:=fs (fun i=>tb.getD i false==b) (tb.length-from_.toNat) from_.toNat
def foI (o:Option Nat):Int:=(o.getD 0:Nat)
def foB (o:Option Nat):Bool:=o.isSome
theorem firstO_none {tb:List Bool} {f:Int} {b:Bool} (h:firstO tb f b=none) (i:Nat) (h1:f<=i) (h2:i<tb.length):tb.getD i false≠b:=by
 have:=fs_none h i (by omega) (by omega)
 simpa using this
theorem firstO_some {tb:List Bool} {f:Int} {b:Bool} {r:Nat} (h:firstO tb f b=some r):f<=r/\r<tb.length/\tb.getD r false=b/\∀i:Nat,f<=i->i<r->tb.getD i false≠b:=by
 obtain ⟨h1,h2,h3,h4⟩:=fs_some h
 exact ⟨by omega,by omega,by simpa using h3,fun i h5 h6=>by simpa using h4 i (by omega) h6⟩
def inB (tb:List Bool) (i:Int):Bool:=decide (0<=i/\i<tb.length)
def hasB (tb:List Bool) (i:Int):Bool:=decide (0<=i)&&tb.getD i.toNat false
def setE (tb:List Bool) (i:Int):Int:=if inB tb i then if hasB tb i then 10 else 0 else 4
def setT (tb:List Bool) (i:Int):List Bool:=if inB tb i then tb.set i.toNat true else tb
def clrE (tb:List Bool) (i:Int):Int:=if inB tb i then if hasB tb i then 0 else 9 else 4
def clrT (tb:List Bool) (i:Int):List Bool:=if inB tb i then tb.set i.toNat false else tb
theorem set_same {tb:List Bool} {i:Nat} {v:Bool} (hi:i<tb.length) (h:tb.getD i false=v):tb.set i v=tb:=by
 subst h
 simp only [List.getD,List.getElem?_eq_getElem hi,Option.getD_some]
 exact List.set_getElem_self hi
theorem in_nat {tb:List Bool} {i:Int} (h:inB tb i=true):∃k:Nat,i=k/\k<tb.length:=by
 unfold inB at h
 have:=of_decide_eq_true h
 exact ⟨i.toNat,by omega,by omega⟩
theorem in_not {tb:List Bool} {i:Int} (h:inB tb i=false):¬(0<=i/\i<tb.length):=of_decide_eq_false h
theorem has_nat (tb:List Bool) (k:Nat):hasB tb k=tb.getD k false:=by simp [hasB]
theorem has_out {tb:List Bool} {i:Int} (h:inB tb i=false):hasB tb i=false:=by
 have:=in_not h
 unfold hasB
 by_cases h0:0<=i
 . have h1:tb[i.toNat]? =none:=List.getElem?_eq_none (by omega)
   simp [List.getD,h1]
 . simp [h0]
theorem clrT_len (tb:List Bool) (i:Int):(clrT tb i).length=tb.length:=by unfold clrT;split<;>simp
def wt (turn:Bool):Nat:=if turn then 18446744073709551615 else 0
def wd (ws:List Nat) (turn:Bool) (i:Nat):Nat:=(ws.getD (i / 64) 0 ^^^ wt turn) / 2 ^ (i % 64)
theorem wt_bit (turn:Bool) {k:Nat} (hk:k<64):(wt turn).testBit k=turn:=by
 cases turn
 . simp [wt]
 . show (2 ^ 64-1).testBit k=true
   rw [Nat.testBit_two_pow_sub_one];simpa using hk
theorem wd_bit (ws:List Nat) (turn:Bool) (i k:Nat) (hk:i % 64+k<64):(wd ws turn i).testBit k=(bt ws (i+k) ^^ turn):=by
 unfold wd bt
 rw [Nat.testBit_div_two_pow,Nat.testBit_xor,show (i+k) / 64=i / 64 by omega,show (i+k) % 64=k+i % 64 by omega,wt_bit turn (by omega)]
theorem wd_lt {ws:List Nat} {tb:List Bool} (h:Rep ws tb) (turn:Bool) {i:Nat} (hi:i<tb.length):wd ws turn i<2 ^ (64-i % 64):=by
 have hj:=h.word hi
 have hw:ws.getD (i / 64) 0<2 ^ 64:=by simp [List.getD,hj];exact h.get_lt hj
 have hx:ws.getD (i / 64) 0 ^^^ wt turn<2 ^ 64:=Nat.xor_lt_two_pow hw (by cases turn<;>simp [wt])
 unfold wd
 rw [Nat.div_lt_iff_lt_mul (Nat.two_pow_pos _),<-Nat.pow_add]
 rwa [show 64-i % 64+i % 64=64 by omega]
theorem wd_lt64 {ws:List Nat} {tb:List Bool} (h:Rep ws tb) (turn:Bool) {i:Nat} (hi:i<tb.length):wd ws turn i<18446744073709551616:=
 by
 have:2 ^ (64-i % 64)<=2 ^ 64:=Nat.pow_le_pow_right (by omega) (by omega)
 exact Nat.lt_of_lt_of_le (wd_lt h turn hi) this
theorem bt_xor {ws:List Nat} {tb:List Bool} (h:Rep ws tb) (turn:Bool) (i:Nat):((bt ws i ^^ turn)=true)=(tb.getD i false= !turn):=by
 rw [h.bit];cases tb.getD i false<;>cases turn<;>simp
theorem wd_zero {ws:List Nat} {tb:List Bool} (h:Rep ws tb) (turn:Bool) {i:Nat} (h0:wd ws turn i=0) (k:Nat) (h1:i<=k) (h2:k<i+(64-i % 64)):tb.getD k false≠ !turn:=by
 have hb:=wd_bit ws turn i (k-i) (by omega)
 rw [h0,show i+(k-i)=k by omega,Nat.zero_testBit] at hb
 rw [ne_eq,<-bt_xor h turn k,<-hb];simp
theorem ctz_bits {x:Nat} (h0:x≠0) (h:x<2 ^ 64):x.testBit (Lib.ctz 64 x)=true/\∀k,k<Lib.ctz 64 x->x.testBit k=false:=by
 obtain ⟨m,hm,_⟩:=Lib.ctzFrom_spec 64 x (by omega) h
 have e:Lib.ctz 64 x=Lib.ctzFrom 64 x:=by simp [Lib.ctz,h0]
 rw [e]
 generalize Lib.ctzFrom 64 x=c at*
 subst hm
 refine ⟨?_,fun k hk=>?_⟩
 . rw [Nat.mul_comm,Nat.testBit_mul_two_pow];simp [Nat.testBit_zero]
 . rw [Nat.mul_comm,Nat.testBit_mul_two_pow];simp;omega
theorem ctz_lt {x k:Nat} (h0:x≠0) (h:x<2 ^ k) (hk:k<=64):Lib.ctz 64 x<k:=by
 obtain ⟨h1,_⟩:=ctz_bits h0 (Nat.lt_of_lt_of_le h (Nat.pow_le_pow_right (by omega) hk))
 apply Nat.lt_of_not_le
 intro hle
 rw [Nat.testBit_lt_two_pow (Nat.lt_of_lt_of_le h (Nat.pow_le_pow_right (by omega) hle))] at h1
 cases h1
theorem wd_some {ws:List Nat} {tb:List Bool} (h:Rep ws tb) (turn:Bool) {i:Nat} (hi:i<tb.length) (h0:wd ws turn i≠0):
 Lib.ctz 64 (wd ws turn i)<64-i % 64/\(tb.getD (i+Lib.ctz 64 (wd ws turn i)) false= !turn)/\∀k,i<=k->k<i+Lib.ctz 64 (wd ws turn i)->tb.getD k false≠ !turn:=by
 have hl:=wd_lt h turn hi
 have hc:=ctz_lt h0 hl (by omega)
 obtain ⟨h1,h2⟩:=ctz_bits h0 (Nat.lt_of_lt_of_le hl (Nat.pow_le_pow_right (by omega) (by omega)))
 refine ⟨hc,?_,fun k hk1 hk2=>?_⟩
 . rw [<-bt_xor h turn,<-wd_bit ws turn i _ (by omega),h1]
 . have:=h2 (k-i) (by omega)
   rw [wd_bit ws turn i _ (by omega),show i+(k-i)=k by omega] at this
   rw [ne_eq,<-bt_xor h turn k,this];simp
end Go.Proofs.YtjpjjnalpdpljaaGreatDoor.Bt
