import Derived.Test.YtjpjjnalpdpljaaGreatDoorPkBO
import Derived.Test.YtjpjjnalpdpljaaGreatDoorPkBP
import Derived.Test.YtjpjjnalpdpljaaGreatDoorPkBF
import Derived.Test.YtjpjjnalpdpljaaGreatDoorPkAH
import Derived.Test.YtjpjjnalpdpljaaGreatDoorPkAE
import Derived.Test.YtjpjjnalpdpljaaGreatDoorRows
import Derived.Test.YtjpjjnalpdpljaaGreatDoorPkAW
import Derived.Test.YtjpjjnalpdpljaaGreatDoorPkAD
import Derived.SizedLaws
import Derived.LaidMore
import Derived.Stop.Joined
import Derived.Lib.SmallJoins
import Derived.Test.YtjpjjnalpdpljaaGreatDoorCards
import Derived.Test.YtjpjjnalpdpljaaGreatDoorTie
import Derived.SevenTiedAt
set_option maxHeartbeats 4000000
set_option maxRecDepth 100000
namespace Go.Proofs.YtjpjjnalpdpljaaGreatDoor
open Go.RowKit
namespace Sh
open Mem No Bt Po
open Ca (upF Few)
theorem actU:Tryz.prog.underlying 45=some (.struct (Tryz.prog.fieldsOf 45)):=by kernel_rfl
theorem actS {C:Array Value} (h:C.size=7):(Tryz.prog.info? 45).map (·.size)=some C.size:=by
 rw [h]
 kernel_rfl
theorem act_one (x:Ac):∀v∈(acCs x).toArray.toList,v.oneCell'=true:=by simp [acCs,ndCs,Value.oneCell']
theorem Both.kept {s:Ds} {x:Ac} {t:Bool} {f f':Nat->List UInt8} {k:Nat} {E:Int} {tb':List Bool} {kp':Nat} (h:Both s x t f k E tb' kp' f'):(x.kd=5/\((E=0/\kp'=x.i)\/(E=4/\kp'=s.kept)))\/(x.kd≠5/\kp'=s.kept):=by
 obtain ⟨s',hw,-,-,rfl⟩:=h
 rcases hw with ⟨hk,rfl,-⟩|⟨hk,-,rfl,-⟩|⟨hk,-,-,rfl,-⟩|⟨hk,-,⟨t,-,rfl⟩,-⟩|⟨hk,rfl,-⟩|⟨hk,rfl,-⟩|⟨hk,rfl,-,rfl⟩|⟨hk,rfl,-⟩
 . exact .inr ⟨by omega,like_sv.2.2⟩
 . exact .inr ⟨by omega,rfl⟩
 . exact .inr ⟨by omega,rfl⟩
 . exact .inr ⟨by omega,rfl⟩
 . exact .inr ⟨by omega,like_fr.2⟩
 . exact .inr ⟨by omega,like_mr.2.2⟩
 . refine .inl ⟨hk,?_⟩
   unfold kpE kpS
   split
   . exact .inr ⟨rfl,rfl⟩
   . exact .inl ⟨rfl,rfl⟩
 . exact .inr ⟨by omega,rfl⟩
def CR (x:Ac) (kp:Nat):Nat:=if x.kd=5\/x.kd=7 then (if x.i=kp then 0 else 1) else 0
def CW (c:Cfg) (x:Ac) (kp:Nat):Nat:=if x.kd=0\/x.kd=1\/x.kd=2 then 1 else if x.kd=5\/x.kd=7 then (if x.i=kp then 0 else 1) else if x.kd=6 then c.frames.toNat else 0
theorem Sv.small {W w:World} {F:List Nat} {z:Ad} {c:Cfg} {tb:List Bool} {kp:Nat} {P:Nat->Nat} {f:Nat->List UInt8} {K r s:Nat} (h:Sv W w F z c tb kp P f K r s):r<=K/\s<=K:=by
 obtain ⟨⟨st,-,h2,rfl,rfl⟩,-⟩:=h
 exact ⟨h2.sm.r,h2.sm.s⟩
theorem cost_other {c:Cfg} {tb:List Bool} {l:List Sl} {kd:Int} {i kp r r8 s s8:Nat} {n:Nd} {a:At} (k7:¬kd=7) (h:(r<=r8/\r8<=r+costR ⟨kd,i,n,a⟩ (Ds.mk c l tb kp).kept)/\s<=s8/\s8<=s+costW (Ds.mk c l tb kp).c ⟨kd,i,n,a⟩ (Ds.mk c l tb kp).kept):(r<=r8/\r8<=r+CR ⟨kd,i,n,a⟩ kp)/\s<=s8/\s8<=s+CW c ⟨kd,i,n,a⟩ kp:=by
 simpa [costR,costW,CR,CW,k7] using h
theorem cost_seven {c:Cfg} {tb:List Bool} {l:List Sl} {kd E:Int} {i kp kp' r r8 r9 s s8 s9:Nat} {n:Nd} {a:At} (k7:kd=7) (hk:((Ac.mk kd i n a).kd=5/\((E=0/\kp'=(Ac.mk kd i n a).i)\/(E=4/\kp'=(Ds.mk c l tb kp).kept)))\/((Ac.mk kd i n a).kd≠5/\kp'=(Ds.mk c l tb kp).kept)) (h:(r<=r8/\r8<=r+costR ⟨kd,i,n,a⟩ (Ds.mk c l tb kp).kept)/\s<=s8/\s8<=s+costW (Ds.mk c l tb kp).c ⟨kd,i,n,a⟩ (Ds.mk c l tb kp).kept) (h2:(r8<=r9/\r9<=r8+(if i=kp' then 0 else 1))/\s8<=s9/\s9<=s8+(if i=kp' then 0 else 1)):(r<=r9/\r9<=r+CR ⟨kd,i,n,a⟩ kp)/\s<=s9/\s9<=s+CW c ⟨kd,i,n,a⟩ kp:=by
 subst k7
 obtain rfl:kp'=kp:=by
  rcases hk with ⟨h3,-⟩|⟨-,h3⟩
  . exact absurd h3 (by show ¬((7:Int)=5);decide)
  . exact h3
 simp [costR,costW] at h
 simp [CR,CW]
 omega
theorem cost_kinds {c:Cfg} {kd:Int} {i kp rd sd:Nat} {n:Nd} {a:At} (hf:(c.frames.toNat:Int)=c.frames) (hr:rd<=CR ⟨kd,i,n,a⟩ kp) (hs:sd<=CW c ⟨kd,i,n,a⟩ kp):((kd=0\/kd=1\/kd=2)/\rd=0/\(sd:Int)<=1)\/((kd=5\/kd=7)/\(rd:Int)<=1/\(sd:Int)<=1/\(i=kp->rd=0/\sd=0))\/(kd=6/\rd=0/\(sd:Int)<=c.frames)\/(¬(kd=0\/kd=1\/kd=2\/kd=5\/kd=7\/kd=6)/\rd=0/\sd=0):=by
 unfold CR at hr
 unfold CW at hs
 simp only at hr hs
 by_cases h1:kd=0\/kd=1\/kd=2
 . rw [if_neg (by omega)] at hr
   rw [if_pos h1] at hs
   exact .inl ⟨h1,by omega,by omega⟩
 rw [if_neg h1] at hs
 by_cases h2:kd=5\/kd=7
 . rw [if_pos h2] at hr hs
   refine .inr (.inl ⟨h2,?_,?_,fun e=>?_⟩)
   . split at hr<;>omega
   . split at hs<;>omega
   . rw [if_pos e] at hr hs
     omega
 rw [if_neg h2] at hr hs
 by_cases h3:kd=6
 . rw [if_pos h3] at hs
   exact .inr (.inr (.inl ⟨h3,by omega,by omega⟩))
 . rw [if_neg h3] at hs
   exact .inr (.inr (.inr ⟨by omega,by omega,by omega⟩))
theorem act_at {W:World} {A:Option Addr} {l:List Ac} (h:AcL W A l) {k:Nat} (hk:k<l.length):∃b o x,A=some ⟨b,o,none⟩/\l[k]? =some x/\x∈l/\∀{w},Below W.heap.size W w->w.cell? ⟨b,o+k*7,none⟩=some (.int .i64 x.kd)/\w.cell? ⟨b,o+k*7+1,none⟩=some (.int .u32 (x.i:Int))/\w.cell? ⟨b,o+k*7+2,none⟩=some (.int .i64 x.n.lv)/\w.cell? ⟨b,o+k*7+3,none⟩=some (.slice x.a.kA x.n.kids.length x.a.kc)/\w.cell? ⟨b,o+k*7+4,none⟩=some (.slice x.a.pA x.n.piv.length x.a.pc)/\w.cell? ⟨b,o+k*7+5,none⟩=some (.slice x.a.bA x.n.buf.length x.a.bc)/\w.cell? ⟨b,o+k*7+6,none⟩=some (.slice x.a.qA x.n.prs.length x.a.qc):=by
 obtain ⟨b,o,rfl,hb,hc⟩:=h.rd (by omega)
 have hx:l[k]? =some l[k]:=List.getElem?_eq_getElem hk
 refine ⟨b,o,l[k],rfl,hx,List.getElem_mem hk,fun {w} hB=>?_⟩
 have hh:∀j,w.cell? ⟨b,j,none⟩=W.cell? ⟨b,j,none⟩:=fun j=>by simp [World.cell?,hB.block b hb]
 simp only [hh]
 exact ⟨hc k _ hx 0 _ rfl,hc k _ hx 1 _ rfl,hc k _ hx 2 _ rfl,hc k _ hx 3 _ rfl,hc k _ hx 4 _ rfl,hc k _ hx 5 _ rfl,hc k _ hx 6 _ rfl⟩
theorem ShelfCosts_walk (cB cY cF cN cU cL cKy cV:Int) (A:Option Addr) (cap:Nat) (l:List Ac) (W:World) (hA:AcL W A l) (hl:l.length<=maxLen) (hT:Tab W):Calls Tryz.prog 4 #[.agg #[.int .i64 cB, .int .i64 cY, .int .i64 cF, .int .i64 cN, .int .i64 cU, .int .i64 cL, .int .i64 cKy, .int .i64 cV], .slice A l.length cap] W fun e w'=>e= .returned (.bool true)/\Below W.heap.size W w':=by
 obtain ⟨c,hcf⟩:∃c,#[.int .i64 cB, .int .i64 cY, .int .i64 cF, .int .i64 cN, .int .i64 cU, .int .i64 cL, .int .i64 cKy, .int .i64 cV]=cfCs c:=⟨⟨cB,cY,cF,cN,cU,cL,cKy,cV⟩,rfl⟩
 rw [hcf]
 clear hcf
 have hb1:Below W.heap.size W (W.alloc (.cells (cfCs c) 23)):=(Below.refl _ _).alloc (Nat.le_refl _) _
 have hx:=BoxAt.new 23 W (cfCs c)
 have hT1:=hT.below hb1
 have cA:∀{w},Below W.heap.size W w->Hid (Calls Tryz.prog 8 #[] w fun e w'=>e= .returned (.bool true)/\Below w.heap.size w w'):=fun hb=>Awake_any _ (hT.below hb)
 by_cases hL:Lt c
 case neg=>
  have cLi:∀w,Hid (Calls Tryz.prog 7 #[.agg (cfCs c)] w fun e w'=>e= .returned (.bool false)/\Below w.heap.size w w'):=fun w=>Light_any c w false ⟨fun h=>(by cases h),fun h=>absurd h hL⟩
  clear hL
  go_enter Tryz.func4,Tryz.ntmps4
  go_upto_region 1 with fail
  generalize W.alloc (.cells (cfCs c) 23)=w1 at*
  have HX:=Lib.hid hx
  have HB:=Lib.hid hb1
  clear hx hb1
  go_wp2_with (first
   |(refine wpList_load_box rfl (.tmp 2) 23 rfl cfgU W.heap.size (cfCs c) (cfgS rfl) rfl HX.out ?_)
   |(go_at_call 7;refine (cLi _).out.mono ?_;rintro e w2 ⟨rfl,hb⟩;replace HB:=Lib.hid (HB.out.trans (hb.mono HB.out.size));clear hb cLi)
   |(go_at_call 8;refine (cA HB.out).out.mono ?_;rintro e w3 ⟨rfl,hb⟩;replace HB:=Lib.hid (HB.out.trans (hb.mono HB.out.size));clear hb cA))
  go_ret
  exact ⟨rfl,HB.out⟩
 have hc:Okc c:=⟨hL.1,hL.2.1,by have:=hL.2.2;omega⟩
 have cLi:∀w,Hid (Calls Tryz.prog 7 #[.agg (cfCs c)] w fun e w'=>e= .returned (.bool true)/\Below w.heap.size w w'):=fun w=>Light_any c w true ⟨fun _=>hL,fun _=>rfl⟩
 have cB:∀{w},Below (W.alloc (.cells (cfCs c) 23)).heap.size (W.alloc (.cells (cfCs c) 23)) w->Hid (Calls Tryz.prog 9 #[.agg (cfCs c)] w fun e w'=>BegP (W.alloc (.cells (cfCs c) 23)) w w' c e):=fun hb=>Begun_c hc hT1 hb
 clear hL
 go_enter Tryz.func4,Tryz.ntmps4
 go_upto_region 1 with fail
 generalize W.alloc (.cells (cfCs c) 23)=w1 at*
 obtain ⟨a0,ha0⟩:∃a0,a0=W.heap.size:=⟨_,rfl⟩
 rw [<-ha0] at hx
 simp only [<-ha0]
 have HX:=Lib.hid hx
 have HB:=Lib.hid hb1
 clear hx hb1 ha0
 go_upto_region 7 with (first
  |(refine wpList_load_box rfl (.tmp 2) 23 rfl cfgU a0 (cfCs c) (cfgS rfl) rfl HX2.out ?_)
  |(refine wpList_load_box rfl (.tmp 2) 23 rfl cfgU a0 (cfCs c) (cfgS rfl) rfl HX.out ?_)
  |(go_at_call 7;refine (cLi _).out.mono ?_;rintro e w2 ⟨rfl,hb⟩;have HX2:=Lib.hid (HX.out.kept hb);have HB2:=Lib.hid hb;clear hb cLi)
  |(go_at_call 9;refine (cB HB2.out).out.mono ?_;rintro e w3 ⟨⟨F,z,rfl,hs⟩,-⟩;have HS:=Lib.hid hs;clear hs cB HB2 HX2))
 obtain ⟨N,hN⟩:∃N,N=l.length:=⟨_,rfl⟩
 have HN:=Lib.hid hN
 have hN9:N<=9223372036854775807:=by unfold maxLen at hl;omega
 simp only [<-hN]
 clear hN hl
 go_wp2_with fail
 go_loopg [7,8] N (fun gk kv iv wr=>∃(k kp:Nat) (F:List Nat) (tb:List Bool) (f:Nat->List UInt8) (r s:Nat),k<=N/\k<=60/\gk=N-k/\kv= .int .u32 (kp:Int)/\iv= .int .i64 (k:Int)/\Hid (Sv w1 wr F z c tb kp (kpF kp) f (200*k) r s))
 case atStart=>exact ⟨0,0,F,_,_,0,0,Nat.zero_le _,Nat.zero_le _,rfl,rfl,rfl,HS⟩
 case round=>
  obtain ⟨k,kp,F,tb,f,r,s,hk,hk60,rfl,rfl,rfl,HR⟩:=hrel
  clear HS
  by_cases hlt:k<N/\k<60
  . obtain ⟨hkN,hk6⟩:=hlt
    obtain ⟨b,o,x,rfl,hlk,hmem,hcl⟩:=act_at hA (k:=k) (by rw [<-HN.out];exact hkN)
    have hbr:=HB.out.trans (HR.out.below.mono HB.out.size)
    obtain ⟨c0,c1,c2,c3,c4,c5,c6⟩:=hcl hbr
    have hni:=hA.nd x hmem
    have hno:=hA.ok x hmem
    have hi32:=hA.lt x hmem
    obtain ⟨kd,i,n,a⟩:=x
    simp only at c0 c1 c2 c3 c4 c5 c6 hni hno hi32
    clear hcl hmem hlk
    by_cases hf:Fit n
    . have cG:∀{w},Below W.heap.size W w->Hid (Calls Tryz.prog 11 #[.agg (ndCs n a)] w fun e w'=>e= .returned (.bool false)/\Below w.heap.size w w'):=fun hb=>(Great_any (hni.kept hb) hno).mono fun e w' ⟨⟨v,he,hv⟩,hb⟩=>⟨by rw [he,hv.2 hf],hb⟩
      have hna:∀{w},Below W.heap.size W w->NdA w n a:=fun hb=>⟨hni.kept hb,hf,hno.kid⟩
      clear hni hno hf
      go_upto_region 11 with (refine wpList_store_box rfl (.tmp 9) (.tmp 41) 45 rfl rfl wr.heap.size #[.int .i64 0, .int .u32 0, .int .i64 0, .slice none 0 0, .slice none 0 0, .slice none 0 0, .slice none 0 0] (acCs ⟨kd,i,n,a⟩).toArray (actS rfl) rfl (act_one _) rfl rfl (BoxAt.new _ _ _) ?_;intro w4 HX4 hi;have hb4:=below_of rfl hi;clear hi)
      have HN4:=Lib.hid HR.out.new
      have H4:=Lib.hid (HR.out.kept hT1 hb4)
      have HW:=Lib.hid (hbr.trans (hb4.mono hbr.size))
      obtain ⟨g2,hg2⟩:∃g,g=wr.heap.size:=⟨_,rfl⟩
      rw [<-hg2] at HX4 HN4
      simp only [<-hg2]
      clear hg2 hb4 hbr HR c0 c1 c2 c3 c4 c5 c6
      obtain ⟨d0,d1,d2,d3,d4,d5,d6⟩:=act_cells HX4.out
      have cG4:=cG HW.out
      go_upto_region 13 with (go_at_call 11;refine cG4.out.mono ?_;rintro e w5 ⟨rfl,hb⟩;have HX5:=Lib.hid (HX4.out.kept hb);have H5:=Lib.hid (H4.out.kept hT1 hb);have HW5:=Lib.hid (HW.out.trans (hb.mono HW.out.size));clear hb cG4 HX4 H4 HW d0 d1 d2 d3 d4 d5 d6)
      obtain ⟨S,ls,hd,-⟩:=H5.out.dev
      have cS:=Lib.hid (Dv.Stats_any hd)
      clear hd cG
      go_upto_region 14 with (first
       |(go_at_call 25;refine cS.out.mono ?_;rintro e w6 ⟨rfl,hb⟩;have HX6:=Lib.hid (HX5.out.kept hb);have H6:=Lib.hid (H5.out.kept hT1 hb);have HW6:=Lib.hid (HW5.out.trans (hb.mono HW5.out.size));clear hb cS HX5 H5 HW5)
       |(refine wpList_store_box rfl (.tmp 10) (.tmp 47) 65 rfl rfl w6.heap.size #[.int .u64 0, .int .u64 0] #[.int .u64 (r:Int), .int .u64 (s:Int)] staS rfl (by simp [Value.oneCell']) rfl rfl (BoxAt.new _ _ _) ?_;intro w7 HY7 hi;have hb7:=below_of rfl hi;clear hi))
      have HN6:=Lib.hid H6.out.new
      have HX7:=Lib.hid (HX6.out.kept hb7)
      have H7:=Lib.hid (H6.out.kept hT1 hb7)
      have HW7:=Lib.hid (HW6.out.trans (hb7.mono HW6.out.size))
      obtain ⟨g3,hg3⟩:∃g,g=w6.heap.size:=⟨_,rfl⟩
      rw [<-hg3] at HY7 HN6
      simp only [<-hg3]
      clear hg3 hb7 H6 HX6 HW6
      obtain ⟨t,ht⟩:=Bu.bool_of (RightA c n)
      have cT:=Lib.hid (step_c (s:=⟨c,[],tb,kp⟩) H7.out hc hT1 (by omega) ⟨kd,i,n,a⟩ hi32 (hna HW7.out) ht)
      clear ht hna
      go_upto_region 15 with (first
       |(refine wpList_load_box rfl (.tmp 9) 45 rfl actU g2 (acCs ⟨kd,i,n,a⟩).toArray (actS rfl) rfl HX7.out ?_)
       |(go_at_call 13;refine cT.out.mono ?_;rintro e w8 ⟨kk,E,tb',kp',f',rfl,hbo,ho⟩;have HK:=Lib.hid hbo.kept;have HO:=Lib.hid ho;clear hbo ho cT))
      obtain ⟨F8,r8,s8,h8,m8,d8⟩:=HO.out
      obtain ⟨x8,n8⟩:=m8.box HX7.out HN4.out
      obtain ⟨y8,l8⟩:=m8.box HY7.out HN6.out
      have HC8:=Lib.hid d8
      have HX8:=Lib.hid (And.intro x8 n8)
      have HY8:=Lib.hid (And.intro y8 l8)
      have H8:=Lib.hid h8
      obtain ⟨d0,d1,-⟩:=act_cells x8
      clear HO h8 m8 d8 x8 n8 y8 l8 HX7 HY7 HN4 HN6 H7 HW7
      have HI:=Lib.hid hi32
      clear hi32
      by_cases k7:kd=7
      case' pos=>
       have e7:(kd==7)=true:=by simp [k7]
       have HK7:=Lib.hid k7
       have cL:=Lib.hid (Load_c H8.out hc hT1 (by omega) i HI.out)
       clear k7
       go_upto_region 17 with (go_at_call 14;refine cL.out.mono ?_;rintro e w9 ⟨⟨n',E',a',rfl,-,-⟩,ho⟩;have HO:=Lib.hid ho;clear ho cL d0 d1 e7)
       obtain ⟨F9,r9,s9,h9,m9,d9⟩:=HO.out
       have HX9:=Lib.hid (m9.box HX8.out.1 HX8.out.2).1
       have HY9:=Lib.hid (m9.box HY8.out.1 HY8.out.2).1
       have H9:=Lib.hid (h9.mono (show 200*k+64+2<=200*(k+1) by omega))
       have HC9:=Lib.hid (cost_seven (l:=[]) (tb:=tb) HK7.out HK.out HC8.out d9)
       clear HO h9 m9 d9
      case' neg=>
       have e7:(kd==7)=false:=by simpa using k7
       have HC9:=Lib.hid (cost_other (l:=[]) (tb:=tb) k7 HC8.out)
       clear k7
       go_upto_region 17 with fail
       have HX9:=Lib.hid HX8.out.1
       have HY9:=Lib.hid HY8.out.1
       have H9:=Lib.hid (H8.out.mono (show 200*k+64<=200*(k+1) by omega))
       generalize r8=r9 at*
       generalize s8=s9 at*
       generalize F8=F9 at*
       generalize w8=w9 at*
       clear d0 d1 e7
      all_goals
       clear H8 HX8 HY8 HC8
       obtain ⟨S9,ls9,hd9,-⟩:=H9.out.dev
       have cS:=Lib.hid (Dv.Stats_any hd9)
       clear hd9
       go_upto_region 18 with (first
        |(go_at_call 25;refine cS.out.mono ?_;rintro e w10 ⟨rfl,hb⟩;have HX10:=Lib.hid (HX9.out.kept hb);have HY10:=Lib.hid (HY9.out.kept hb);have H10:=Lib.hid (H9.out.kept hT1 hb);clear hb cS HX9 HY9 H9)
        |(refine wpList_store_box rfl (.tmp 13) (.tmp 62) 65 rfl rfl w10.heap.size #[.int .u64 0, .int .u64 0] #[.int .u64 (r9:Int), .int .u64 (s9:Int)] staS rfl (by simp [Value.oneCell']) rfl rfl (BoxAt.new _ _ _) ?_;intro w11 HZ11 hi;have hb11:=below_of rfl hi;clear hi))
       have HX11:=Lib.hid (HX10.out.kept hb11)
       have HY11:=Lib.hid (HY10.out.kept hb11)
       have H11:=Lib.hid (H10.out.kept hT1 hb11)
       obtain ⟨g4,hg4⟩:∃g,g=w10.heap.size:=⟨_,rfl⟩
       rw [<-hg4] at HZ11
       simp only [<-hg4]
       clear hg4 hb11 H10 HX10 HY10
       have u0:w11.cell? ⟨g4,0,none⟩=some (.int .u64 (r9:Int)):=HZ11.out.cell rfl
       have u1:w11.cell? ⟨g4,1,none⟩=some (.int .u64 (s9:Int)):=HZ11.out.cell rfl
       have v0:w11.cell? ⟨g3,0,none⟩=some (.int .u64 (r:Int)):=HY11.out.cell rfl
       have v1:w11.cell? ⟨g3,1,none⟩=some (.int .u64 (s:Int)):=HY11.out.cell rfl
       have tu0:=fun q:Drift.Tide [] w11 []=>Drift.Tide.cell u0 (by simp) q
       have tu1:=fun q:Drift.Tide [] w11 []=>Drift.Tide.cell u1 (by simp) q
       have tv0:=fun q:Drift.Tide [] w11 []=>Drift.Tide.cell v0 (by simp) q
       have tv1:=fun q:Drift.Tide [] w11 []=>Drift.Tide.cell v1 (by simp) q
       obtain ⟨hrs,hss⟩:=H11.out.small
       obtain ⟨rd,hrd⟩:∃rd,r9=r+rd:=⟨r9-r,by have:=HC9.out.1.1;omega⟩
       obtain ⟨sd,hsd⟩:∃sd,s9=s+sd:=⟨s9-s,by have:=HC9.out.2.1;omega⟩
       have hr1:rd<=CR ⟨kd,i,n,a⟩ kp:=by have:=HC9.out.1.2;omega
       have hs1:sd<=CW c ⟨kd,i,n,a⟩ kp:=by have:=HC9.out.2.2;omega
       have q1:IntKind.u64.wrap ((r9:Int)-(r:Int))=(rd:Int):=by rw [IntKind.wrap_u64];omega
       have q2:IntKind.u64.wrap ((s9:Int)-(s:Int))=(sd:Int):=by rw [IntKind.wrap_u64];omega
       have q3:IntKind.i64.wrap (rd:Int)=(rd:Int):=by rw [IntKind.wrap_i64];omega
       have q4:IntKind.i64.wrap (sd:Int)=(sd:Int):=by rw [IntKind.wrap_i64];omega
       have q5:IntKind.i64.wrap ((rd:Int)+(sd:Int))=((rd+sd:Nat):Int):=by rw [IntKind.wrap_i64];omega
       have HD:=Lib.hid (cost_kinds hc.nat.2.2.2.2.2.2.2.1 hr1 hs1)
       clear hrd hsd hr1 hs1 hrs hss HC9 u0 u1 v0 v1 HZ11 HY11
       refine Drift.wp_region_drift [] [(0,[]),(1,[]),(2,[]),(3,[]),(4,[]),(5,[]),(6,[]),(7,[]),(8,[]),(9,[]),(10,[]),(11,[]),(12,[]),(13,[])] [] [] (by kernel_rfl) (by kernel_rfl) (by simp) ?_
       simp only [Drift.pick,Drift.opsAt,List.getElem?_toArray,List.getElem?_cons_zero,List.getElem?_cons_succ,List.cons_append,List.nil_append,List.filterMap_nil]
       repeat (refine Drift.walk_step (fun K hK=>?_);go_simp;(refine hK _ ?_;clear hK K))
       refine Drift.walk_nil ?_
       intro w12 hb12 _
       have hb12:Below w11.heap.size w11 w12:=hb12
       simp only [List.length_cons,List.length_nil,List.drop_succ_cons,List.drop_zero,Nat.zero_add,Nat.reduceAdd]
       have HX12:=Lib.hid (HX11.out.kept hb12)
       have H12:=Lib.hid (H11.out.kept hT1 hb12)
       clear tu0 tu1 tv0 tv1 hb12 HX11 H11 q1 q2 q3 q4
       obtain ⟨d0,d1,-⟩:=act_cells HX12.out
       have f2:w12.cell? ⟨a0,2,none⟩=some (.int .i64 c.frames):=(HX.out.kept H12.out.below).cell rfl
       go_upto_block 2 with fail
       go_cut [16] (fun okv wx=>okv= .bool true/\wx=w12)
       case first=>
        rcases HD.out with ⟨hk0,rfl,hs⟩|⟨hk0,hr,hs,hz⟩|⟨rfl,rfl,hs⟩|⟨hk0,rfl,rfl⟩
        . rcases hk0 with rfl|rfl|rfl<;>(clear q5;go_wp2_with fail;go_meet;exact ⟨rfl,rfl⟩)
        . by_cases e:i=kp
          . obtain ⟨rfl,rfl⟩:=hz e
            clear hz
            rcases hk0 with rfl|rfl<;>(go_wp2_with fail;go_meet;exact ⟨rfl,rfl⟩)
          . have e2:((i:Int) != (kp:Int))=true:=by simp;omega
            clear hz e
            by_cases h0:rd+sd=0
            . have e3:(((rd+sd:Nat):Int)==0)=true:=by simp;omega
              have e4:((rd:Int)+(sd:Int)==0)=true:=by simp;omega
              rcases hk0 with rfl|rfl<;>(go_wp2_with fail;go_meet;exact ⟨by simp,rfl⟩)
            . have e3:(((rd+sd:Nat):Int)==0)=false:=by simp;omega
              have e4:((rd:Int)+(sd:Int)==0)=false:=by simp;omega
              rcases hk0 with rfl|rfl<;>(go_wp2_with fail;go_meet;exact ⟨by simp,rfl⟩)
        . clear q5
          go_wp2_with fail
          go_meet
          exact ⟨rfl,rfl⟩
        . have e0:(kd==0)=false:=by simp;omega
          have e1:(kd==1)=false:=by simp;omega
          have e2:(kd==2)=false:=by simp;omega
          have e3:(kd==5)=false:=by simp;omega
          have e4:(kd==7)=false:=by simp;omega
          have e5:(kd==6)=false:=by simp;omega
          clear q5 hk0
          go_wp2_with fail
          go_meet
          exact ⟨rfl,rfl⟩
       case rest=>
        obtain ⟨rfl,rfl⟩:=hcut
        have hwk:IntKind.i64.wrap ((k:Int)+1)=((k+1:Nat):Int):=by rw [IntKind.wrap_i64];omega
        clear q5 f2
        rcases HK.out with ⟨h5,⟨rfl,hkp⟩|⟨rfl,hkp⟩⟩|⟨h5,hkp⟩
        . subst hkp
          have e5:(kd==5)=true:=by simp [h5]
          clear h5
          go_wp2_with fail
          go_roundg (N-(k+1))
          case measure=>omega
          case rel=>exact ⟨k+1,_,_,_,_,_,_,by omega,by omega,rfl,rfl,by go_num,H12⟩
        . subst hkp
          have e5:(kd==5)=true:=by simp [h5]
          clear h5
          go_wp2_with fail
          go_roundg (N-(k+1))
          case measure=>omega
          case rel=>exact ⟨k+1,_,_,_,_,_,_,by omega,by omega,rfl,rfl,by go_num,H12⟩
        . subst hkp
          have e5:(kd==5)=false:=by simpa using h5
          clear h5
          go_wp2_with fail
          go_roundg (N-(k+1))
          case measure=>omega
          case rel=>exact ⟨k+1,_,_,_,_,_,_,by omega,by omega,rfl,rfl,by go_num,H12⟩
    . have cG:∀{w},Below W.heap.size W w->Hid (Calls Tryz.prog 11 #[.agg (ndCs n a)] w fun e w'=>e= .returned (.bool true)/\Below w.heap.size w w'):=fun hb=>(Great_any (hni.kept hb) hno).mono fun e w' ⟨⟨v,he,hv⟩,hb⟩=>⟨by
       cases v with
       |true=>exact he
       |false=>exact absurd (hv.1 rfl) hf,hb⟩
      clear hni hno hf
      go_upto_region 11 with (refine wpList_store_box rfl (.tmp 9) (.tmp 41) 45 rfl rfl wr.heap.size #[.int .i64 0, .int .u32 0, .int .i64 0, .slice none 0 0, .slice none 0 0, .slice none 0 0, .slice none 0 0] (acCs ⟨kd,i,n,a⟩).toArray (actS rfl) rfl (act_one _) rfl rfl (BoxAt.new _ _ _) ?_;intro w4 HX4 hi;have hb4:=below_of rfl hi;clear hi)
      have HW:=Lib.hid (hbr.trans (hb4.mono hbr.size))
      clear hb4 hbr HR c0 c1 c2 c3 c4 c5 c6
      obtain ⟨d0,d1,d2,d3,d4,d5,d6⟩:=act_cells HX4.out
      have cG4:=cG HW.out
      clear cG
      go_wp2_with (first
       |(go_at_call 11;refine cG4.out.mono ?_;rintro e w5 ⟨rfl,hb⟩;have HW5:=Lib.hid (HW.out.trans (hb.mono HW.out.size));clear hb cG4 HX4 HW d0 d1 d2 d3 d4 d5 d6)
       |(go_at_call 8;refine (cA HW5.out).out.mono ?_;rintro e w6 ⟨rfl,hb⟩;have HW6:=Lib.hid (HW5.out.trans (hb.mono HW5.out.size));clear hb cA))
      go_ret
      exact ⟨rfl,HW6.out⟩
  . have HW:=Lib.hid (HB.out.trans (HR.out.below.mono HB.out.size))
    clear HR
    by_cases hkN:k<N
    . have hk60':60<=k:=by omega
      clear hlt
      go_wp2_with (go_at_call 8;refine (cA HW.out).out.mono ?_;rintro e w6 ⟨rfl,hb⟩;have HW6:=Lib.hid (HW.out.trans (hb.mono HW.out.size));clear hb cA)
      go_ret
      exact ⟨rfl,HW6.out⟩
    . obtain rfl:k=N:=by omega
      clear hlt
      go_wp2_with (go_at_call 8;refine (cA HW.out).out.mono ?_;rintro e w6 ⟨rfl,hb⟩;have HW6:=Lib.hid (HW.out.trans (hb.mono HW.out.size));clear hb cA)
      go_ret
      exact ⟨rfl,HW6.out⟩
end Sh
end Go.Proofs.YtjpjjnalpdpljaaGreatDoor
namespace Go.Proofs.YtjpjjnalpdpljaaGreatDoor.ShelfCosts
open Go.ChangeShapes Go.WideShapes Go.ChangeAt Go.RowKit
open Go.ChangeMaps (open_string shut_string)
theorem own:ownKnob Tryz.prog.godebug=none:=by kernel_rfl
def laidL:List (String × DataW Unit):=[("math/bits.deBruijn64tab",Rows.laid_math_bits_deBruijn64tab)]
theorem contract (H:Type) (enc:TypeId × Value->H) (W:World) (base:Nat) (args:Array Value) (ds gs:List (DataW H)) (before:List MemPlace)
 (hval:∀(j:Nat) t v,Tryz.f4.params[j]? =some t->args[j]? =some v->Value.okWide Tryz.prog W .any base t v)
 (hW:DataW.Whole enc Tryz.prog Tryz.f4.params.toList Rows.shelfCostsSpec.vars false W args.toList ds gs before)
 (hsz:(DataW.weightsEach Tryz.prog (Tryz.f4.params.toList++Rows.shelfCostsSpec.plain.varTypes Tryz.prog) (ds++gs)).all (· <=reachBytes)=true) (hL:laidMetH Tryz.prog laidL W):
 Calls Tryz.prog 4 args W fun e W'=>∃v,e= .returned v/\Rows.shelfCostsSpec.post enc Tryz.prog Tryz.f4 false true false false W args v W':=by
 have hW':=hW
 obtain ⟨p,q,hA0,hV,rfl,hfz,hnd⟩:=hW
 have hA:DataW.TrodAll enc Tryz.prog W 0 (fun _=>true) true Tryz.f4.params.toList args.toList ds p:=hA0
 rw [Tryz.params4] at hA hval
 obtain ⟨v0,vs0,d0,ds0,p0,q0,hargs0,rfl,rfl,h0,r0⟩:=trodAll_cons hA
 obtain ⟨v1,vs1,d1,ds1,p1,q1,hargs1,rfl,rfl,h1,r1⟩:=trodAll_cons r0
 obtain ⟨rfl,rfl,rfl⟩:=trodAll_nil r1
 obtain rfl:args= #[v0,v1]:=by cases args;simp_all
 obtain ⟨rfl,rfl⟩:=trodVars_none hV
 obtain ⟨cB,cY,cF,cN,cU,cL,cKy,cV,rfl⟩:=Cf.open_cfg (hval 0 23 v0 rfl rfl) h0
 have zl:∀n∈d1.weights Tryz.prog 24,n<=reachBytes:=fun n hn=>by
  have:=List.all_eq_true.1 hsz n (DataW.weights_mem_each (j:=1) (by rw [Tryz.params4];rfl) rfl n hn)
  simpa using this
 obtain ⟨Al,l,cl,rfl,hl,ll,ml⟩:=Sh.open_acts (hval 1 24 v1 rfl rfl) h1 zl
 clear hA0
 have hL':=Bt.tab_of_laid hL
 simp only [List.append_nil] at hW'
 refine (Sh.ShelfCosts_walk cB cY cF cN cU cL cKy cV Al cl l W hl (Nat.le_trans ll ml) hL').mono fun e W' ⟨he,hg⟩=>?_
 subst he
 exact ⟨_,rfl,Post.law_post (by kernel_rfl) (by kernel_rfl) hW' rfl rfl rfl Tryz.underlying4 hg⟩
theorem door_met (os:Os) (args:Array Value):laidMetH Tryz.prog laidL ((World.doorLaid Tryz.prog 400 os).forCall (fun _ _=>0) ⟨#[],args,[]⟩).memory:=
 laidMet_of_run' 8 (by kernel_rfl) (by kernel_rfl)
theorem lifted (os:Os) (started:os.Started) (H:Type) (enc:TypeId × Value->H):
 ReturnsInHanded {} Tryz.checked os 4 .any (fun w args=>(Rows.shelfCostsSpec.pre enc Tryz.prog Tryz.f4 [] false w args/\laidMetH Tryz.prog laidL w)/\sizedMet enc Tryz.prog Tryz.f4 (OpenSpec.ofChange Rows.shelfCostsSpec) false w args)
  (Rows.shelfCostsSpec.post enc Tryz.prog Tryz.f4 false true false false):=by
 refine returnsInHanded_of_change_and (C:=Tryz.checked) (X:=fun w _=>laidMetH Tryz.prog laidL w) (fun _ _ _ hh h=>h.of_heap hh) own started (by kernel_rfl) Tryz.func4
  (ChangeSpec.witness_shaped (enc:=enc) (C:=Tryz.checked) (os:=os) (X:=fun w _=>laidMetH Tryz.prog laidL w) false (World.doorLaid Tryz.prog 400 os) #[.agg #[.int .i64 0, .int .i64 0, .int .i64 0, .int .i64 0, .int .i64 0, .int .i64 0, .int .i64 0, .int .i64 0], .slice none 0 0] 8 rfl (World.shaped_of_RefB (by kernel_rfl) (by kernel_rfl)) (by kernel_rfl) (by kernel_rfl) (by kernel_rfl) (door_met os _)) ?_
 intro W base args ds gs before hval hW _ hsz hL _
 exact contract H enc W base args ds gs before hval hW hsz hL
theorem holds:Rows.ShelfCostsSaid:=
 OpenClaim.holds_of_wide 4 Tryz.f4 rfl rfl rfl rfl rfl rfl rfl ⟨rfl,rfl,rfl,rfl,rfl⟩ rfl rfl rfl rfl rfl (by kernel_rfl) Tryz.func4 (by kernel_rfl)
  (of_decide_eq_true (by kernel_rfl)) (by unfold Func.isWrapper;first|(rw [if_pos (by decide+kernel)];kernel_rfl)|(rw [if_neg (by decide+kernel)];exact ⟨rfl,rfl⟩))
  (fun os started H enc _=>lifted os started H enc)
end Go.Proofs.YtjpjjnalpdpljaaGreatDoor.ShelfCosts
namespace Go.Proofs.YtjpjjnalpdpljaaGreatDoor.ShelfCosts
open Go
theorem card:Rows.ShelfCostsCardSaid:=
 Claim7.holds_tied_plain_at .later [] [.data] true Rows.shelfCostsCard.stood.harness false
  holds (fun _ h=>by cases h) (by kernel_rfl) (fun _ h=>by cases h) shelfCosts_row_tie rfl ⟨rfl,rfl⟩ (by kernel_rfl) rfl
  (fun f fn hf hfn=>by
    obtain rfl:f=4:=Option.some.inj ((show Tryz.prog.funcNamed "sluicegate/sluicegatelaw18.ShelfCosts" =some 4 by kernel_rfl).symm.trans hf) |>.symm
    obtain rfl:fn=Tryz.f4:=(Option.some.inj (Tryz.func4.symm.trans hfn)).symm
    exact ⟨by kernel_rfl,fun j t ht=>by
     rw [Tryz.params4] at ht
     have hm:t∈[23,24]:=by simpa using Array.mem_of_getElem? ht
     have hall:([23,24].all fun u=> !Tryz.prog.wantsStandIn u)=true:=by kernel_rfl
     exact (show Tryz.prog.wantsStandIn t=false by simpa using List.all_eq_true.1 hall t hm)⟩)
  (by kernel_rfl)
end Go.Proofs.YtjpjjnalpdpljaaGreatDoor.ShelfCosts
