import Derived.Test.YtjpjjnalpdpljaaGreatDoorPkBO
import Derived.Test.YtjpjjnalpdpljaaGreatDoorPkBF
import Derived.Test.YtjpjjnalpdpljaaGreatDoorPkBC
set_option maxHeartbeats 2000000
set_option maxRecDepth 100000
namespace Go.Proofs.YtjpjjnalpdpljaaGreatDoor
open Go.RowKit
namespace Sh
open Mem No Bt Po
open Ca (upF Few)
section
variable {W w w1:World} {F F1:List Nat} {z:Ad} {c:Cfg} {tb:List Bool} {kp:Nat} {P:Nat->Nat} {f:Nat->List UInt8} {K r s:Nat}
theorem give_is {i:Nat} (hi:thr c i) (hl:(tb.length:Int)=c.blocks):gvE tb i=0\/(gvE tb i=9/\gvT tb i=tb):=by
 obtain ⟨h0,h1⟩:=hi
 have hin:inB tb (i:Int)=true:=in_lt (by omega)
 unfold gvE gvT
 rw [if_neg (by omega),if_neg (by omega)]
 unfold clrE clrT
 rw [hin]
 simp only [if_true]
 by_cases hh:hasB tb (i:Int)=true
 . exact .inl (by rw [hh];rfl)
 . refine .inr ⟨by rw [Bool.eq_false_iff.2 hh];rfl,?_⟩
   refine set_same (by show i<tb.length;omega) ?_
   unfold hasB at hh
   simpa using hh
def FrP (tb:List Bool) (f:Nat->List UInt8) (i:Nat) (E:Int) (tb':List Bool) (f':Nat->List UInt8):Prop:=(E≠0/\tb'=tb/\f'=f)\/(E=0/\tb'=gvT tb i/\∃y,f'=upF f i y)
def frEc (c:Cfg) (tb:List Bool) (kp i:Nat):Int:=if thr c i then (if i=kp then 8 else gvE tb i) else 4
theorem Free_c (h:Sv W w F z c tb kp (kpF kp) f K r s) (hc:Okc c) (hT:Tab W) (i:Nat) (h32:i<4294967296):Calls Tryz.prog 36 #[.pointer (some ⟨z.p,0,none⟩), .int .u32 (i:Int)] w fun e w'=>e= .returned (.int .i64 (frEc c tb kp i))/\∃(tb':List Bool) (f':Nat->List UInt8),FrP tb f i (frEc c tb kp i) tb' f'/\Out W w w' F z c tb' kp (kpF kp) f' K r s 0 0:=by
 have cM:=Lib.hid (place_c h hc i)
 have H:=Lib.hid h
 unfold frEc
 by_cases ht:thr c i
 . simp only [if_pos ht] at cM ⊢
   obtain ⟨-,-,-,-,-,-,-,-,-,c9,c10,c11,-⟩:=h.cells
   by_cases e:i=kp
   . subst e
     rw [if_pos rfl]
     clear h ht
     go_enter Tryz.func36,Tryz.ntmps36
     go_wp2_with (go_at_call 46;refine cM.out.mono ?_;rintro e w' ⟨rfl,rfl⟩)
     go_ret
     exact ⟨rfl,tb,f, .inl ⟨by decide,rfl,rfl⟩,Out.same H.out hT (Below.refl _ _) 0 0⟩
   . rw [if_neg e]
     have cG:=Lib.hid (Give_any h.pw hT i h32)
     have hne:((i:Int)==(kp:Int))=false:=by simp;omega
     have HG:=Lib.hid (And.intro e (And.intro (give_is ht h.len) (give_first (i:=i) h.tb0)))
     generalize gvE tb i=E at*
     obtain ⟨tb',hgv⟩:∃x,x=gvT tb i:=⟨_,rfl⟩
     rw [<-hgv] at HG cG
     have HV:=Lib.hid hgv
     clear hgv
     clear h ht e
     go_enter Tryz.func36,Tryz.ntmps36
     go_upto_region 7 with (first
      |(go_at_call 46;refine cM.out.mono ?_;rintro e w' ⟨rfl,rfl⟩)
      |(go_at_call 74;refine cG.out.mono ?_;rintro e w2 ⟨rfl,hp,hi⟩;have HP:=Lib.hid (And.intro hp hi);clear hp hi c9 c10 c11 cG cM))
     obtain ⟨e,hg,hl,h0⟩:=HG.out
     rcases hg with rfl|⟨rfl,rfl⟩
     . obtain ⟨F2,r2,s2,h2,m2,d2⟩:=H.out.pool HP.out.1 HP.out.2 hl h0
       have cD:=Lib.hid (SDrop h2 hT h32 (kp_zero e))
       obtain ⟨-,-,-,-,-,-,-,-,-,c9,-⟩:=h2.cells
       have HM:=Lib.hid (And.intro m2 d2)
       clear h2 m2 d2 e hl h0 HG HP H
       go_wp2_with (go_at_call 75;refine cD.out.mono ?_;rintro e w3 ⟨rfl,ho⟩;have HO:=Lib.hid ho;clear ho cD)
       go_ret
       obtain ⟨y,ho⟩:=HO.out
       exact ⟨rfl,tb',_, .inr ⟨rfl,HV.out,y,rfl⟩,Out.then HM.out.1 HM.out.2.1 HM.out.2.2 ho⟩
     . have ho:=H.out.pool HP.out.1 HP.out.2 hl h0
       have HO:=Lib.hid ho
       clear ho e hl h0 HG HP H
       go_wp2_with fail
       go_ret
       exact ⟨rfl,tb',f, .inl ⟨by decide,rfl,rfl⟩,HO.out⟩
 . simp only [if_neg ht] at cM ⊢
   clear h ht
   go_enter Tryz.func36,Tryz.ntmps36
   go_wp2_with (go_at_call 46;refine cM.out.mono ?_;rintro e w' ⟨rfl,rfl⟩)
   go_ret
   exact ⟨rfl,tb,f, .inl ⟨by decide,rfl,rfl⟩,Out.same H.out hT (Below.refl _ _) 0 0⟩
theorem Sv.keep (h:Sv W w F z c tb kp P f K r s) (hT:Tab W) {i:Nat} (hi:i=0\/thr c i):Sv W (w.setCell ⟨z.p,11,none⟩ (.int .u32 (i:Int))) F z c tb i P f K r s/\Mv z w (w.setCell ⟨z.p,11,none⟩ (.int .u32 (i:Int))) F F:=by
 obtain ⟨⟨st,h1,h2⟩,h3,h4,-⟩:=h
 obtain ⟨h5,h6⟩:=h1.keep hT i
 exact ⟨⟨⟨st,h5,h2⟩,h3,h4,hi⟩,h6⟩
def kpEc (c:Cfg) (i:Nat):Int:=if 0<i/\¬thr c i then 4 else 0
def kpKc (c:Cfg) (kp i:Nat):Nat:=if 0<i/\¬thr c i then kp else i
theorem Keep_c (h:Sv W w F z c tb kp (kpF kp) f K r s) (hc:Okc c) (hT:Tab W) (hK:K<=900000) (i:Nat) (h32:i<4294967296):Calls Tryz.prog 38 #[.pointer (some ⟨z.p,0,none⟩), .int .u32 (i:Int)] w fun e w'=>e= .returned (.int .i64 (kpEc c i))/\Out W w w' F z c tb (kpKc c kp i) (kpF (kpKc c kp i)) f (K+2) r s (if i=kp then 0 else 1) (if i=kp then 0 else 1):=by
 have cM:=Lib.hid (isMade_c h)
 have cL:=Lib.hid (place_c h hc i)
 have H:=Lib.hid h
 have k32:kp<4294967296:=by
  rcases h.kl with e|e
  . omega
  . have:=e.2
    have:=hc.nat
    omega
 have cU:∀{w F r s} {P:Nat->Nat},Sv W w F z c tb kp P f (K+2) r s->P kp≠0->Hid (Calls Tryz.prog 49 #[.pointer (some ⟨z.k,0,none⟩), .int .u32 (kp:Int)] w fun e w'=>e= .returned (.int .i64 0)/\Out W w w' F z c tb kp (upF P kp (P kp-1)) f (K+2) r s 0 0):=fun h h0=>SUnpin h hT (by omega) k32 h0
 unfold kpEc kpKc
 by_cases h0:i=0
 . subst h0
   simp only [Nat.lt_irrefl,false_and,if_false]
   generalize (if 0=kp then 0 else 1)=R at*
   by_cases hk:kp=0
   . subst hk
     obtain ⟨hs,hm⟩:=h.keep hT (i:=0) (.inl rfl)
     have HS:=Lib.hid (And.intro hs hm)
     obtain ⟨-,-,-,-,-,-,-,-,-,-,-,c11,f11⟩:=h.cells
     clear h hs hm cU cL H
     go_enter Tryz.func38,Tryz.ntmps38
     go_wp2_with (go_at_call 55;refine cM.out.mono ?_;rintro e w' ⟨rfl,rfl⟩)
     go_ret
     exact ⟨rfl,F,r,s,HS.out.1.mono (by omega),HS.out.2,by omega,by omega⟩
   . have hk0:((kp:Int)==0)=false:=by simp;omega
     have hkp:0<kp:=by omega
     clear hk
     obtain ⟨-,-,-,-,-,-,-,-,-,-,-,c11,f11⟩:=h.cells
     clear h cL
     go_enter Tryz.func38,Tryz.ntmps38
     go_upto_region 9 with (go_at_call 55;refine cM.out.mono ?_;rintro e w' ⟨rfl,rfl⟩)
     have h1:=H.out.mono (show K<=K+2 by omega)
     have HM:=Lib.hid (And.intro (Mv.below z F (Below.refl w.heap.size w)) (show (r<=r/\r<=r+R)/\s<=s/\s<=s+R by omega))
     have HK:=Lib.hid (kp_none kp hkp)
     have hP:kpF kp kp≠0:=by rw [kp_self hkp];decide
     have hb3:=Ca.below_drawn w
     have h3:=h1.kept hT hb3
     have HM3:=Lib.hid (HM.out.1.trans (Mv.below z F hb3))
     have cU3:=cU h3 hP
     rw [HK.out] at cU3
     obtain ⟨-,-,-,-,-,-,-,-,-,d9,-,d11,-⟩:=h3.cells
     refine wp_region_still_tail 8 (by kernel_rfl) (by kernel_rfl) ?_
     simp only [List.take_succ_cons,List.take_zero,List.drop_succ_cons,List.drop_zero]
     clear h1 h3 hb3 hP c11 f11 cU
     generalize { w with drawn:=w.drawn+1 }=w3 at*
     repeat (refine wpStill_step (fun K hK=>?_);go_simp;(refine hK _ ?_;clear hK K))
     refine wpStill_nil ?_
     go_upto_region 10 with (go_at_call 49;refine cU3.out.mono ?_;rintro e w4 ⟨rfl,ho⟩;have HO4:=Lib.hid ho;clear ho d9 d11 cU3)
     obtain ⟨F4,r4,s4,h4,m4,d4⟩:=HO4.out
     obtain ⟨hs,hm⟩:=h4.keep hT (i:=0) (.inl rfl)
     have HS:=Lib.hid (And.intro hs (And.intro (HM3.out.trans m4 |>.trans hm) d4))
     obtain ⟨-,-,-,-,-,-,-,-,-,-,-,c11,f11⟩:=h4.cells
     clear h4 m4 d4 hs hm HO4
     go_wp2_with fail
     go_ret
     have hd:=HM.out.2
     have hd4:=HS.out.2.2
     exact ⟨rfl,F4,r4,s4,HS.out.1,HS.out.2.1,by omega,by omega⟩
 . have hi0:((i:Int)==0)=false:=by simp;omega
   by_cases ht:thr c i
   . simp only [if_pos ht] at cL
     simp only [ht,not_true_eq_false,and_false,if_false]
     have hR:=kp_cost (kp:=kp) ht.1
     have cP:=SPin h hc hT (by omega) (few_kp kp) ht.2
     rw [hR] at cP
     have CP:=Lib.hid cP
     generalize (if i=kp then 0 else 1)=R at*
     have HT:=Lib.hid ht
     obtain ⟨-,-,-,-,-,-,-,-,-,c9,-,c11,-⟩:=h.cells
     clear h cP hR ht h0
     go_enter Tryz.func38,Tryz.ntmps38
     go_upto_region 8 with (first
      |(go_at_call 55;refine cM.out.mono ?_;rintro e w' ⟨rfl,rfl⟩)
      |(go_at_call 46;refine cL.out.mono ?_;rintro e w' ⟨rfl,rfl⟩)
      |(go_at_call 47;refine CP.out.mono ?_;rintro e w1 ⟨rfl,ho⟩;have HO:=Lib.hid ho;clear ho c9 c11 CP cM cL))
     obtain ⟨F1,r1,s1,h1,m1,d1⟩:=HO.out
     have HM:=Lib.hid (And.intro m1 d1)
     by_cases hk:kp=0
     . subst hk
       rw [kp_first i HT.out.1] at h1
       obtain ⟨hs,hm⟩:=h1.keep hT (.inr HT.out)
       have HS:=Lib.hid (And.intro hs hm)
       obtain ⟨-,-,-,-,-,-,-,-,-,-,-,c11,f11⟩:=h1.cells
       clear h1 m1 d1 hs hm cU HO H
       go_wp2_with fail
       go_ret
       exact ⟨rfl,F1,r1,s1,HS.out.1,HM.out.1.trans HS.out.2,HM.out.2⟩
     . have hk0:((kp:Int)==0)=false:=by simp;omega
       have hkp:0<kp:=by omega
       obtain ⟨-,-,-,-,-,-,-,-,-,-,-,c11,f11⟩:=h1.cells
       go_upto_region 9 with fail
       have HK:=Lib.hid (kp_new kp i HT.out.1 hkp)
       have hP:upF (kpF kp) i (kpF kp i+1) kp≠0:=by
        unfold upF
        split
        . omega
        . rw [kp_self hkp];decide
       have hb3:=Ca.below_drawn w1
       have h3:=h1.kept hT hb3
       have HM3:=Lib.hid (HM.out.1.trans (Mv.below z F1 hb3))
       have cU3:=cU h3 hP
       rw [HK.out] at cU3
       obtain ⟨-,-,-,-,-,-,-,-,-,d9,-,d11,-⟩:=h3.cells
       refine wp_region_still_tail 8 (by kernel_rfl) (by kernel_rfl) ?_
       simp only [List.take_succ_cons,List.take_zero,List.drop_succ_cons,List.drop_zero]
       clear h1 h3 hb3 hP c11 f11 cU
       generalize { w1 with drawn:=w1.drawn+1 }=w3 at*
       repeat (refine wpStill_step (fun K hK=>?_);go_simp;(refine hK _ ?_;clear hK K))
       refine wpStill_nil ?_
       go_upto_region 10 with (go_at_call 49;refine cU3.out.mono ?_;rintro e w4 ⟨rfl,ho⟩;have HO4:=Lib.hid ho;clear ho d9 d11 cU3)
       obtain ⟨F4,r4,s4,h4,m4,d4⟩:=HO4.out
       obtain ⟨hs,hm⟩:=h4.keep hT (i:=i) (.inr HT.out)
       have HS:=Lib.hid (And.intro hs (And.intro (HM3.out.trans m4 |>.trans hm) d4))
       obtain ⟨-,-,-,-,-,-,-,-,-,-,-,c11,f11⟩:=h4.cells
       clear h4 m4 d4 hs hm HO4
       go_wp2_with fail
       go_ret
       have hd:=HM.out.2
       have hd4:=HS.out.2.2
       exact ⟨rfl,F4,r4,s4,HS.out.1,HS.out.2.1,by omega,by omega⟩
   . simp only [if_neg ht] at cL
     have hip:0<i:=by omega
     simp only [ht,hip,not_false_eq_true,and_self,if_true]
     clear h ht cU
     generalize (if i=kp then 0 else 1)=R at*
     go_enter Tryz.func38,Tryz.ntmps38
     go_wp2_with (first
      |(go_at_call 55;refine cM.out.mono ?_;rintro e w' ⟨rfl,rfl⟩)
      |(go_at_call 46;refine cL.out.mono ?_;rintro e w' ⟨rfl,rfl⟩))
     go_ret
     exact ⟨rfl,Out.same (H.out.mono (Nat.le_add_right _ 2)) hT (Below.refl _ _) _ _⟩
end
end Sh
end Go.Proofs.YtjpjjnalpdpljaaGreatDoor
namespace Go.Proofs.YtjpjjnalpdpljaaGreatDoor
open Go.RowKit
namespace Sh
open Mem No Bt Po
open Ca (upF Few)
def Both (s:Ds) (x:Ac) (t:Bool) (f:Nat->List UInt8) (k:Nat) (E:Int) (tb':List Bool) (kp':Nat) (f':Nat->List UInt8):Prop:=∃s',WantR s x t s' k E/\FileR s x t k E f f'/\s'.held=tb'/\s'.kept=kp'
section
variable {s:Ds} {x:Ac} {t:Bool} {f f':Nat->List UInt8} {k:Nat} {E:Int} {tb':List Bool}
theorem both_sv (hk:x.kd=0\/x.kd=1):Both s x t f 0 (if thr s.c x.i then (if t=true then 0 else 3) else 4) s.held s.kept (if thr s.c x.i/\t=true then upF f x.i (blockL s.c x.n) else f):=by
 obtain ⟨-,h1,h2⟩:=like_sv (s:=s) (i:=x.i) (r:=t) (n:=x.n) (a:=x.a)
 refine ⟨_, .inl ⟨hk,rfl,rfl,rfl⟩,?_,h1,h2⟩
 by_cases h:thr s.c x.i/\t=true
 . rw [if_pos h,if_pos h.1,if_pos h.2]
   exact .inl ⟨hk,rfl,h.1,h.2,rfl⟩
 . rw [if_neg h]
   refine .inr (.inr (.inr ⟨fun _=>?_,rfl⟩))
   by_cases h1:thr s.c x.i
   . rw [if_pos h1,if_neg (fun hh=>h ⟨h1,hh⟩)]
     decide
   . rw [if_neg h1]
     decide
theorem both_mk (hk:x.kd=2) (h:MkP s.c s.held f x.n t k E tb' f'):Both s x t f k E tb' s.kept f':=by
 rcases h with ⟨h1,rfl,rfl,rfl,rfl⟩|⟨h1,h2,rfl,rfl,rfl,rfl⟩|⟨h1,h2,rfl,rfl⟩
 . exact ⟨s, .inr (.inl ⟨hk,h1,rfl,rfl,rfl⟩), .inr (.inr (.inr ⟨fun _=>by decide,rfl⟩)),rfl,rfl⟩
 . exact ⟨s, .inr (.inr (.inl ⟨hk,h1,h2,rfl,rfl,rfl⟩)), .inr (.inr (.inr ⟨fun _=>by decide,rfl⟩)),rfl,rfl⟩
 . exact ⟨_, .inr (.inr (.inr (.inl ⟨hk,h1,⟨tb',h2,rfl⟩,rfl⟩))), .inr (.inl ⟨hk,rfl,rfl⟩),rfl,rfl⟩
theorem both_fr (hk:x.kd=3) (h:FrP s.held f x.i (frEc s.c s.held s.kept x.i) tb' f'):Both s x t f 0 (frEc s.c s.held s.kept x.i) tb' s.kept f':=by
 have hE:frEc s.c s.held s.kept x.i=frE s x.i:=rfl
 obtain ⟨-,h2⟩:=like_fr (s:=s) (i:=x.i)
 refine ⟨frS s x.i, .inr (.inr (.inr (.inr (.inl ⟨hk,rfl,rfl,hE⟩)))),?_,?_,h2⟩
 . rcases h with ⟨h1,-,rfl⟩|⟨h1,-,h3⟩
   . exact .inr (.inr (.inr ⟨fun _=>h1,rfl⟩))
   . exact .inr (.inr (.inl ⟨hk,h1,h3⟩))
 . rw [hE] at h
   unfold frE at h
   unfold frS
   by_cases h1:there s x.i
   . rw [if_pos h1] at h ⊢
     by_cases h3:x.i=s.kept
     . rw [if_pos h3] at h ⊢
       rcases h with ⟨-,rfl,-⟩|⟨h4,-⟩
       . rfl
       . cases h4
     . rw [if_neg h3] at h ⊢
       rcases h with ⟨h4,rfl,-⟩|⟨h4,rfl,-⟩
       . rw [if_neg h4]
       . rw [if_pos h4]
         rfl
   . rw [if_neg h1] at h ⊢
     rcases h with ⟨-,rfl,-⟩|⟨h4,-⟩
     . rfl
     . cases h4
theorem both_mr (hk:x.kd=4):Both s x t f 0 (if thr s.c x.i then setE s.held x.i else 4) (if thr s.c x.i then setT s.held x.i else s.held) s.kept f:=by
 obtain ⟨-,-,h2⟩:=like_mr (s:=s) (i:=x.i)
 refine ⟨mrS s x.i, .inr (.inr (.inr (.inr (.inr (.inl ⟨hk,rfl,rfl,rfl⟩))))), .inr (.inr (.inr ⟨fun hh=>by omega,rfl⟩)),?_,h2⟩
 unfold mrS
 by_cases h1:thr s.c x.i
 . rw [if_pos h1,if_pos (show there s x.i from h1)]
 . rw [if_neg h1,if_neg (show ¬there s x.i from h1)]
theorem both_kp (hk:x.kd=5):Both s x t f 0 (kpEc s.c x.i) s.held (kpKc s.c s.kept x.i) f:=by
 obtain ⟨-,-,h2⟩:=like_kp (s:=s) (i:=x.i)
 refine ⟨kpS s x.i, .inr (.inr (.inr (.inr (.inr (.inr (.inl ⟨hk,rfl,rfl,rfl⟩)))))), .inr (.inr (.inr ⟨fun hh=>by omega,rfl⟩)),h2,?_⟩
 unfold kpS kpKc
 by_cases h1:0<x.i/\¬thr s.c x.i
 . rw [if_pos h1,if_pos (show 0<x.i/\¬there s x.i from h1)]
 . rw [if_neg h1,if_neg (show ¬(0<x.i/\¬there s x.i) from h1)]
theorem both_no (hk:x.kd<0\/5<x.kd):Both s x t f 0 0 s.held s.kept f:=⟨s, .inr (.inr (.inr (.inr (.inr (.inr (.inr ⟨hk,rfl,rfl,rfl⟩)))))), .inr (.inr (.inr ⟨fun hh=>by omega,rfl⟩)),rfl,rfl⟩
def costR (x:Ac) (kp:Nat):Nat:=if x.kd=5 then (if x.i=kp then 0 else 1) else 0
def costW (c:Cfg) (x:Ac) (kp:Nat):Nat:=if x.kd=0\/x.kd=1\/x.kd=2 then 1 else if x.kd=5 then (if x.i=kp then 0 else 1) else if x.kd=6 then c.frames.toNat else 0
end
end Sh
end Go.Proofs.YtjpjjnalpdpljaaGreatDoor
namespace Go.Proofs.YtjpjjnalpdpljaaGreatDoor
open Go.RowKit
namespace Sh
open Mem No Bt Po
open Ca (upF Few)
theorem act_cells {w:World} {g:Nat} {kd:Int} {i:Nat} {n:Nd} {a:At} (hx:BoxAt 45 w g (acCs ⟨kd,i,n,a⟩).toArray):w.cell? ⟨g,0,none⟩=some (.int .i64 kd)/\w.cell? ⟨g,1,none⟩=some (.int .u32 (i:Int))/\w.cell? ⟨g,2,none⟩=some (.int .i64 n.lv)/\w.cell? ⟨g,3,none⟩=some (.slice a.kA n.kids.length a.kc)/\w.cell? ⟨g,4,none⟩=some (.slice a.pA n.piv.length a.pc)/\w.cell? ⟨g,5,none⟩=some (.slice a.bA n.buf.length a.bc)/\w.cell? ⟨g,6,none⟩=some (.slice a.qA n.prs.length a.qc):=⟨hx.cell rfl,hx.cell rfl,hx.cell rfl,hx.cell rfl,hx.cell rfl,hx.cell rfl,hx.cell rfl⟩
def StepP (W w w':World) (F:List Nat) (z:Ad) (s:Ds) (x:Ac) (t:Bool) (f:Nat->List UInt8) (K r u:Nat) (e:Ending):Prop:=∃(k:Nat) (E:Int) (tb':List Bool) (kp':Nat) (f':Nat->List UInt8),e= .returned (.tuple #[.int .u32 (k:Int), .int .i64 E])/\Both s x t f k E tb' kp' f'/\Out W w w' F z s.c tb' kp' (kpF kp') f' (K+64) r u (costR x s.kept) (costW s.c x s.kept)
section
variable {W w w1:World} {F:List Nat} {z:Ad} {s:Ds} {t:Bool} {f:Nat->List UInt8} {K r u:Nat}
theorem out_first {c:Cfg} {tb:List Bool} {kp:Nat} {P:Nat->Nat} {K' R S R' S':Nat} {w2:World} (hb:Below w.heap.size w w1) (h:Out W w1 w2 F z c tb kp P f K' r u R S) (hK:K'<=K) (hR:R<=R') (hS:S<=S'):Out W w w2 F z c tb kp P f K r u R' S':=by
 obtain ⟨F',r',s',h1,h2,h3,h4⟩:=h
 exact ⟨F',r',s',h1.mono hK,(Mv.below z F hb).trans h2,by omega,by omega⟩
theorem step_c (h:Sv W w F z s.c s.held s.kept (kpF s.kept) f K r u) (hc:Okc s.c) (hT:Tab W) (hK:K<=900000) (x:Ac) (hi:x.i<4294967296) (hn:NdA w x.n x.a) (hr:t=true↔RightA s.c x.n):Calls Tryz.prog 13 #[.pointer (some ⟨z.p,0,none⟩), .agg (acCs x).toArray] w fun e w'=>StepP W w w' F z s x t f K r u e:=by
 obtain ⟨kd,i,n,a⟩:=x
 have hb1:Below w.heap.size w (w.alloc (.cells (acCs ⟨kd,i,n,a⟩).toArray 45)):=(Below.refl _ _).alloc (Nat.le_refl _) _
 have hx:=BoxAt.new 45 w (acCs ⟨kd,i,n,a⟩).toArray
 have h1:=h.kept hT hb1
 have hn1:=hn.kept hb1
 clear h hn
 simp only at hi hr hn1
 go_enter Tryz.func13,Tryz.ntmps13
 go_upto_region 1 with fail
 generalize w.alloc (.cells (acCs ⟨kd,i,n,a⟩).toArray 45)=w1 at*
 obtain ⟨g,hg⟩:∃g,g=w.heap.size:=⟨_,rfl⟩
 rw [<-hg] at hx
 simp only [<-hg]
 have HB:=Lib.hid hb1
 obtain ⟨d0,d1,d2,d3,d4,d5,d6⟩:=act_cells hx
 clear hx hb1 hg
 by_cases k0:kd=0
 . subst k0
   have cX:=Lib.hid (Save_c h1 hc hT hK i hn1 t hr)
   have HBo:=Lib.hid (both_sv (s:=s) (x:=⟨0,i,n,a⟩) (t:=t) (f:=f) (.inl rfl))
   clear h1 hn1 hr
   generalize (if thr s.c i then (if t=true then (0:Int) else 3) else 4)=E at*
   go_wp2_with (go_at_call 35;refine cX.out.mono ?_;rintro e w2 ⟨rfl,ho⟩;have HO:=Lib.hid ho;clear ho cX d0 d1 d2 d3 d4 d5 d6)
   exact bodyPost_ret (v:= .tuple #[.int .u32 ((0:Nat):Int), .int .i64 E]) (by simp [results,Tryz.results13,go_sem]) rfl ⟨0,E,_,_,_,rfl,HBo.out,out_first HB.out HO.out (by omega) (by simp [costR]) (by simp [costW])⟩
 by_cases k1:kd=1
 . subst k1
   have cX:=Lib.hid (Save_c h1 hc hT hK i hn1 t hr)
   have HBo:=Lib.hid (both_sv (s:=s) (x:=⟨1,i,n,a⟩) (t:=t) (f:=f) (.inr rfl))
   clear h1 hn1 hr
   generalize (if thr s.c i then (if t=true then (0:Int) else 3) else 4)=E at*
   go_wp2_with (go_at_call 35;refine cX.out.mono ?_;rintro e w2 ⟨rfl,ho⟩;have HO:=Lib.hid ho;clear ho cX d0 d1 d2 d3 d4 d5 d6)
   exact bodyPost_ret (v:= .tuple #[.int .u32 ((0:Nat):Int), .int .i64 E]) (by simp [results,Tryz.results13,go_sem]) rfl ⟨0,E,_,_,_,rfl,HBo.out,out_first HB.out HO.out (by omega) (by simp [costR]) (by simp [costW])⟩
 by_cases k2:kd=2
 . subst k2
   have cX:=Lib.hid (Make_c h1 hc hT hK hn1 t hr)
   clear h1 hn1 hr
   go_wp2_with (go_at_call 34;refine cX.out.mono ?_;rintro e w2 ⟨k,E,tb',f',rfl,hm,ho⟩;have HM:=Lib.hid hm;have HO:=Lib.hid ho;clear ho hm cX d0 d1 d2 d3 d4 d5 d6)
   exact bodyPost_ret (v:= .tuple #[.int .u32 (k:Int), .int .i64 E]) (by simp [results,Tryz.results13,go_sem]) rfl ⟨k,E,tb',s.kept,f',rfl,both_mk (x:=⟨2,i,n,a⟩) rfl HM.out,out_first HB.out HO.out (by omega) (by simp [costR]) (by simp [costW])⟩
 by_cases k3:kd=3
 . subst k3
   have cX:=Lib.hid (Free_c h1 hc hT i hi)
   clear h1 hn1 hr
   go_wp2_with (go_at_call 36;refine cX.out.mono ?_;rintro e w2 ⟨rfl,tb',f',hm,ho⟩;have HM:=Lib.hid hm;have HO:=Lib.hid ho;clear ho hm cX d0 d1 d2 d3 d4 d5 d6)
   exact bodyPost_ret (v:= .tuple #[.int .u32 ((0:Nat):Int), .int .i64 (frEc s.c s.held s.kept i)]) (by simp [results,Tryz.results13,go_sem]) rfl ⟨0,_,tb',s.kept,f',rfl,both_fr (x:=⟨3,i,n,a⟩) rfl HM.out,out_first HB.out HO.out (by omega) (by simp [costR]) (by simp [costW])⟩
 by_cases k4:kd=4
 . subst k4
   have cX:=Lib.hid (Mark_c h1 hc hT i hi)
   have HBo:=Lib.hid (both_mr (s:=s) (x:=⟨4,i,n,a⟩) (t:=t) (f:=f) rfl)
   clear h1 hn1 hr
   generalize (if thr s.c i then setE s.held (i:Int) else 4)=E at*
   go_wp2_with (go_at_call 37;refine cX.out.mono ?_;rintro e w2 ⟨rfl,ho⟩;have HO:=Lib.hid ho;clear ho cX d0 d1 d2 d3 d4 d5 d6)
   exact bodyPost_ret (v:= .tuple #[.int .u32 ((0:Nat):Int), .int .i64 E]) (by simp [results,Tryz.results13,go_sem]) rfl ⟨0,E,_,_,_,rfl,HBo.out,out_first HB.out HO.out (by omega) (by simp [costR]) (by simp [costW])⟩
 by_cases k5:kd=5
 . subst k5
   have cX:=Lib.hid (Keep_c h1 hc hT hK i hi)
   have HBo:=Lib.hid (both_kp (s:=s) (x:=⟨5,i,n,a⟩) (t:=t) (f:=f) rfl)
   clear h1 hn1 hr
   generalize kpEc s.c i=E at*
   go_wp2_with (go_at_call 38;refine cX.out.mono ?_;rintro e w2 ⟨rfl,ho⟩;have HO:=Lib.hid ho;clear ho cX d0 d1 d2 d3 d4 d5 d6)
   exact bodyPost_ret (v:= .tuple #[.int .u32 ((0:Nat):Int), .int .i64 E]) (by simp [results,Tryz.results13,go_sem]) rfl ⟨0,E,_,_,_,rfl,HBo.out,out_first HB.out HO.out (by omega) (by simp [costR]) (by simp [costW])⟩
 by_cases k6:kd=6
 . subst k6
   have cX:=Lib.hid (Flush_c h1 hT hK)
   clear h1 hn1 hr
   go_wp2_with (go_at_call 26;refine cX.out.mono ?_;rintro e w2 ⟨rfl,ho,-⟩;have HO:=Lib.hid ho;clear ho cX d0 d1 d2 d3 d4 d5 d6)
   exact bodyPost_ret (v:= .tuple #[.int .u32 ((0:Nat):Int), .int .i64 0]) (by simp [results,Tryz.results13,go_sem]) rfl ⟨0,0,s.held,s.kept,f,rfl,both_no (x:=⟨6,i,n,a⟩) (.inr (by show (5:Int)<6;decide)),out_first HB.out HO.out (by omega) (by simp [costR]) (by simp [costW])⟩
 have HS:=Lib.hid h1
 have hk:kd<0\/5<kd:=by omega
 clear h1 hn1 hr
 go_wp2_with fail
 exact bodyPost_ret (v:= .tuple #[.int .u32 ((0:Nat):Int), .int .i64 0]) (by simp [results,Tryz.results13,go_sem]) rfl ⟨0,0,s.held,s.kept,f,rfl,both_no (x:=⟨kd,i,n,a⟩) hk,out_first HB.out (Out.same HS.out hT (Below.refl _ _) 0 0) (by omega) (Nat.zero_le _) (Nat.zero_le _)⟩
end
end Sh
end Go.Proofs.YtjpjjnalpdpljaaGreatDoor
namespace Go.Proofs.YtjpjjnalpdpljaaGreatDoor
open Go.RowKit
namespace Sh
open Mem No Bt Po
def NoS (v:Value) (w:World):Prop:=∀w',Below w.heap.size w w'->Calls Tryz.prog 55 #[v] w' fun e w2=>e= .returned (.bool false)/\w'=w2
theorem NoS.kept {v:Value} {w w':World} (h:NoS v w) (hb:Below w.heap.size w w'):NoS v w':=fun w2 hb2=>h w2 (hb.trans (hb2.mono hb.size))
theorem NoS.nil (w:World):NoS (.pointer none) w:=fun w' _=>by
 go_enter Tryz.func55,Tryz.ntmps55
 go_wp2
 go_ret
 exact ⟨rfl,rfl⟩
theorem NoS.zero {w:World} {g:Nat} (h:w.cell? ⟨g,8,none⟩=some (.pointer none)) (hg:g<w.heap.size):NoS (.pointer (some ⟨g,0,none⟩)) w:=fun w' hb=>by
 have c8:w'.cell? ⟨g,8,none⟩=some (.pointer none):=by
  rw [<-h]
  simp [World.cell?,hb.block g hg]
 clear h hb
 go_enter Tryz.func55,Tryz.ntmps55
 go_wp2
 go_ret
 exact ⟨rfl,rfl⟩
section
variable {v:Value} {w:World} (h:NoS v w)
include h
theorem place_n (i:Nat):Calls Tryz.prog 46 #[v, .int .u32 (i:Int)] w fun e w'=>e= .returned (.int .i64 1)/\w=w':=by
 have cM:=Lib.hid (h w (Below.refl _ _))
 clear h
 go_enter Tryz.func46,Tryz.ntmps46
 go_wp2_with (go_at_call 55;refine cM.out.mono ?_;rintro e w' ⟨rfl,rfl⟩)
 go_ret
 exact ⟨rfl,rfl⟩
theorem Free_n (i:Nat):Calls Tryz.prog 36 #[v, .int .u32 (i:Int)] w fun e w'=>e= .returned (.int .i64 1)/\w=w':=by
 have cM:=Lib.hid (place_n h i)
 clear h
 go_enter Tryz.func36,Tryz.ntmps36
 go_wp2_with (go_at_call 46;refine cM.out.mono ?_;rintro e w' ⟨rfl,rfl⟩)
 go_ret
 exact ⟨rfl,rfl⟩
theorem Mark_n (i:Nat):Calls Tryz.prog 37 #[v, .int .u32 (i:Int)] w fun e w'=>e= .returned (.int .i64 1)/\w=w':=by
 have cM:=Lib.hid (place_n h i)
 clear h
 go_enter Tryz.func37,Tryz.ntmps37
 go_wp2_with (go_at_call 46;refine cM.out.mono ?_;rintro e w' ⟨rfl,rfl⟩)
 go_ret
 exact ⟨rfl,rfl⟩
theorem Keep_n (i:Nat):Calls Tryz.prog 38 #[v, .int .u32 (i:Int)] w fun e w'=>e= .returned (.int .i64 1)/\w=w':=by
 have cM:=Lib.hid (h w (Below.refl _ _))
 clear h
 go_enter Tryz.func38,Tryz.ntmps38
 go_wp2_with (go_at_call 55;refine cM.out.mono ?_;rintro e w' ⟨rfl,rfl⟩)
 go_ret
 exact ⟨rfl,rfl⟩
theorem Flush_n:Calls Tryz.prog 26 #[v] w fun e w'=>e= .returned (.int .i64 1)/\w=w':=by
 have cM:=Lib.hid (h w (Below.refl _ _))
 clear h
 go_enter Tryz.func26,Tryz.ntmps26
 go_wp2_with (go_at_call 55;refine cM.out.mono ?_;rintro e w' ⟨rfl,rfl⟩)
 go_ret
 exact ⟨rfl,rfl⟩
theorem Left_n:Calls Tryz.prog 17 #[v] w fun e w'=>e= .returned (.int .i64 0)/\w=w':=by
 have cM:=Lib.hid (h w (Below.refl _ _))
 clear h
 go_enter Tryz.func17,Tryz.ntmps17
 go_wp2_with (go_at_call 55;refine cM.out.mono ?_;rintro e w' ⟨rfl,rfl⟩)
 go_ret
 exact ⟨rfl,rfl⟩
theorem Has_n (i:Nat):Calls Tryz.prog 22 #[v, .int .u32 (i:Int)] w fun e w'=>e= .returned (.bool false)/\w=w':=by
 have cM:=Lib.hid (h w (Below.refl _ _))
 clear h
 go_enter Tryz.func22,Tryz.ntmps22
 go_wp2_with (go_at_call 55;refine cM.out.mono ?_;rintro e w' ⟨rfl,rfl⟩)
 go_ret
 exact ⟨rfl,rfl⟩
theorem Held_n:Calls Tryz.prog 20 #[v] w fun e w'=>e= .returned (.slice none 0 0)/\w=w':=by
 have cM:=Lib.hid (h w (Below.refl _ _))
 clear h
 go_enter Tryz.func20,Tryz.ntmps20
 go_wp2_with (go_at_call 55;refine cM.out.mono ?_;rintro e w' ⟨rfl,rfl⟩)
 go_ret
 exact ⟨rfl,rfl⟩
theorem Load_n (i:Nat):Calls Tryz.prog 14 #[v, .int .u32 (i:Int)] w fun e w'=>e= .returned (.tuple #[.agg (ndCs nilN ⟨none,0,none,0,none,0,none,0⟩), .int .i64 1])/\Below w.heap.size w w':=by
 have hb1:Below w.heap.size w (w.alloc (.cells #[.int .i64 0, .slice none 0 0, .slice none 0 0, .slice none 0 0, .slice none 0 0] 43)):=(Below.refl _ _).alloc (Nat.le_refl _) _
 have hx:=BoxAt.new 43 w #[.int .i64 0, .slice none 0 0, .slice none 0 0, .slice none 0 0, .slice none 0 0]
 have cM:=Lib.hid (place_n (h.kept hb1) i)
 clear h
 go_enter Tryz.func14,Tryz.ntmps14
 go_upto_region 1 with fail
 generalize w.alloc (.cells #[.int .i64 0, .slice none 0 0, .slice none 0 0, .slice none 0 0, .slice none 0 0] 43)=w1 at*
 have HX:=Lib.hid hx
 have HB:=Lib.hid hb1
 clear hx hb1
 go_wp2_with (first
  |(go_at_call 46;refine cM.out.mono ?_;rintro e w' ⟨rfl,rfl⟩)
  |(refine wpList_store_box rfl (.tmp 4) (.tmp 14) 43 rfl rfl w.heap.size #[.int .i64 0, .slice none 0 0, .slice none 0 0, .slice none 0 0, .slice none 0 0] (ndCs nilN ⟨none,0,none,0,none,0,none,0⟩) (nodS rfl) rfl (nd_one _ _) rfl rfl HX.out ?_;intro w3 HZ hi;have HI:=Lib.hid hi;clear hi))
 have hl:=run_var_box (P:=Tryz.prog) nodU (nodS (C:=(ndCs nilN ⟨none,0,none,0,none,0,none,0⟩)) rfl) HZ.out
 refine bodyPost_ret (v:= .tuple #[.agg (ndCs nilN ⟨none,0,none,0,none,0,none,0⟩), .int .i64 1]) (by simp [results,Tryz.results14,asAddr,hl]) rfl ⟨rfl,?_⟩
 have hb:=HB.out
 have hi:=HI.out
 exact hb.trans ⟨hi.os,hi.tape,hi.output,hi.size,fun k hk=>hi.block k (Nat.lt_of_lt_of_le hk hb.size) (by simp only [List.mem_singleton];omega)⟩
theorem Config_n:Calls Tryz.prog 23 #[v] w fun e w'=>e= .returned (.agg (cfCs ⟨0,0,0,0,0,0,0,0⟩))/\Below w.heap.size w w':=by
 have hb1:Below w.heap.size w (w.alloc (.cells #[.int .i64 0, .int .i64 0, .int .i64 0, .int .i64 0, .int .i64 0, .int .i64 0, .int .i64 0, .int .i64 0] 23)):=(Below.refl _ _).alloc (Nat.le_refl _) _
 have hx:=BoxAt.new 23 w #[.int .i64 0, .int .i64 0, .int .i64 0, .int .i64 0, .int .i64 0, .int .i64 0, .int .i64 0, .int .i64 0]
 have cM:=Lib.hid (h _ hb1)
 clear h
 go_enter Tryz.func23,Tryz.ntmps23
 go_upto_region 1 with fail
 generalize w.alloc (.cells #[.int .i64 0, .int .i64 0, .int .i64 0, .int .i64 0, .int .i64 0, .int .i64 0, .int .i64 0, .int .i64 0] 23)=w1 at*
 have HX:=Lib.hid hx
 have HB:=Lib.hid hb1
 clear hx hb1
 go_wp2_with (first
  |(go_at_call 55;refine cM.out.mono ?_;rintro e w' ⟨rfl,rfl⟩)
  |(refine wpList_store_box rfl (.tmp 2) (.tmp 6) 23 rfl rfl w.heap.size #[.int .i64 0, .int .i64 0, .int .i64 0, .int .i64 0, .int .i64 0, .int .i64 0, .int .i64 0, .int .i64 0] (cfCs ⟨0,0,0,0,0,0,0,0⟩) (cfgS rfl) rfl (cfg_one _) rfl rfl HX.out ?_;intro w3 HZ hi;have HI:=Lib.hid hi;clear hi))
 have hl:=run_var_box (P:=Tryz.prog) cfgU (cfgS (C:=(cfCs ⟨0,0,0,0,0,0,0,0⟩)) rfl) HZ.out
 refine bodyPost_ret (v:= .agg (cfCs ⟨0,0,0,0,0,0,0,0⟩)) (by simp [results,Tryz.results23,asAddr,hl]) rfl ⟨rfl,?_⟩
 have hb:=HB.out
 have hi:=HI.out
 exact hb.trans ⟨hi.os,hi.tape,hi.output,hi.size,fun k hk=>hi.block k (Nat.lt_of_lt_of_le hk hb.size) (by simp only [List.mem_singleton];omega)⟩
theorem Stats_n:Calls Tryz.prog 24 #[v] w fun e w'=>e= .returned (.agg #[.int .u64 0, .int .u64 0])/\Below w.heap.size w w':=by
 have hb1:Below w.heap.size w (w.alloc (.cells #[.int .u64 0, .int .u64 0] 65)):=(Below.refl _ _).alloc (Nat.le_refl _) _
 have hx:=BoxAt.new 65 w #[.int .u64 0, .int .u64 0]
 have cM:=Lib.hid (h _ hb1)
 clear h
 go_enter Tryz.func24,Tryz.ntmps24
 go_upto_region 1 with fail
 generalize w.alloc (.cells #[.int .u64 0, .int .u64 0] 65)=w1 at*
 have HX:=Lib.hid hx
 have HB:=Lib.hid hb1
 clear hx hb1
 go_wp2_with (first
  |(go_at_call 55;refine cM.out.mono ?_;rintro e w' ⟨rfl,rfl⟩)
  |(refine wpList_store_box rfl (.tmp 2) (.tmp 6) 65 rfl rfl w.heap.size #[.int .u64 0, .int .u64 0] #[.int .u64 0, .int .u64 0] staS rfl (by simp [Value.oneCell']) rfl rfl HX.out ?_;intro w3 HZ hi;have HI:=Lib.hid hi;clear hi))
 have hl:=run_var_box (P:=Tryz.prog) staU staS HZ.out
 refine bodyPost_ret (v:= .agg #[.int .u64 0, .int .u64 0]) (by simp [results,Tryz.results24,asAddr,hl]) rfl ⟨rfl,?_⟩
 have hb:=HB.out
 have hi:=HI.out
 exact hb.trans ⟨hi.os,hi.tape,hi.output,hi.size,fun k hk=>hi.block k (Nat.lt_of_lt_of_le hk hb.size) (by simp only [List.mem_singleton];omega)⟩
theorem Save_n (i:Nat) (n:Nd) (a:At):Calls Tryz.prog 35 #[v, .int .u32 (i:Int), .agg (ndCs n a)] w fun e w'=>e= .returned (.int .i64 1)/\Below w.heap.size w w':=by
 have hb1:Below w.heap.size w (w.alloc (.cells (ndCs n a) 43)):=(Below.refl _ _).alloc (Nat.le_refl _) _
 have hx:=BoxAt.new 43 w (ndCs n a)
 have cM:=Lib.hid (place_n (h.kept hb1) i)
 clear h
 go_enter Tryz.func35,Tryz.ntmps35
 go_upto_region 1 with fail
 generalize w.alloc (.cells (ndCs n a) 43)=w1 at*
 have HX:=Lib.hid hx
 have HB:=Lib.hid hb1
 clear hx hb1
 go_wp2_with (go_at_call 46;refine cM.out.mono ?_;rintro e w' ⟨rfl,rfl⟩)
 go_ret
 exact ⟨rfl,HB.out⟩
theorem Make_n (n:Nd) (a:At):Calls Tryz.prog 34 #[v, .agg (ndCs n a)] w fun e w'=>e= .returned (.tuple #[.int .u32 0, .int .i64 1])/\Below w.heap.size w w':=by
 have hb1:Below w.heap.size w (w.alloc (.cells (ndCs n a) 43)):=(Below.refl _ _).alloc (Nat.le_refl _) _
 have hx:=BoxAt.new 43 w (ndCs n a)
 have cM:=Lib.hid (h _ hb1)
 clear h
 go_enter Tryz.func34,Tryz.ntmps34
 go_upto_region 1 with fail
 generalize w.alloc (.cells (ndCs n a) 43)=w1 at*
 have HX:=Lib.hid hx
 have HB:=Lib.hid hb1
 clear hx hb1
 go_wp2_with (go_at_call 55;refine cM.out.mono ?_;rintro e w' ⟨rfl,rfl⟩)
 exact bodyPost_ret (v:= .tuple #[.int .u32 0, .int .i64 1]) (by simp [results,Tryz.results34,go_sem]) rfl ⟨rfl,HB.out⟩
end
end Sh
end Go.Proofs.YtjpjjnalpdpljaaGreatDoor
