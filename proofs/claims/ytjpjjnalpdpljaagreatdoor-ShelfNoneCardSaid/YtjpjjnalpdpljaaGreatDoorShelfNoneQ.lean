import Derived.Test.YtjpjjnalpdpljaaGreatDoorPkBO
import Derived.Test.YtjpjjnalpdpljaaGreatDoorPkBP
import Derived.Test.YtjpjjnalpdpljaaGreatDoorPkAE
import Derived.Test.YtjpjjnalpdpljaaGreatDoorPqConfR
import Derived.Test.YtjpjjnalpdpljaaGreatDoorPkAH
import Derived.Test.YtjpjjnalpdpljaaGreatDoorRows
import Derived.Test.YtjpjjnalpdpljaaGreatDoorPkAW
import Derived.Test.YtjpjjnalpdpljaaGreatDoorPkAD
import Derived.SizedLaws
import Derived.LaidMore
import Derived.Stop.Joined
import Derived.Lib.SmallJoins
import Derived.Test.YtjpjjnalpdpljaaGreatDoorCards
import Derived.Test.YtjpjjnalpdpljaaGreatDoorTie
import Derived.SevenTiedAt
set_option maxHeartbeats 4000000
set_option maxRecDepth 100000
namespace Go.Proofs.YtjpjjnalpdpljaaGreatDoor
open Go.RowKit
namespace Sh
open Mem No Bt Po
def NewP (c:Cfg) (n m:Nat) (v:Value) (f:Int):Prop:=(v= .pointer none/\f=3/\¬((n:Int)=c.blocks/\(m:Int)=c.bytes))\/((∃p,v= .pointer (some p))/\f=0/\(n:Int)=c.blocks/\(m:Int)=c.bytes)
theorem New_any {W w:World} {c:Cfg} {S:List Nat} {g n m:Nat} (hc:Cf.Right c.blocks c.bytes c.frames c.fan c.buffer c.leaf c.key c.val) (hT:Tab W) (hW:Below W.heap.size W w) (hd:Dv.Dev w S g m (List.replicate n (List.replicate m 0)) 0 0) (hS:∀x,x∈S->W.heap.size<=x) (hm:m<=3000):Calls Tryz.prog 30 #[.agg (cfCs c), .pointer (some ⟨g,0,none⟩)] w fun e w'=>(∃v f,e= .returned (.tuple #[v, .int .i64 f])/\NewP c n m v f)/\Below w.heap.size w w':=by
 have hl:((List.replicate n (List.replicate m (0:UInt8))).length:Int)=(n:Int):=by rw [List.length_replicate]
 by_cases h:(n:Int)=c.blocks/\(m:Int)=c.bytes
 . have ok:Okc c:=⟨hc,by omega,hc.2.1.2⟩
   exact (New_c (K:=0) ok hT hW hd (hl.trans h.1) h.2 hS ⟨Nat.le_refl _,Nat.le_refl _⟩).mono fun e w' ⟨⟨F,z,he,_⟩,hb⟩=>⟨⟨_,_,he, .inr ⟨⟨_,rfl⟩,rfl,h⟩⟩,hb⟩
 . exact (New_form hc hd (fun hh=>h ⟨hl.symm.trans hh.1,hh.2⟩)).mono fun e w' ⟨he,hb⟩=>⟨⟨_,_,he, .inl ⟨rfl,rfl,h⟩⟩,hb⟩
structure Lp (W wr:World) (a0 gl:Nat) (n:Nd) (a:At):Prop where
 bel:Below W.heap.size W wr
 nd:BoxAt 43 wr (a0+1) (ndCs n a)
 lt:gl<wr.heap.size
 row:∀k,k<2->∃v,wr.cell? ⟨gl,k,none⟩=some v/\NoS v wr
theorem Lp.kept {W wr w':World} {a0 gl:Nat} {n:Nd} {a:At} (h:Lp W wr a0 gl n a) (hb:Below wr.heap.size wr w'):Lp W w' a0 gl n a:=⟨h.bel.trans (hb.mono h.bel.size),h.nd.kept hb,Nat.lt_of_lt_of_le h.lt hb.size,fun k hk=>by
 obtain ⟨v,h1,h2⟩:=h.row k hk
 refine ⟨v,?_,h2.kept hb⟩
 rw [<-h1]
 simp [World.cell?,hb.block gl h.lt]⟩
theorem lp_new {W wc:World} {a0:Nat} {n:Nd} {a:At} (hB:Below W.heap.size W wc) (hy:BoxAt 43 wc (a0+1) (ndCs n a)):Lp W ((wc.alloc (.cells #[.int .i64 0, .int .i64 0, .int .i64 0, .int .i64 0, .int .i64 0, .int .i64 0, .int .i64 0, .int .i64 0, .pointer none, .pointer none, .pointer none, .int .u32 0] 83)).alloc (.cells #[.pointer none, .pointer (some ⟨wc.heap.size,0,none⟩)] 28)) a0 (wc.heap.size+1) n a:=by
 have h1:Below wc.heap.size wc ((wc.alloc (.cells #[.int .i64 0, .int .i64 0, .int .i64 0, .int .i64 0, .int .i64 0, .int .i64 0, .int .i64 0, .int .i64 0, .pointer none, .pointer none, .pointer none, .int .u32 0] 83)).alloc (.cells #[.pointer none, .pointer (some ⟨wc.heap.size,0,none⟩)] 28)):=((Below.refl _ _).alloc (Nat.le_refl _) _).alloc (by simp) _
 have h2:=BoxAt.new 28 (wc.alloc (.cells #[.int .i64 0, .int .i64 0, .int .i64 0, .int .i64 0, .int .i64 0, .int .i64 0, .int .i64 0, .int .i64 0, .pointer none, .pointer none, .pointer none, .int .u32 0] 83)) #[.pointer none, .pointer (some ⟨wc.heap.size,0,none⟩)]
 have h3:=(BoxAt.new 83 wc #[.int .i64 0, .int .i64 0, .int .i64 0, .int .i64 0, .int .i64 0, .int .i64 0, .int .i64 0, .int .i64 0, .pointer none, .pointer none, .pointer none, .int .u32 0]).kept ((Below.refl _ _).alloc (Nat.le_refl _) (.cells #[.pointer none, .pointer (some ⟨wc.heap.size,0,none⟩)] 28))
 have hz:(wc.alloc (.cells #[.int .i64 0, .int .i64 0, .int .i64 0, .int .i64 0, .int .i64 0, .int .i64 0, .int .i64 0, .int .i64 0, .pointer none, .pointer none, .pointer none, .int .u32 0] 83)).heap.size=wc.heap.size+1:=by simp
 rw [hz] at h2
 refine ⟨hB.trans (h1.mono hB.size),hy.kept h1,h2.lt,fun k hk=>?_⟩
 match k,hk with
 |0,_=>exact ⟨_,h2.cell rfl,NoS.nil _⟩
 |1,_=>exact ⟨_,h2.cell rfl,NoS.zero (h3.cell rfl) h3.lt⟩
theorem ShelfNone_walk (cB cY cF cN cU cL cKy cV:Int) (bk by_ i:Nat) (n:Nd) (a:At) (W:World) (hbk:bk<256) (hby:by_<256) (_:i<4294967296) (hn:NdIn W n a) (hok:NdOk n) (hT:Tab W):Calls Tryz.prog 6 #[.agg #[.int .i64 cB, .int .i64 cY, .int .i64 cF, .int .i64 cN, .int .i64 cU, .int .i64 cL, .int .i64 cKy, .int .i64 cV], .int .u8 (bk:Int), .int .u8 (by_:Int), .int .u32 (i:Int), .agg (ndCs n a)] W fun e w'=>e= .returned (.bool true)/\Below W.heap.size W w':=by
 obtain ⟨c,hcf⟩:∃c,#[.int .i64 cB, .int .i64 cY, .int .i64 cF, .int .i64 cN, .int .i64 cU, .int .i64 cL, .int .i64 cKy, .int .i64 cV]=cfCs c:=⟨⟨cB,cY,cF,cN,cU,cL,cKy,cV⟩,rfl⟩
 rw [hcf]
 clear hcf
 have hb1:Below W.heap.size W ((W.alloc (.cells (cfCs c) 23)).alloc (.cells (ndCs n a) 43)):=((Below.refl _ _).alloc (Nat.le_refl _) _).alloc (by simp) _
 have hx:BoxAt 23 ((W.alloc (.cells (cfCs c) 23)).alloc (.cells (ndCs n a) 43)) W.heap.size (cfCs c):=(BoxAt.new 23 W (cfCs c)).kept ((Below.refl _ _).alloc (Nat.le_refl _) _)
 have hy:BoxAt 43 ((W.alloc (.cells (cfCs c) 23)).alloc (.cells (ndCs n a) 43)) (W.heap.size+1) (ndCs n a):=by
  have:=BoxAt.new 43 (W.alloc (.cells (cfCs c) 23)) (ndCs n a)
  simpa using this
 have cA:∀{w},Below W.heap.size W w->Hid (Calls Tryz.prog 8 #[] w fun e w'=>e= .returned (.bool true)/\Below w.heap.size w w'):=fun hb=>Awake_any _ (hT.below hb)
 obtain ⟨v,cG⟩:∃v,∀{w},Below W.heap.size W w->Hid (Calls Tryz.prog 11 #[.agg (ndCs n a)] w fun e w'=>e= .returned (.bool v)/\Below w.heap.size w w'):=by
  by_cases hf:Fit n
  . exact ⟨false,fun hb=>(Great_any (hn.kept hb) hok).mono fun e w' ⟨⟨v,he,hv⟩,hb⟩=>⟨by rw [he,hv.2 hf],hb⟩⟩
  . exact ⟨true,fun hb=>(Great_any (hn.kept hb) hok).mono fun e w' ⟨⟨v,he,hv⟩,hb⟩=>⟨by
     cases v with
     |true=>exact he
     |false=>exact absurd (hv.1 rfl) hf,hb⟩⟩
 go_enter Tryz.func6,Tryz.ntmps6
 go_upto_region 1 with fail
 generalize (W.alloc (.cells (cfCs c) 23)).alloc (.cells (ndCs n a) 43)=w1 at*
 obtain ⟨a0,ha0⟩:∃a0,a0=W.heap.size:=⟨_,rfl⟩
 rw [<-ha0] at hx hy
 simp only [<-ha0]
 have HX:=Lib.hid hx
 have HY:=Lib.hid hy
 have HB:=Lib.hid hb1
 clear hx hy hb1 ha0
 cases v with
 |true=>
  go_wp2_with (first
   |(refine wpList_load_box rfl (.tmp 9) 43 rfl nodU (a0+1) (ndCs n a) (nodS rfl) rfl HY.out ?_)
   |(go_at_call 11;refine (cG HB.out).out.mono ?_;rintro e w2 ⟨rfl,hb⟩;replace HB:=Lib.hid (HB.out.trans (hb.mono HB.out.size));clear hb cG)
   |(go_at_call 8;refine (cA HB.out).out.mono ?_;rintro e w3 ⟨rfl,hb⟩;replace HB:=Lib.hid (HB.out.trans (hb.mono HB.out.size));clear hb cA))
  go_ret
  exact ⟨rfl,HB.out⟩
 |false=>
  obtain ⟨q,hq,hq2⟩:∃q:Nat,q=bk % 20/\q<20:=⟨bk % 20,rfl,Nat.mod_lt _ (by omega)⟩
  have hmod:((bk:Int)).tmod 20=(q:Int):=by rw [hq];rfl
  have hw0:IntKind.i64.wrap (bk:Int)=(bk:Int):=by rw [IntKind.wrap_i64];omega
  have hw1:IntKind.i64.wrap (q:Int)=(q:Int):=by rw [IntKind.wrap_i64];omega
  have hw2:IntKind.i64.wrap (5+(q:Int))=((5+q:Nat):Int):=by rw [IntKind.wrap_i64];omega
  have hw3:IntKind.i64.wrap (by_:Int)=(by_:Int):=by rw [IntKind.wrap_i64];omega
  have hw4:IntKind.i64.wrap (1+(by_:Int))=((1+by_:Nat):Int):=by rw [IntKind.wrap_i64];omega
  obtain ⟨N,hN⟩:∃N,N=5+q:=⟨_,rfl⟩
  obtain ⟨M,hM⟩:∃M,M=1+by_:=⟨_,rfl⟩
  rw [<-hN] at hw2
  rw [<-hM] at hw4
  have hN1:5<=N/\N<=24:=by omega
  have hM1:1<=M/\M<=256:=by omega
  have cD:∀w,Hid (Calls Tryz.prog 29 #[.int .i64 (N:Int), .int .i64 (M:Int)] w fun e w'=>Dv.Made w w' M (List.replicate N (List.replicate M 0)) 0 0 e/\Below w.heap.size w w'):=fun w=>Dv.New_in N M w (by omega) (by omega) (by omega) (by omega)
  clear hN hM hq hbk hby
  go_upto_region 4 with (first
   |(refine wpList_load_box rfl (.tmp 9) 43 rfl nodU (a0+1) (ndCs n a) (nodS rfl) rfl HY.out ?_)
   |(go_at_call 11;refine (cG HB.out).out.mono ?_;rintro e w2 ⟨rfl,hb⟩;replace HB:=Lib.hid (HB.out.trans (hb.mono HB.out.size));replace HX:=Lib.hid (HX.out.kept hb);replace HY:=Lib.hid (HY.out.kept hb);clear hb cG)
   |(go_at_call 29;refine (cD _).out.mono ?_;rintro e w3 ⟨⟨g,S,rfl,hd,hS⟩,hb⟩;have HD:=Lib.hid hd;have HDS:=Lib.hid (And.intro hS (And.intro HB.out hb));replace HB:=Lib.hid (HB.out.trans (hb.mono HB.out.size));replace HX:=Lib.hid (HX.out.kept hb);replace HY:=Lib.hid (HY.out.kept hb);clear hd hb hS cD))
  clear hmod hw0 hw1 hw2 hw3 hw4 hq2
  by_cases hc:Cf.Right c.blocks c.bytes c.frames c.fan c.buffer c.leaf c.key c.val
  . have cN:=Lib.hid (New_any hc (hT.below HDS.out.2.1) HDS.out.2.2 HD.out HDS.out.1 (by omega))
    have cN0:=fun w=>Lib.hid (New_nil (w:=w) hc)
    have cR:∀w,Hid (Calls Tryz.prog 31 #[.agg (cfCs c)] w fun e w'=>e= .returned (.bool true)/\Below w.heap.size w w'):=fun w=>Cf.RRight_yes c.blocks c.bytes c.frames c.fan c.buffer c.leaf c.key c.val w hc
    clear hc HDS
    go_upto_region 10 with (first
     |(refine wpList_load_box rfl (.tmp 5) 23 rfl cfgU a0 (cfCs c) (cfgS rfl) rfl HX.out ?_)
     |(go_at_call 30;refine cN.out.mono ?_;rintro e w4 ⟨⟨sv,sf,rfl,hv⟩,hb⟩;have HV:=Lib.hid hv;replace HB:=Lib.hid (HB.out.trans (hb.mono HB.out.size));replace HX:=Lib.hid (HX.out.kept hb);replace HY:=Lib.hid (HY.out.kept hb);replace HD:=Lib.hid (HD.out.kept hb);clear hb hv cN)
     |(go_at_call 30;refine (cN0 _).out.mono ?_;rintro e w5 ⟨rfl,hb⟩;replace HB:=Lib.hid (HB.out.trans (hb.mono HB.out.size));replace HX:=Lib.hid (HX.out.kept hb);replace HY:=Lib.hid (HY.out.kept hb);replace HD:=Lib.hid (HD.out.kept hb);clear hb cN0)
     |(go_at_call 31;refine (cR _).out.mono ?_;rintro e w6 ⟨rfl,hb⟩;replace HB:=Lib.hid (HB.out.trans (hb.mono HB.out.size));replace HX:=Lib.hid (HX.out.kept hb);replace HY:=Lib.hid (HY.out.kept hb);replace HD:=Lib.hid (HD.out.kept hb);clear hb cR))
    go_cut [105] (fun b wx=>b= .bool false/\Hid (Below w6.heap.size w6 wx))
    case first=>
     have cB:∀{w},Dv.Dev w S g M (List.replicate N (List.replicate M 0)) 0 0->Hid (Calls Tryz.prog 32 #[.pointer (some ⟨g,0,none⟩)] w fun e w'=>e= .returned (.int .i64 (N:Int))/\Below w.heap.size w w'):=fun h=>by
      have:=Dv.Blocks_any h
      rw [List.length_replicate] at this
      exact this.mono fun e w' ⟨he,hw⟩=>⟨he,hw▸Below.refl _ _⟩
     have cY:∀{w},Dv.Dev w S g M (List.replicate N (List.replicate M 0)) 0 0->Hid (Calls Tryz.prog 33 #[.pointer (some ⟨g,0,none⟩)] w fun e w'=>e= .returned (.int .i64 (M:Int))/\Below w.heap.size w w'):=fun h=>(Dv.Bytes_any h).mono fun e w' ⟨he,hw⟩=>⟨he,hw▸Below.refl _ _⟩
     obtain ⟨d0,d1,-⟩:=cfg_cells HX.out
     have t0:=fun q:Drift.Tide [] w6 []=>Drift.Tide.cell d0 (by simp) q
     have t1:=fun q:Drift.Tide [] w6 []=>Drift.Tide.cell d1 (by simp) q
     clear d0 d1 cA
     have HV2:Hid ((∃bN bM:Bool,((N:Int)==c.blocks)=bN/\((M:Int)==c.bytes)=bM/\((sv= .pointer none/\sf=3/\(bN&&bM)=false)\/((∃p,sv= .pointer (some p))/\sf=0/\bN=true/\bM=true)))):=by
      refine ⟨_,_,rfl,rfl,?_⟩
      rcases HV.out with ⟨h1,h2,h3⟩|⟨h1,h2,h3,h4⟩
      . exact .inl ⟨h1,h2,by simpa using h3⟩
      . exact .inr ⟨h1,h2,by simpa using h3,by simpa using h4⟩
     obtain ⟨bN,bM,eN,eM,hv⟩:=HV2.out
     clear HV HV2 hN1 hM1
     rcases hv with ⟨rfl,rfl,hb⟩|⟨⟨p,rfl⟩,rfl,rfl,rfl⟩
     case' inl=>
      cases bN
      case' true=>
       obtain rfl:bM=false:=by simpa using hb
       skip
      all_goals clear hb
     all_goals
      refine Drift.wp_region_drift [] [(0,[]),(1,[]),(2,[]),(3,[]),(4,[]),(5,[]),(6,[]),(7,[]),(8,[]),(9,[]),(10,[]),(11,[]),(12,[]),(13,[]),(14,[]),(15,[]),(16,[]),(17,[]),(18,[]),(19,[]),(20,[]),(21,[]),(22,[]),(23,[]),(24,[]),(25,[]),(26,[]),(27,[]),(28,[]),(29,[]),(30,[]),(31,[]),(32,[]),(33,[])] [] [] (by kernel_rfl) (by kernel_rfl) (by simp) ?_
      simp only [Drift.pick,Drift.opsAt,List.getElem?_toArray,List.getElem?_cons_zero,List.getElem?_cons_succ,List.cons_append,List.nil_append,List.filterMap_nil]
      repeat (refine Drift.walk_step (fun K hK=>?_);go_simp;first|(refine hK _ ?_;clear hK K)|(apply Exists.intro;refine ⟨fun q=>?_,hK _ ?_⟩;(first|(go_at_call 32;exact (cB (HD.out.kept q.into.below)).out)|(go_at_call 33;exact (cY (HD.out.kept q.into.below)).out));clear hK K))
      refine Drift.walk_nil ?_
      intro w7 hb7 _
      simp only [List.length_cons,List.length_nil,List.drop_succ_cons,List.drop_zero,Nat.zero_add,Nat.reduceAdd]
      go_wp2_with fail
      go_meet
      exact ⟨rfl,hb7⟩
    case rest=>
     obtain ⟨rfl,hbc⟩:=hcut
     replace HB:=Lib.hid (HB.out.trans (hbc.out.mono HB.out.size))
     replace HY:=Lib.hid (HY.out.kept hbc.out)
     clear hbc HV HD HX
     go_upto_region 14 with fail
     have h0:Lp W ((wc.alloc (.cells #[.int .i64 0, .int .i64 0, .int .i64 0, .int .i64 0, .int .i64 0, .int .i64 0, .int .i64 0, .int .i64 0, .pointer none, .pointer none, .pointer none, .int .u32 0] 83)).alloc (.cells #[.pointer none, .pointer (some ⟨wc.heap.size,0,none⟩)] 28)) a0 (wc.heap.size+1) n a:=lp_new HB.out HY.out
     generalize (wc.alloc (.cells #[.int .i64 0, .int .i64 0, .int .i64 0, .int .i64 0, .int .i64 0, .int .i64 0, .int .i64 0, .int .i64 0, .pointer none, .pointer none, .pointer none, .int .u32 0] 83)).alloc (.cells #[.pointer none, .pointer (some ⟨wc.heap.size,0,none⟩)] 28)=w8 at*
     obtain ⟨gl,hgl⟩:∃gl,gl=wc.heap.size+1:=⟨_,rfl⟩
     rw [<-hgl] at h0
     simp only [<-hgl]
     have H0:=Lib.hid h0
     clear h0 hgl HB HY
     go_wp2_with fail
     go_loopg [19] 2 (fun gk kv wr=>∃k:Nat,k<=2/\gk=2-k/\kv= .int .i64 (k:Int)/\Hid (Lp W wr a0 gl n a))
     case atStart=>exact ⟨0,by decide,rfl,rfl,H0⟩
     case round=>
      obtain ⟨k,hk,rfl,rfl,HL⟩:=hrel
      clear H0
      by_cases hlt:k<2
      . obtain ⟨v,hv,hns⟩:=HL.out.row k hlt
        have HS:=Lib.hid hns
        have HLt:=Lib.hid hlt
        have hk2:(k:Int)<2:=by omega
        clear hns hlt
        have cL:∀{w},NoS v w->Hid (Calls Tryz.prog 14 #[v, .int .u32 (i:Int)] w fun e w'=>e= .returned (.tuple #[.agg (ndCs nilN ⟨none,0,none,0,none,0,none,0⟩), .int .i64 1])/\Below w.heap.size w w'):=fun h=>Load_n h i
        have cM:∀{w},NoS v w->Hid (Calls Tryz.prog 34 #[v, .agg (ndCs n a)] w fun e w'=>e= .returned (.tuple #[.int .u32 0, .int .i64 1])/\Below w.heap.size w w'):=fun h=>Make_n h n a
        have cSa:∀{w},NoS v w->Hid (Calls Tryz.prog 35 #[v, .int .u32 (i:Int), .agg (ndCs n a)] w fun e w'=>e= .returned (.int .i64 1)/\Below w.heap.size w w'):=fun h=>Save_n h i n a
        have cFr:∀{w},NoS v w->Hid (Calls Tryz.prog 36 #[v, .int .u32 (i:Int)] w fun e w'=>e= .returned (.int .i64 1)/\w=w'):=fun h=>Free_n h i
        have cMa:∀{w},NoS v w->Hid (Calls Tryz.prog 37 #[v, .int .u32 (i:Int)] w fun e w'=>e= .returned (.int .i64 1)/\w=w'):=fun h=>Mark_n h i
        have cKe:∀{w},NoS v w->Hid (Calls Tryz.prog 38 #[v, .int .u32 (i:Int)] w fun e w'=>e= .returned (.int .i64 1)/\w=w'):=fun h=>Keep_n h i
        have cFl:∀{w},NoS v w->Hid (Calls Tryz.prog 26 #[v] w fun e w'=>e= .returned (.int .i64 1)/\w=w'):=fun h=>Flush_n h
        have cCo:∀{w},NoS v w->Hid (Calls Tryz.prog 23 #[v] w fun e w'=>e= .returned (.agg #[.int .i64 0, .int .i64 0, .int .i64 0, .int .i64 0, .int .i64 0, .int .i64 0, .int .i64 0, .int .i64 0])/\Below w.heap.size w w'):=fun h=>Config_n h
        have cLe:∀{w},NoS v w->Hid (Calls Tryz.prog 17 #[v] w fun e w'=>e= .returned (.int .i64 0)/\w=w'):=fun h=>Left_n h
        have cHa:∀{w},NoS v w->Hid (Calls Tryz.prog 22 #[v, .int .u32 (i:Int)] w fun e w'=>e= .returned (.bool false)/\w=w'):=fun h=>Has_n h i
        have cHe:∀{w},NoS v w->Hid (Calls Tryz.prog 20 #[v] w fun e w'=>e= .returned (.slice none 0 0)/\w=w'):=fun h=>Held_n h
        have cSt:∀{w},NoS v w->Hid (Calls Tryz.prog 24 #[v] w fun e w'=>e= .returned (.agg #[.int .u64 0, .int .u64 0])/\Below w.heap.size w w'):=fun h=>Stats_n h
        go_upto_region 19 with (first
         |(go_at_call 14;refine (cL HS.out).out.mono ?_;rintro e w9 ⟨rfl,hb⟩;have HS9:=Lib.hid (HS.out.kept hb);have HL9:=Lib.hid (HL.out.kept hb);clear hb cL hv HS HL)
         |(refine wpList_store_box rfl (.tmp 21) (.tmp 124) 43 rfl rfl w9.heap.size #[.int .i64 0, .slice none 0 0, .slice none 0 0, .slice none 0 0, .slice none 0 0] (ndCs nilN ⟨none,0,none,0,none,0,none,0⟩) (nodS rfl) rfl (nd_one _ _) rfl rfl (BoxAt.new _ _ _) ?_;intro w10 HZ hi;have hb10:=below_of rfl hi;clear hi HZ))
        have HS10:=Lib.hid (HS9.out.kept hb10)
        have HL10:=Lib.hid (HL9.out.kept hb10)
        clear HS9 HL9 hb10
        go_upto_region 20 with (first
         |(refine wpList_load_box rfl (.tmp 9) 43 rfl nodU (a0+1) (ndCs n a) (nodS rfl) rfl HL10.out.nd ?_)
         |(go_at_call 34;refine (cM HS10.out).out.mono ?_;rintro e w11 ⟨rfl,hb⟩;have HS11:=Lib.hid (HS10.out.kept hb);have HL11:=Lib.hid (HL10.out.kept hb);clear hb cM HS10 HL10))
        obtain ⟨e0,e1,e2,e3,e4⟩:=nod_cells HL11.out.nd
        have hwk:IntKind.i64.wrap ((k:Int)+1)=((k+1:Nat):Int):=by rw [IntKind.wrap_i64];omega
        go_wp2_with (first
         |(go_at_call 35;refine (cSa HS11.out).out.mono ?_;rintro e w12 ⟨rfl,hb⟩;have HS12:=Lib.hid (HS11.out.kept hb);have HL12:=Lib.hid (HL11.out.kept hb);clear hb cSa HS11 HL11 e0 e1 e2 e3 e4)
         |(go_at_call 36;refine (cFr HS12.out).out.mono ?_;rintro e w' ⟨rfl,rfl⟩)
         |(go_at_call 37;refine (cMa HS12.out).out.mono ?_;rintro e w' ⟨rfl,rfl⟩)
         |(go_at_call 38;refine (cKe HS12.out).out.mono ?_;rintro e w' ⟨rfl,rfl⟩)
         |(go_at_call 26;refine (cFl HS12.out).out.mono ?_;rintro e w' ⟨rfl,rfl⟩)
         |(go_at_call 23;refine (cCo HS12.out).out.mono ?_;rintro e w13 ⟨rfl,hb⟩;have HS13:=Lib.hid (HS12.out.kept hb);have HL13:=Lib.hid (HL12.out.kept hb);clear hb cCo HS12 HL12)
         |(go_at_call 17;refine (cLe HS13.out).out.mono ?_;rintro e w' ⟨rfl,rfl⟩)
         |(go_at_call 22;refine (cHa HS13.out).out.mono ?_;rintro e w' ⟨rfl,rfl⟩)
         |(go_at_call 20;refine (cHe HS13.out).out.mono ?_;rintro e w' ⟨rfl,rfl⟩)
         |(go_at_call 24;refine (cSt HS13.out).out.mono ?_;rintro e w14 ⟨rfl,hb⟩;have HL14:=Lib.hid (HL13.out.kept hb);clear hb cSt HS13 HL13))
        go_roundg (2-(k+1))
        case measure=>have:=HLt.out;omega
        case rel=>exact ⟨k+1,HLt.out,rfl,by go_num,HL14⟩
      . obtain rfl:k=2:=by omega
        clear hlt
        go_wp2_with (go_at_call 8;refine (cA HL.out.bel).out.mono ?_;rintro e w6 ⟨rfl,hb⟩;have HW6:=Lib.hid (HL.out.bel.trans (hb.mono HL.out.bel.size));clear hb cA)
        go_ret
        exact ⟨rfl,HW6.out⟩
  . have cN:∀w v,Hid (Calls Tryz.prog 30 #[.agg (cfCs c),v] w fun e w'=>e= .returned (.tuple #[.pointer none, .int .i64 2])/\Below w.heap.size w w'):=fun w v=>New_arg hc v
    have cR:∀w,Hid (Calls Tryz.prog 31 #[.agg (cfCs c)] w fun e w'=>e= .returned (.bool false)/\Below w.heap.size w w'):=fun w=>Cf.RRight_no c.blocks c.bytes c.frames c.fan c.buffer c.leaf c.key c.val w hc
    clear hc HD HY
    go_wp2_with (first
     |(refine wpList_load_box rfl (.tmp 5) 23 rfl cfgU a0 (cfCs c) (cfgS rfl) rfl HX.out ?_)
     |(go_at_call 30;refine (cN _ _).out.mono ?_;rintro e w4 ⟨rfl,hb⟩;replace HB:=Lib.hid (HB.out.trans (hb.mono HB.out.size));replace HX:=Lib.hid (HX.out.kept hb);clear hb)
     |(go_at_call 31;refine (cR _).out.mono ?_;rintro e w5 ⟨rfl,hb⟩;replace HB:=Lib.hid (HB.out.trans (hb.mono HB.out.size));clear hb cR)
     |(go_at_call 8;refine (cA HB.out).out.mono ?_;rintro e w6 ⟨rfl,hb⟩;replace HB:=Lib.hid (HB.out.trans (hb.mono HB.out.size));clear hb cA))
    go_ret
    exact ⟨rfl,HB.out⟩
end Sh
end Go.Proofs.YtjpjjnalpdpljaaGreatDoor
namespace Go.Proofs.YtjpjjnalpdpljaaGreatDoor.ShelfNone
open Go.ChangeShapes Go.WideShapes Go.ChangeAt Go.RowKit
open Go.ChangeMaps (open_string shut_string)
theorem own:ownKnob Tryz.prog.godebug=none:=by kernel_rfl
def laidL:List (String × DataW Unit):=[("math/bits.deBruijn64tab",Rows.laid_math_bits_deBruijn64tab)]
theorem contract (H:Type) (enc:TypeId × Value->H) (W:World) (base:Nat) (args:Array Value) (ds gs:List (DataW H)) (before:List MemPlace)
 (hval:∀(j:Nat) t v,Tryz.f6.params[j]? =some t->args[j]? =some v->Value.okWide Tryz.prog W .any base t v)
 (hW:DataW.Whole enc Tryz.prog Tryz.f6.params.toList Rows.shelfNoneSpec.vars false W args.toList ds gs before)
 (hsz:(DataW.weightsEach Tryz.prog (Tryz.f6.params.toList++Rows.shelfNoneSpec.plain.varTypes Tryz.prog) (ds++gs)).all (· <=reachBytes)=true) (hL:laidMetH Tryz.prog laidL W):
 Calls Tryz.prog 6 args W fun e W'=>∃v,e= .returned v/\Rows.shelfNoneSpec.post enc Tryz.prog Tryz.f6 false true false false W args v W':=by
 have hW':=hW
 obtain ⟨p,q,hA0,hV,rfl,hfz,hnd⟩:=hW
 have hA:DataW.TrodAll enc Tryz.prog W 0 (fun _=>true) true Tryz.f6.params.toList args.toList ds p:=hA0
 rw [Tryz.params6] at hA hval
 obtain ⟨v0,vs0,d0,ds0,p0,q0,hargs0,rfl,rfl,h0,r0⟩:=trodAll_cons hA
 obtain ⟨v1,vs1,d1,ds1,p1,q1,hargs1,rfl,rfl,h1,r1⟩:=trodAll_cons r0
 obtain ⟨v2,vs2,d2,ds2,p2,q2,hargs2,rfl,rfl,h2,r2⟩:=trodAll_cons r1
 obtain ⟨v3,vs3,d3,ds3,p3,q3,hargs3,rfl,rfl,h3,r3⟩:=trodAll_cons r2
 obtain ⟨v4,vs4,d4,ds4,p4,q4,hargs4,rfl,rfl,h4,r4⟩:=trodAll_cons r3
 obtain ⟨rfl,rfl,rfl⟩:=trodAll_nil r4
 obtain rfl:args= #[v0,v1,v2,v3,v4]:=by cases args;simp_all
 obtain ⟨rfl,rfl⟩:=trodVars_none hV
 obtain ⟨cB,cY,cF,cN,cU,cL,cKy,cV,rfl⟩:=Cf.open_cfg (hval 0 23 v0 rfl rfl) h0
 obtain ⟨zbk,rfl,rfl,rfl,mbk⟩:=open_int Tryz.underlying5 (hval 1 5 v1 rfl rfl) h1
 obtain ⟨bk,rfl,bbk⟩:=Args.nat_of_u8 mbk
 obtain ⟨zby_,rfl,rfl,rfl,mby_⟩:=open_int Tryz.underlying5 (hval 2 5 v2 rfl rfl) h2
 obtain ⟨by_,rfl,bby_⟩:=Args.nat_of_u8 mby_
 obtain ⟨zi,rfl,rfl,rfl,mi⟩:=open_int Tryz.underlying25 (hval 3 25 v3 rfl rfl) h3
 obtain ⟨i,rfl,bi⟩:=Args.nat_of_u32 mi
 have zn:∀n∈d4.weights Tryz.prog 43,n<=reachBytes:=fun n hn=>by
  have:=List.all_eq_true.1 hsz n (DataW.weights_mem_each (j:=4) (by rw [Tryz.params6];rfl) rfl n hn)
  simpa using this
 obtain ⟨n,An,rfl,hn,bn⟩:=No.open_node (hval 4 43 v4 rfl rfl) h4 zn
 clear hA0
 have hL':=Bt.tab_of_laid hL
 simp only [List.append_nil] at hW'
 refine (Sh.ShelfNone_walk cB cY cF cN cU cL cKy cV bk by_ i n An W bbk bby_ bi hn bn hL').mono fun e W' ⟨he,hg⟩=>?_
 subst he
 exact ⟨_,rfl,Post.law_post (by kernel_rfl) (by kernel_rfl) hW' rfl rfl rfl Tryz.underlying4 hg⟩
theorem door_met (os:Os) (args:Array Value):laidMetH Tryz.prog laidL ((World.doorLaid Tryz.prog 400 os).forCall (fun _ _=>0) ⟨#[],args,[]⟩).memory:=
 laidMet_of_run' 8 (by kernel_rfl) (by kernel_rfl)
theorem lifted (os:Os) (started:os.Started) (H:Type) (enc:TypeId × Value->H):
 ReturnsInHanded {} Tryz.checked os 6 .any (fun w args=>(Rows.shelfNoneSpec.pre enc Tryz.prog Tryz.f6 [] false w args/\laidMetH Tryz.prog laidL w)/\sizedMet enc Tryz.prog Tryz.f6 (OpenSpec.ofChange Rows.shelfNoneSpec) false w args)
  (Rows.shelfNoneSpec.post enc Tryz.prog Tryz.f6 false true false false):=by
 refine returnsInHanded_of_change_and (C:=Tryz.checked) (X:=fun w _=>laidMetH Tryz.prog laidL w) (fun _ _ _ hh h=>h.of_heap hh) own started (by kernel_rfl) Tryz.func6
  (ChangeSpec.witness_shaped (enc:=enc) (C:=Tryz.checked) (os:=os) (X:=fun w _=>laidMetH Tryz.prog laidL w) false (World.doorLaid Tryz.prog 400 os) #[.agg #[.int .i64 0, .int .i64 0, .int .i64 0, .int .i64 0, .int .i64 0, .int .i64 0, .int .i64 0, .int .i64 0], .int .u8 0, .int .u8 0, .int .u32 0, .agg #[.int .i64 0, .slice none 0 0, .slice none 0 0, .slice none 0 0, .slice none 0 0]] 8 rfl (World.shaped_of_RefB (by kernel_rfl) (by kernel_rfl)) (by kernel_rfl) (by kernel_rfl) (by kernel_rfl) (door_met os _)) ?_
 intro W base args ds gs before hval hW _ hsz hL _
 exact contract H enc W base args ds gs before hval hW hsz hL
theorem holds:Rows.ShelfNoneSaid:=
 OpenClaim.holds_of_wide 6 Tryz.f6 rfl rfl rfl rfl rfl rfl rfl ⟨rfl,rfl,rfl,rfl,rfl⟩ rfl rfl rfl rfl rfl (by kernel_rfl) Tryz.func6 (by kernel_rfl)
  (of_decide_eq_true (by kernel_rfl)) (by unfold Func.isWrapper;first|(rw [if_pos (by decide+kernel)];kernel_rfl)|(rw [if_neg (by decide+kernel)];exact ⟨rfl,rfl⟩))
  (fun os started H enc _=>lifted os started H enc)
end Go.Proofs.YtjpjjnalpdpljaaGreatDoor.ShelfNone
namespace Go.Proofs.YtjpjjnalpdpljaaGreatDoor.ShelfNone
open Go
theorem card:Rows.ShelfNoneCardSaid:=
 Claim7.holds_tied_plain_at .later [] [.data] true Rows.shelfNoneCard.stood.harness false
  holds (fun _ h=>by cases h) (by kernel_rfl) (fun _ h=>by cases h) shelfNone_row_tie rfl ⟨rfl,rfl⟩ (by kernel_rfl) rfl
  (fun f fn hf hfn=>by
    obtain rfl:f=6:=Option.some.inj ((show Tryz.prog.funcNamed "sluicegate/sluicegatelaw18.ShelfNone" =some 6 by kernel_rfl).symm.trans hf) |>.symm
    obtain rfl:fn=Tryz.f6:=(Option.some.inj (Tryz.func6.symm.trans hfn)).symm
    exact ⟨by kernel_rfl,fun j t ht=>by
     rw [Tryz.params6] at ht
     have hm:t∈[23,5,5,25,43]:=by simpa using Array.mem_of_getElem? ht
     have hall:([23,5,5,25,43].all fun u=> !Tryz.prog.wantsStandIn u)=true:=by kernel_rfl
     exact (show Tryz.prog.wantsStandIn t=false by simpa using List.all_eq_true.1 hall t hm)⟩)
  (by kernel_rfl)
end Go.Proofs.YtjpjjnalpdpljaaGreatDoor.ShelfNone
