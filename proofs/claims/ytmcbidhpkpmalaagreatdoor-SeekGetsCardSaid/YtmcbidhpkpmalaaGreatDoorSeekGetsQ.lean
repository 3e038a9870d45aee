/- SeekGets holds: the value of any key in any tree is what its messages say, the upper ones first, or else its leaf. The table that counts the noughts at a number's end is as laid. -/
import Derived.Test.YtmcbidhpkpmalaaGreatDoorPkBQ
import Derived.Test.YtmcbidhpkpmalaaGreatDoorRows
import Derived.Test.YtmcbidhpkpmalaaGreatDoorCards
import Derived.Test.YtmcbidhpkpmalaaGreatDoorTie
import Derived.SevenTiedAt
set_option maxHeartbeats 4000000
set_option maxRecDepth 100000
namespace Go.Proofs.YtmcbidhpkpmalaaGreatDoor
open Go.RowKit
open Go.Lib (hid)
namespace Sk
open Mem Lx Bu Lf Fa No Sh Bt Po
open Ca (upF)
theorem Std.few{W w:World}{c:Cfg}{z:Ad}{F:List Nat}{tb:List Bool}{kp:Nat}{f:Nat->List UInt8}{K r s:Nat}{t:Td}(h:Std W w c z F tb kp f K r s t)(hc:c.blocks<=400):(nds t.TT).flatten.length<=1000:=by (have h1:=uR (n:=tb.length) h.bk.one fun b hb=>by have h2:=h.bk.tk b hb;rcases Nat.lt_or_ge b tb.length with h3|h3;(. exact h3);. rw[List.getD_eq_getElem?_getD,List.getElem?_eq_none h3]at h2;cases h2);have h2:=h.sv.len;(have e:t.BB.map List.length=(nds t.TT).map List.length:=by refine List.ext_getElem? fun j=>?_;rw[List.getElem?_map,List.getElem?_map];cases hj:(nds t.TT)[j]? with|none=>(have:t.BB[j]? =none:=by rw[List.getElem?_eq_none_iff]at hj ⊢;rw[h.bl];exact hj);rw[this];rfl|some T=>obtain⟨D,hD⟩:∃D,t.BB[j]? =some D:=⟨_,List.getElem?_eq_getElem (by rw[h.bl];exact(List.getElem?_eq_some_iff.1 hj).1)⟩;rw[hD];show some D.length=some T.length;rw[h.fu j T D hj hD]);(have e2:t.BB.flatten.length=(nds t.TT).flatten.length:=by rw[List.length_flatten,List.length_flatten,e]);omega
theorem xB{w:World}{c:Cfg}{x:Sp}(hx:SpW w x)(hT:Tab w)(key:ByteArray)(hkl:key.size<=140737488351232):CB 4 #[.agg (bC c),.agg (jE x),.string key] w (.bool true):=by have HC:=hid (CxB.new w (bC c) (jE x));have cS:∀w1,Bw w w1->Hid (Calls Tryz.prog 7 #[.agg (bC c),.agg (jE x)] w1 fun e w'=>StP w1 w' c x e):=fun w1 hb=>qY (hx.kept hb) (hT.below hb);have cA:∀w1,Bw w w1->Hid (CB 8 #[] w1 (.bool true)):=fun w1 hb=>sN (hT.below hb);clear hx;go_enter Tryz.func4,Tryz.ntmps4;go_upto_region 1 with fail;generalize (w.alloc (.cells (bC c) 23)).alloc (.cells (jE x) 28)=w1 at HC ⊢;obtain⟨g,hg⟩:=eX w.heap.size;have HG:=hid hg;simp only[<-hg];clear hg;go_upto_region 2 with(first|(refine aO rfl (.tmp 3) 23 rfl Gm g (bC c) (Gn rfl) rfl (by rw[HG.out];exact HC.c) ?_)|(refine aO rfl (.tmp 4) 28 rfl Ml (g+1) (jE x) (Mq rfl) rfl (by rw[HG.out];exact HC.x) ?_)|(go_at_call 7;refine(cS _ HC.below).mono ?_;intro e w2 hS;obtain⟨P,r0,A0,n0,k0,b0,he⟩:∃(P:Option Addr) (r0:Int) (A0:Option Addr) (n0 k0:Nat) (b0:Bool),e=.returned (.tuple #[.pointer P,.int .u32 r0,.slice A0 n0 k0,.bool b0]):=(by rcases hS.2 with⟨⟨_,_,_,_,h⟩,_⟩|⟨_,_,_,_,_,_,_,h,_⟩<;>exact⟨_,_,_,_,_,_,h⟩);subst he;have HS:=hid hS;clear cS hS));(have HB2:Hid (Bw w w2):=hid (HC.below.trans (HS.1.mono HC.below.size));rcases HS.2 with⟨⟨P',A',n',k',he⟩,-⟩|⟨z,F,tb,f,r,s,t,he,yM,hlt,-⟩);(. (obtain⟨rfl,rfl,⟨rfl,rfl,rfl⟩,rfl⟩:P=P'/\r0=0/\(A0=A'/\n0=n'/\k0=k')/\b0=false:=by simpa using he);clear he HS;go_wp2_with (go_at_call 8;refine(cA _ HB2.out).mono ?_;rintro e w3 ⟨rfl,hb⟩;have HB3:=hid (HB2.trans (hb.mono HB2.size));clear hb cA);go_ret;exact⟨rfl,HB3.out⟩);. (obtain⟨rfl,rfl,⟨rfl,rfl,rfl⟩,rfl⟩:P=some ⟨z.p,0,none⟩/\r0=(t.root:Int)/\(A0=t.A/\n0=t.TT.length/\k0=t.cc)/\b0=true:=by simpa using he);clear he HS;by_cases hk:(key.size:Int)<=300;(. have hT1:=hT.below HC.below;have cG:=yM.get hT1 (by decide) key (by omega);have hval:=yM.value key;have Sr:=yM.few hlt.2.2;obtain⟨V,hV⟩:=eX (nk ((lJ (nds t.TT) t.BB key).map (·.1)) key);rw[<-hV]at cG hval;have CG:=hid cG;have P9:=hid (And.intro hval Sr);(have hl7:t.TT.length<=1000:=by have:=yM.wf.few;rw[dW]at this;omega);have HL7:=hid hl7;have H1:=hid HC.below;clear cG hval Sr hV yM hlt hl7;go_upto_region 5 with(go_at_call 17;refine CG.mono ?_;rintro e w3 ⟨rfl,F3,h3,-⟩;have HS3:=hid h3.std;clear CG h3);obtain⟨r3,s3,hs3⟩:=HS3.out;have hb3:=HC.below.trans (hs3.sv.below.mono HC.below.size);have cM:=hid (Jp hs3.tree hs3.fits P9.2 HL7.out);have hml:=(FN (nds t.TT).flatten fun n hn=>by obtain⟨T,hT,hm⟩:=List.mem_flatten.1 hn;obtain⟨j,hj⟩:=List.getElem?_of_mem hT;exact(hs3.fits j T hj n hm).1).1;have HML:Hid ((lK (nds t.TT).flatten).length<=1048576):=hid (by have:=P9.2;omega);have HB3:=hid hb3;obtain⟨ml,hml'⟩:=eX ((lK (nds t.TT).flatten).length);rw[<-hml']at cM HML;have HMl:=hid hml';clear hs3 hb3 hml hml';go_upto_region 6 with(first|(go_at_call 19;refine cM.mono ?_;rintro e w4 ⟨⟨A4,c4,rfl,h4⟩,hb4⟩;have H4:=hid h4;replace HB3:=hid (HB3.trans (hb4.mono HB3.size));clear h4 hb4 cM)|(go_at_call 18;rw[HMl.out];refine(Ij H4.rc.1 key (by rw[<-HMl.out];exact HML.out)).mono ?_;rintro e w5 ⟨rfl,rfl⟩;rw[P9.1]));clear HS3 H4 HML HMl P9 HL7;cases V with|none=>simp only[Option.getD_none,Option.isSome_none];go_wp2_with (go_at_call 8;refine(cA _ HB3.out).mono ?_;rintro e w6 ⟨rfl,hb⟩;have HB6:=hid (HB3.trans (hb.mono HB3.size));clear hb cA);go_ret;exact⟨rfl,HB6.out⟩|some v=>simp only[Option.getD_some,Option.isSome_some];go_wp2_with (go_at_call 8;refine(cA _ HB3.out).mono ?_;rintro e w6 ⟨rfl,hb⟩;have HB6:=hid (HB3.trans (hb.mono HB3.size));clear hb cA);go_ret;exact⟨rfl,HB6.out⟩);. (have hk2:(300:Int)<(key.size:Int):=by omega);clear hk yM hlt;go_wp2_with (go_at_call 8;refine(cA _ HB2.out).mono ?_;rintro e w3 ⟨rfl,hb⟩;have HB3:=hid (HB2.trans (hb.mono HB2.size));clear hb cA);go_ret;exact⟨rfl,HB3.out⟩
theorem vg(cB cY cF cN cU cL cKy cV:Int)(x:Sp)(key:ByteArray)(W:World)(hx:SpW W x)(hk:key.size<=140737488351232)(hT:Tab W):CB 4 #[.agg #[cB,cY,cF,cN,cU,cL,cKy,cV],.agg (jE x),.string key] W (.bool true):=xB (c:=⟨cB,cY,cF,cN,cU,cL,cKy,cV⟩) hx hT key hk
end Sk
end Go.Proofs.YtmcbidhpkpmalaaGreatDoor
namespace Go.Proofs.YtmcbidhpkpmalaaGreatDoor.SeekGets
open Go.ChangeShapes Go.WideShapes Go.ChangeAt Go.RowKit
open Go.ChangeMaps (open_string shut_string)
theorem own:ownKnob Tryz.prog.godebug=none:=by kernel_rfl
def rz:List (String × DataW Unit):=[("math/bits.deBruijn64tab",Rows.laid_math_bits_deBruijn64tab)]
theorem contract(H:Type)(enc:TypeId × Value->H)(W:World)(base:Nat)(args:Array Value)(ds gs:List (DataW H))(before:List MemPlace)
 (hval:∀(j:Nat) t v,Tryz.f4.params[j]? =some t->args[j]? =some v->Value.okWide Tryz.prog W .any base t v)
 (hW:DataW.Whole enc Tryz.prog Tryz.f4.params.toList Rows.seekGetsSpec.vars false W args.toList ds gs before)
 (hsz:(DataW.weightsEach Tryz.prog (Tryz.f4.params.toList++Rows.seekGetsSpec.plain.varTypes Tryz.prog) (ds++gs)).all (· <=reachBytes)=true) (hL:laidMetH Tryz.prog rz W):
 Calls Tryz.prog 4 args W fun e W'=>∃v,e=.returned v/\Rows.seekGetsSpec.post enc Tryz.prog Tryz.f4 false true false false W args v W':=by
 have hW':=hW;obtain⟨p,q,hA0,hV,rfl,hfz,hnd⟩:=hW;have hA:DataW.TrodAll enc Tryz.prog W 0 (fun _=>true) true Tryz.f4.params.toList args.toList ds p:=hA0;rw[Tryz.params4]at hA hval;obtain⟨v0,vs0,d0,ds0,p0,q0,Pk,rfl,rfl,h0,r0⟩:=trodAll_cons hA;obtain⟨v1,vs1,d1,ds1,p1,q1,Pm,rfl,rfl,h1,r1⟩:=trodAll_cons r0;obtain⟨v2,vs2,d2,ds2,p2,q2,Pn,rfl,rfl,h2,r2⟩:=trodAll_cons r1;obtain⟨rfl,rfl,rfl⟩:=trodAll_nil r2;obtain rfl:args= #[v0,v1,v2]:=by cases args;simp_all
 obtain⟨rfl,rfl⟩:=trodVars_none hV;obtain⟨cB,cY,cF,cN,cU,cL,cKy,cV,rfl⟩:=Cf.zl (hval 0 23 v0 rfl rfl) h0;obtain⟨x,rfl,hx⟩:=Sk.wU (hval 1 28 v1 rfl rfl) h1;obtain⟨key,rfl,rfl,rfl,Uj⟩:=open_string Tryz.underlying9 (hval 2 9 v2 rfl rfl) h2
 have Rl:key.size<=140737488351232:=by
  have:=sized_string hsz (j:=2) (by rw[Tryz.params4];rfl) rfl;rw[Array.length_toList]at this;exact this
 clear hA0;have hL':=Bt.qg hL;simp only[List.append_nil]at hW';refine(Sk.vg cB cY cF cN cU cL cKy cV x key W hx Rl hL').mono fun e W' ⟨he,hg⟩=>?_;subst he;exact⟨_,rfl,Post.zi (by kernel_rfl) (by kernel_rfl) hW' rfl rfl rfl Tryz.underlying4 hg⟩
theorem uZ(os:Os)(args:Array Value):laidMetH Tryz.prog rz ((World.doorLaid Tryz.prog 400 os).forCall (fun _ _=>0) ⟨#[],args,[]⟩).memory:=
 laidMet_of_run' 8 (by kernel_rfl) (by kernel_rfl)
theorem lifted(os:Os)(started:os.Started)(H:Type)(enc:TypeId × Value->H):
 ReturnsInHanded {} Tryz.checked os 4 .any (fun w args=>(Rows.seekGetsSpec.pre enc Tryz.prog Tryz.f4 [] false w args/\laidMetH Tryz.prog rz w)/\sizedMet enc Tryz.prog Tryz.f4 (OpenSpec.ofChange Rows.seekGetsSpec) false w args)
  (Rows.seekGetsSpec.post enc Tryz.prog Tryz.f4 false true false false):=by
 refine returnsInHanded_of_change_and (C:=Tryz.checked) (X:=fun w _=>laidMetH Tryz.prog rz w) (fun _ _ _ hh h=>h.of_heap hh) own started (by kernel_rfl) Tryz.func4
  (ChangeSpec.witness_shaped (enc:=enc) (C:=Tryz.checked) (os:=os) (X:=fun w _=>laidMetH Tryz.prog rz w) false (World.doorLaid Tryz.prog 400 os) #[.agg #[(0:Int),(0:Int),(0:Int),(0:Int),(0:Int),(0:Int),(0:Int),(0:Int)],.agg #[(),(),(),()],.string .empty] 8 rfl (World.shaped_of_RefB (by kernel_rfl) (by kernel_rfl)) (by kernel_rfl) (by kernel_rfl) (by kernel_rfl) (uZ os _)) ?_
 intro W base args ds gs before hval hW _ hsz hL _;exact contract H enc W base args ds gs before hval hW hsz hL
theorem holds:Rows.SeekGetsSaid:=
 OpenClaim.holds_of_wide 4 Tryz.f4 rfl rfl rfl rfl rfl rfl rfl ⟨rfl,rfl,rfl,rfl,rfl⟩ rfl rfl rfl rfl rfl (by kernel_rfl) Tryz.func4 (by kernel_rfl)
  (of_decide_eq_true (by kernel_rfl)) (by unfold Func.isWrapper;first|(rw[if_pos (by decide+kernel)];kernel_rfl)|(rw[if_neg (by decide+kernel)];exact⟨rfl,rfl⟩))
  (fun os started H enc _=>lifted os started H enc)
end Go.Proofs.YtmcbidhpkpmalaaGreatDoor.SeekGets
namespace Go.Proofs.YtmcbidhpkpmalaaGreatDoor.SeekGets
open Go
theorem card:Rows.SeekGetsCardSaid:=
 Claim7.holds_tied_plain_at .later [] [.data] true Rows.seekGetsCard.stood.harness false
  holds (fun _ h=>by cases h) (by kernel_rfl) (fun _ h=>by cases h) seekGets_row_tie rfl ⟨rfl,rfl⟩ (by kernel_rfl) rfl
  (fun f fn hf hfn=>by
    obtain rfl:f=4:=Option.some.inj ((show Tryz.prog.funcNamed "sluicegate/sluicegatelaw19.SeekGets" =some 4 by kernel_rfl).symm.trans hf) |>.symm;obtain rfl:fn=Tryz.f4:=(Option.some.inj (Tryz.func4.symm.trans hfn)).symm
    exact⟨by kernel_rfl,fun j t ht=>by
     rw[Tryz.params4]at ht;have hm:t∈[23,28,9]:=(by simpa using Array.mem_of_getElem? ht);have hall:([23,28,9].all fun u=> !Tryz.prog.wantsStandIn u)=true:=by kernel_rfl
     exact(show Tryz.prog.wantsStandIn t=false by simpa using List.all_eq_true.1 hall t hm)⟩)
  (by kernel_rfl)
end Go.Proofs.YtmcbidhpkpmalaaGreatDoor.SeekGets
