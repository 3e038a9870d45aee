import Derived.Test.YtjpjjnalpdpljaaGreatDoorPqCacheMem
namespace Go.Proofs.YtjpjjnalpdpljaaGreatDoor
open Go.RowKit
namespace Ca
open Mem Dv Cn
section
variable {w:World} {S:List Nat} {p f mp ch cb g k:Nat} {qk:Nat->Nat × Nat} {st:St} {W:Nat->Option Nat}
theorem isMade_any (h:CwW w S p f mp ch cb g qk st W k):Calls Tryz.prog 94 #[.pointer (some ⟨p,0,none⟩)] w fun e w'=>e= .returned (.bool true)/\w=w':=by
 obtain ⟨c0,c1,c2,c3⟩:=h.cells
 clear h c1 c2 c3
 go_enter Tryz.func94,Tryz.ntmps94
 go_wp2
 go_ret
 exact ⟨rfl,rfl⟩
theorem place_in (h:CwW w S p f mp ch cb g qk st W k) {b:Nat} (hb:b<st.ls.length):Calls Tryz.prog 82 #[.pointer (some ⟨p,0,none⟩), .int .u32 (b:Int)] w fun e w'=>e= .returned (.int .i64 0)/\w=w':=by
 have cM:=Lib.hid (isMade_any h)
 have cB:=Lib.hid (Blocks_any h.dv)
 obtain ⟨c0,c1,c2,c3⟩:=h.cells
 have n1:=h.dv.n1
 have n2:=h.dv.n2
 obtain ⟨n,hn⟩:∃n,n=st.ls.length:=⟨_,rfl⟩
 rw [<-hn] at cB hb n1 n2
 have hwr:IntKind.u32.wrap (n:Int)=(n:Int):=by rw [IntKind.wrap_u32];omega
 clear h hn c1 c2 c3
 go_enter Tryz.func82,Tryz.ntmps82
 go_wp2_with (first
  |(go_at_call 94;refine cM.out.mono ?_;rintro e w' ⟨rfl,rfl⟩)
  |(go_at_call 32;refine cB.out.mono ?_;rintro e w' ⟨rfl,rfl⟩))
 go_ret
 exact ⟨rfl,rfl⟩
theorem place_out (h:CwW w S p f mp ch cb g qk st W k) {b:Nat} (hb:st.ls.length<=b):Calls Tryz.prog 82 #[.pointer (some ⟨p,0,none⟩), .int .u32 (b:Int)] w fun e w'=>e= .returned (.int .i64 4)/\w=w':=by
 have cM:=Lib.hid (isMade_any h)
 have cB:=Lib.hid (Blocks_any h.dv)
 obtain ⟨c0,c1,c2,c3⟩:=h.cells
 have n1:=h.dv.n1
 have n2:=h.dv.n2
 obtain ⟨n,hn⟩:∃n,n=st.ls.length:=⟨_,rfl⟩
 rw [<-hn] at cB hb n1 n2
 have hwr:IntKind.u32.wrap (n:Int)=(n:Int):=by rw [IntKind.wrap_u32];omega
 clear h hn c1 c2 c3
 go_enter Tryz.func82,Tryz.ntmps82
 go_wp2_with (first
  |(go_at_call 94;refine cM.out.mono ?_;rintro e w' ⟨rfl,rfl⟩)
  |(go_at_call 32;refine cB.out.mono ?_;rintro e w' ⟨rfl,rfl⟩))
 go_ret
 exact ⟨rfl,rfl⟩
theorem Pins_some (h:CwW w S p f mp ch cb g qk st W k) {b j n:Nat} {x:List UInt8} {d:Bool} (hb:b<4294967296) (hx:st.fr[j]? =some (some (b,x,d,n))) (hW:W b=some j):Calls Tryz.prog 116 #[.pointer (some ⟨p,0,none⟩), .int .u32 (b:Int)] w fun e w'=>e= .returned (.int .i64 (n:Int))/\w=w':=by
 have cM:=Lib.hid (isMade_any h)
 obtain ⟨c0,c1,c2,c3⟩:=h.cells
 have hl:=h.mc.lookOk hb
 rw [hW] at hl
 simp only [Option.getD_some,Option.isSome_some] at hl
 obtain ⟨d0,d1,d2,d3⟩:=h.fw.cell hx
 have hj:=lt_of_get hx
 obtain ⟨N,hN⟩:∃N,N=st.fr.length:=⟨_,rfl⟩
 rw [<-hN] at c1 hj
 simp only [f3] at d3
 clear h hx hW hN c0 c3 d0 d1 d2
 go_enter Tryz.func116,Tryz.ntmps116
 go_wp2_with (go_at_call 94;refine cM.out.mono ?_;rintro e w' ⟨rfl,rfl⟩)
 go_ret
 exact ⟨rfl,rfl⟩
theorem Pins_none (h:CwW w S p f mp ch cb g qk st W k) {b:Nat} (hb:b<4294967296) (hW:W b=none):Calls Tryz.prog 116 #[.pointer (some ⟨p,0,none⟩), .int .u32 (b:Int)] w fun e w'=>e= .returned (.int .i64 0)/\w=w':=by
 have cM:=Lib.hid (isMade_any h)
 obtain ⟨c0,c1,c2,c3⟩:=h.cells
 have hl:=h.mc.lookOk hb
 rw [hW] at hl
 simp only [Option.getD_none,Option.isSome_none] at hl
 clear h hW c0 c1 c3
 go_enter Tryz.func116,Tryz.ntmps116
 go_wp2_with (go_at_call 94;refine cM.out.mono ?_;rintro e w' ⟨rfl,rfl⟩)
 go_ret
 exact ⟨rfl,rfl⟩
end
theorem isEmpty_any (v0 v2 v3:Value) (A:Option Addr) (m c:Nat) (w:World):Calls Tryz.prog 125 #[.agg #[v0, .slice A m c,v2,v3]] w fun e w'=>e= .returned (.bool A.isNone)/\Below w.heap.size w w':=by
 have hnil:∀W,(binOp .eql 72 (.slice A m c) (.slice none 0 0)).run Tryz.prog W= .ok (.bool A.isNone) W:=fun W=>Lib.run_eql_slice_nil W _ _ _ _ _ _ _ Tryz.underlying72
 go_enter Tryz.func125,Tryz.ntmps125
 go_wp2
 go_ret
 exact ⟨rfl,(Below.refl _ _).alloc (Nat.le_refl _) _⟩
end Ca
end Go.Proofs.YtjpjjnalpdpljaaGreatDoor
