/-
  ReplayNext: its walks, part 43.
-/
import Derived.Test.YtnfbncgfpmcpnaaGreatQ42
set_option maxRecDepth 100000
set_option maxHeartbeats 12800000
namespace Go.Proofs.YtnfbncgfpmcpnaaGreat.Mdl
open Go.RowKit
open Mch (below1 below_nx)
def HeavyPost (w:World) (p:Prg) (n:Int) (e:Ending) (w':World):Prop:=∃ b:Bool,e=.returned (.bool b)/\(b=false->n<=200/\Tame p)/\Below w.heap.size w w'
theorem heavy_any {lo hi:Nat} {v1 v2 v3:Value} {p:Prg} (n:Int) (w:World) (h:PrgAt lo hi w v1 v2 v3 p) :
  Calls Tryz.prog 5 #[.agg #[v1,v2,v3],.int .i64 n] w (HeavyPost w p n):=by
 obtain ⟨w1,hw1⟩:∃ w1,w1=w.alloc (.cells #[v1,v2,v3] 26):=⟨_,rfl⟩
 have hB1:Below w.heap.size w w1:=by rw [hw1];exact below1 w _
 have hX1:Blk w1 w.heap.size 26 #[v1,v2,v3]:=by rw [hw1];exact blk_new w _ _
 have hl:Calls Tryz.prog 17 #[.agg #[v1,v2,v3]] w1 (LongPost w1 p):=long_any w1 (h.later hB1)
 have hs:Tame p->∀ W,Below w.heap.size w W->Calls Tryz.prog 18 #[.agg #[v1,v2,v3]] W (SlowPost W):=fun ht W hW=>slow_any W (h.later hW) ht
 have hz:(Tryz.prog.info? 26).map (·.size)=some 3:=by kernel_rfl
 have x0:w1.cell? ⟨w.heap.size,0,none⟩=some v1:=hX1.cell rfl
 have x1:w1.cell? ⟨w.heap.size,1,none⟩=some v2:=hX1.cell rfl
 have x2:w1.cell? ⟨w.heap.size,2,none⟩=some v3:=hX1.cell rfl
 clear h
 by_cases hn:200<n
 ·have dn:decide (200<n)=true:=by simpa using hn
  clear hs hl
  go_enter Tryz.func5,Tryz.ntmps5
  go_upto_region 1 with fail
  rw [<- hw1]
  clear hw1
  go_wp2_with fail
  go_ret
  exact ⟨true,rfl,by simp,hB1⟩
 ·have dn:decide (200<n)=false:=by simpa using hn
  have HN:Hid (n<=200):=Lib.hid (by omega)
  clear hn
  go_enter Tryz.func5,Tryz.ntmps5
  go_upto_region 1 with fail
  rw [<- hw1]
  clear hw1
  go_wp2_with fail
  refine hl.mono ?_
  clear hl x0 x1 x2
  rintro e w2 ⟨b,rfl,hT,hb2⟩
  have hB2:=below_nx hB1 hb2 (Nat.le_refl _)
  have hX2:=Blk.later hX1 hb2 hX1.lt
  have x0:w2.cell? ⟨w.heap.size,0,none⟩=some v1:=hX2.cell rfl
  have x1:w2.cell? ⟨w.heap.size,1,none⟩=some v2:=hX2.cell rfl
  have x2:w2.cell? ⟨w.heap.size,2,none⟩=some v3:=hX2.cell rfl
  clear hX1 hX2 hb2
  cases b with
  | true=>
   clear hs hT
   go_wp2_with fail
   go_ret
   exact ⟨true,rfl,by simp,hB2⟩
  | false=>
   have ht:=hT rfl
   have hsl:=hs ht w2 hB2
   have HT:=Lib.hid ht
   clear hs hT ht
   go_wp2_with fail
   refine hsl.mono ?_
   clear hsl x0 x1 x2
   rintro e w3 ⟨b,rfl,hb3⟩
   have hB3:=below_nx hB2 hb3 (Nat.le_refl _)
   go_wp2_with fail
   go_ret
   exact ⟨b,rfl,fun _=>⟨HN.out,HT.out⟩,hB3⟩
end Go.Proofs.YtnfbncgfpmcpnaaGreat.Mdl
