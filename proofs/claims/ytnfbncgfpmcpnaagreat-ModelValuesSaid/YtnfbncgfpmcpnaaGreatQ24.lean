/-
  ReplayNext: its walks, part 24.
-/
import Derived.Test.YtnfbncgfpmcpnaaGreatQ23
set_option maxRecDepth 100000
set_option maxHeartbeats 12800000
namespace Go.Proofs.YtnfbncgfpmcpnaaGreat
open Go.RowKit
theorem done_none {lo hi:Nat} {v1 v2 v3:Value} {p:Prg} (w:World) (h:PrgAt lo hi w v1 v2 v3 p) (hs:Small p) (f:Fra) (k v:Int) (ok:Bool) (hx:atF p f=none) :
  Calls Tryz.prog 142 #[.agg #[v1,v2,v3],fraV f,.int .i64 k,.int .i64 v,.bool ok] w fun e w'=>e=.returned (.tuple #[fraV Fra.zero,.int .i64 2])/\Below w.heap.size w w':=by
 obtain ⟨wf,hwf⟩:∃ wf,wf=((w.alloc (.cells #[v1,v2,v3] 26)).alloc (.cells (fraA f) 61)).alloc (.cells (fraA Fra.zero) 61):=⟨_,rfl⟩
 have hB:Below w.heap.size w wf:=by rw [hwf];exact below3 w _ _ _
 have hP:Blk wf w.heap.size 26 #[v1,v2,v3]:=by rw [hwf];exact ((blk_new w _ _).alloc _).alloc _
 have hF:FrAt wf (w.heap.size+1) f:=by rw [hwf];exact (blk_at (by simp)).alloc _
 have hZ:FrAt wf (w.heap.size+1+1) Fra.zero:=by rw [hwf];exact blk_at (by simp)
 have hsz:wf.heap.size=w.heap.size+1+1+1:=by rw [hwf];simp
 have hc:Calls Tryz.prog 85 #[.agg #[v1,v2,v3],fraV f] wf fun e w'=>e=.returned (.tuple #[.agg #[.int .u8 0,.int .i64 0,.int .i64 0,.int .i64 0,.int .i64 0],.bool false])/\Below wf.heap.size wf w':=by have:=fat_any wf (h.later hB) hs f;rw [hx] at this;exact this
 go_enter Tryz.func142,Tryz.ntmps142
 go_wp2_with fail
 rw [show (#[.int .i64 0,.int .i64 0,.int .i64 0,.int .i64 0,.int .i64 0,.int .i64 0,.int .i64 0,.int .i64 0,.int .i64 0,.int .i64 0]:Array Value)=fraA Fra.zero from rfl, <- hwf]
 clear hwf
 refine hc.mono ?_
 rintro e w1 ⟨rfl,hb⟩
 have hB1:=below_next hB hb (Nat.le_refl _)
 have hP1:=hP.later hb hP.lt
 have hF1:=hF.later hb hF.lt
 have hZ1:=hZ.later hb hZ.lt
 have hs1:w.heap.size+1+1+1<=w1.heap.size:=by rw [<- hsz];exact hb.size
 obtain ⟨w2,hw2⟩:∃ w2,w2=w1.alloc (.cells #[.int .u8 0,.int .i64 0,.int .i64 0,.int .i64 0,.int .i64 0] 95):=⟨_,rfl⟩
 obtain ⟨Y,hY⟩:∃ Y,Y=w1.heap.size:=⟨_,rfl⟩
 have hB2:Below w.heap.size w w2:=by rw [hw2];exact hB1.alloc hB1.size _
 have hP2:Blk w2 w.heap.size 26 #[v1,v2,v3]:=by rw [hw2];exact hP1.alloc _
 have hF2:FrAt w2 (w.heap.size+1) f:=by rw [hw2];exact hF1.alloc _
 have hZ2:FrAt w2 (w.heap.size+1+1) Fra.zero:=by rw [hw2];exact hZ1.alloc _
 have hY2:Blk w2 Y 95 #[.int .u8 0,.int .i64 0,.int .i64 0,.int .i64 0,.int .i64 0]:=by rw [hw2,hY];exact blk_new w1 _ _
 have hYl:w.heap.size+1+1<Y:=by omega
 have hYs:Y<w2.heap.size:=hY2.lt
 clear hc hB hb hP hF hZ hsz hB1 hP1 hF1 hZ1 hs1
 obtain ⟨z0,z1,z2,z3,z4,z5,z6,z7,z8,z9⟩:=fra_cells hZ2
 have zf:=hZ2.frozen
 obtain ⟨w9,hw9,hX9,hb9⟩:∃ w9,w9=((((((((((w2.setCell ⟨w.heap.size+1+1,0,none⟩ (.int .i64 0)).setCell ⟨w.heap.size+1+1,1,none⟩ (.int .i64 0)).setCell ⟨w.heap.size+1+1,2,none⟩ (.int .i64 0)).setCell ⟨w.heap.size+1+1,3,none⟩ (.int .i64 0)).setCell ⟨w.heap.size+1+1,4,none⟩ (.int .i64 0)).setCell ⟨w.heap.size+1+1,5,none⟩ (.int .i64 0)).setCell ⟨w.heap.size+1+1,6,none⟩ (.int .i64 0)).setCell ⟨w.heap.size+1+1,7,none⟩ (.int .i64 0)).setCell ⟨w.heap.size+1+1,8,none⟩ (.int .i64 0)).setCell ⟨w.heap.size+1+1,9,none⟩ (.int .i64 0))/\Blk w9 (w.heap.size+1+1) 61 (fraA Fra.zero)/\But [w.heap.size+1+1] w2 w9:=⟨_,rfl,sto10 hZ2 (.int .i64 0) (.int .i64 0) (.int .i64 0) (.int .i64 0) (.int .i64 0) (.int .i64 0) (.int .i64 0) (.int .i64 0) (.int .i64 0) (.int .i64 0)⟩
 have hB9:=below_but hB2 hb9 (Nat.le_refl _) (by omega)
 rw [hw2] at z0 z1 z2 z3 z4 z5 z6 z7 z8 z9 zf hw9
 go_wp2_with fail
 rw [<- hw9]
 obtain ⟨g0,g1,g2,g3,g4,g5,g6,g7,g8,g9⟩:=fra_cells hX9
 refine bodyPost_ret (v:=.tuple #[fraV Fra.zero,.int .i64 2]) (by simp [results,Tryz.f142,go_sem,g0,g1,g2,g3,g4,g5,g6,g7,g8,g9,Fra.zero]) rfl ?_
 exact ⟨rfl,hB9⟩
theorem done_local {lo hi:Nat} {v1 v2 v3:Value} {p:Prg} (w:World) (h:PrgAt lo hi w v1 v2 v3 p) (hs:Small p) (f:Fra) (k v:Int) (ok:Bool) {x:In} (hx:atF p f=some x) (hl:locO x.o=true) :
  Calls Tryz.prog 142 #[.agg #[v1,v2,v3],fraV f,.int .i64 k,.int .i64 v,.bool ok] w fun e w'=>e=.returned (.tuple #[fraV Fra.zero,.int .i64 8])/\Below w.heap.size w w':=by
 have hxo:=(at_ok h hx).o
 obtain ⟨wf,hwf⟩:∃ wf,wf=((w.alloc (.cells #[v1,v2,v3] 26)).alloc (.cells (fraA f) 61)).alloc (.cells (fraA Fra.zero) 61):=⟨_,rfl⟩
 have hB:Below w.heap.size w wf:=by rw [hwf];exact below3 w _ _ _
 have hP:Blk wf w.heap.size 26 #[v1,v2,v3]:=by rw [hwf];exact ((blk_new w _ _).alloc _).alloc _
 have hF:FrAt wf (w.heap.size+1) f:=by rw [hwf];exact (blk_at (by simp)).alloc _
 have hZ:FrAt wf (w.heap.size+1+1) Fra.zero:=by rw [hwf];exact blk_at (by simp)
 have hsz:wf.heap.size=w.heap.size+1+1+1:=by rw [hwf];simp
 have hc:Calls Tryz.prog 85 #[.agg #[v1,v2,v3],fraV f] wf fun e w'=>e=.returned (.tuple #[.agg #[.int .u8 (x.o:Int),.int .i64 x.a,.int .i64 x.b,.int .i64 x.c,.int .i64 x.k],.bool true])/\Below wf.heap.size wf w':=by have:=fat_any wf (h.later hB) hs f;rw [hx] at this;exact this
 go_enter Tryz.func142,Tryz.ntmps142
 go_wp2_with fail
 rw [show (#[.int .i64 0,.int .i64 0,.int .i64 0,.int .i64 0,.int .i64 0,.int .i64 0,.int .i64 0,.int .i64 0,.int .i64 0,.int .i64 0]:Array Value)=fraA Fra.zero from rfl, <- hwf]
 clear hwf
 refine hc.mono ?_
 rintro e w1 ⟨rfl,hb⟩
 have hB1:=below_next hB hb (Nat.le_refl _)
 have hP1:=hP.later hb hP.lt
 have hF1:=hF.later hb hF.lt
 have hZ1:=hZ.later hb hZ.lt
 have hs1:w.heap.size+1+1+1<=w1.heap.size:=by rw [<- hsz];exact hb.size
 obtain ⟨w2,hw2⟩:∃ w2,w2=w1.alloc (.cells #[.int .u8 (x.o:Int),.int .i64 x.a,.int .i64 x.b,.int .i64 x.c,.int .i64 x.k] 95):=⟨_,rfl⟩
 obtain ⟨Y,hY⟩:∃ Y,Y=w1.heap.size:=⟨_,rfl⟩
 have hB2:Below w.heap.size w w2:=by rw [hw2];exact hB1.alloc hB1.size _
 have hP2:Blk w2 w.heap.size 26 #[v1,v2,v3]:=by rw [hw2];exact hP1.alloc _
 have hF2:FrAt w2 (w.heap.size+1) f:=by rw [hw2];exact hF1.alloc _
 have hZ2:FrAt w2 (w.heap.size+1+1) Fra.zero:=by rw [hw2];exact hZ1.alloc _
 have hY2:Blk w2 Y 95 #[.int .u8 (x.o:Int),.int .i64 x.a,.int .i64 x.b,.int .i64 x.c,.int .i64 x.k]:=by rw [hw2,hY];exact blk_new w1 _ _
 have hYl:w.heap.size+1+1<Y:=by omega
 have hYs:Y<w2.heap.size:=hY2.lt
 clear hc hB hb hP hF hZ hsz hB1 hP1 hF1 hZ1 hs1
 have hloc:=local_any x.o w2 hxo
 rw [hl,hw2] at hloc
 have y0:=hY2.cell (k:=0) (v:=.int .u8 (x.o:Int)) rfl
 rw [hw2,hY] at y0
 obtain ⟨z0,z1,z2,z3,z4,z5,z6,z7,z8,z9⟩:=fra_cells hZ2
 have zf:=hZ2.frozen
 obtain ⟨w9,hw9,hX9,hb9⟩:∃ w9,w9=((((((((((w2.setCell ⟨w.heap.size+1+1,0,none⟩ (.int .i64 0)).setCell ⟨w.heap.size+1+1,1,none⟩ (.int .i64 0)).setCell ⟨w.heap.size+1+1,2,none⟩ (.int .i64 0)).setCell ⟨w.heap.size+1+1,3,none⟩ (.int .i64 0)).setCell ⟨w.heap.size+1+1,4,none⟩ (.int .i64 0)).setCell ⟨w.heap.size+1+1,5,none⟩ (.int .i64 0)).setCell ⟨w.heap.size+1+1,6,none⟩ (.int .i64 0)).setCell ⟨w.heap.size+1+1,7,none⟩ (.int .i64 0)).setCell ⟨w.heap.size+1+1,8,none⟩ (.int .i64 0)).setCell ⟨w.heap.size+1+1,9,none⟩ (.int .i64 0))/\Blk w9 (w.heap.size+1+1) 61 (fraA Fra.zero)/\But [w.heap.size+1+1] w2 w9:=⟨_,rfl,sto10 hZ2 (.int .i64 0) (.int .i64 0) (.int .i64 0) (.int .i64 0) (.int .i64 0) (.int .i64 0) (.int .i64 0) (.int .i64 0) (.int .i64 0) (.int .i64 0)⟩
 have hB9:=below_but hB2 hb9 (Nat.le_refl _) (by omega)
 rw [hw2] at z0 z1 z2 z3 z4 z5 z6 z7 z8 z9 zf hw9
 go_wp2_with (go_at_call 162;refine hloc.mono ?_;rintro e w' ⟨rfl,rfl⟩)
 rw [<- hw9]
 obtain ⟨g0,g1,g2,g3,g4,g5,g6,g7,g8,g9⟩:=fra_cells hX9
 refine bodyPost_ret (v:=.tuple #[fraV Fra.zero,.int .i64 8]) (by simp [results,Tryz.f142,go_sem,g0,g1,g2,g3,g4,g5,g6,g7,g8,g9,Fra.zero]) rfl ?_
 exact ⟨rfl,hB9⟩
theorem done_not {lo hi:Nat} {v1 v2 v3:Value} {p:Prg} (w:World) (h:PrgAt lo hi w v1 v2 v3 p) (hs:Small p) (f:Fra) (k v:Int) (ok:Bool) {x:In} (hx:atF p f=some x) (hl:locO x.o=false) (y:Cas) (hserved:∀ W,Below w.heap.size w W->Calls Tryz.prog 163 #[.agg #[v1,v2,v3],.agg #[.int .u8 (x.o:Int),.int .i64 x.a,.int .i64 x.b,.int .i64 x.c,.int .i64 x.k],.int .i64 k] W fun e w'=>e=.returned (.tuple #[.agg #[.bool y.s,.int .i64 y.c,.int .i64 y.v,.int .i64 y.o],.bool false])/\Below W.heap.size W w') :
  Calls Tryz.prog 142 #[.agg #[v1,v2,v3],fraV f,.int .i64 k,.int .i64 v,.bool ok] w fun e w'=>e=.returned (.tuple #[fraV Fra.zero,.int .i64 2])/\Below w.heap.size w w':=by
 have hxo:=(at_ok h hx).o
 obtain ⟨wf,hwf⟩:∃ wf,wf=((w.alloc (.cells #[v1,v2,v3] 26)).alloc (.cells (fraA f) 61)).alloc (.cells (fraA Fra.zero) 61):=⟨_,rfl⟩
 have hB:Below w.heap.size w wf:=by rw [hwf];exact below3 w _ _ _
 have hP:Blk wf w.heap.size 26 #[v1,v2,v3]:=by rw [hwf];exact ((blk_new w _ _).alloc _).alloc _
 have hF:FrAt wf (w.heap.size+1) f:=by rw [hwf];exact (blk_at (by simp)).alloc _
 have hZ:FrAt wf (w.heap.size+1+1) Fra.zero:=by rw [hwf];exact blk_at (by simp)
 have hsz:wf.heap.size=w.heap.size+1+1+1:=by rw [hwf];simp
 have hc:Calls Tryz.prog 85 #[.agg #[v1,v2,v3],fraV f] wf fun e w'=>e=.returned (.tuple #[.agg #[.int .u8 (x.o:Int),.int .i64 x.a,.int .i64 x.b,.int .i64 x.c,.int .i64 x.k],.bool true])/\Below wf.heap.size wf w':=by have:=fat_any wf (h.later hB) hs f;rw [hx] at this;exact this
 go_enter Tryz.func142,Tryz.ntmps142
 go_wp2_with fail
 rw [show (#[.int .i64 0,.int .i64 0,.int .i64 0,.int .i64 0,.int .i64 0,.int .i64 0,.int .i64 0,.int .i64 0,.int .i64 0,.int .i64 0]:Array Value)=fraA Fra.zero from rfl, <- hwf]
 clear hwf
 refine hc.mono ?_
 rintro e w1 ⟨rfl,hb⟩
 have hB1:=below_next hB hb (Nat.le_refl _)
 have hP1:=hP.later hb hP.lt
 have hF1:=hF.later hb hF.lt
 have hZ1:=hZ.later hb hZ.lt
 have hs1:w.heap.size+1+1+1<=w1.heap.size:=by rw [<- hsz];exact hb.size
 obtain ⟨w2,hw2⟩:∃ w2,w2=w1.alloc (.cells #[.int .u8 (x.o:Int),.int .i64 x.a,.int .i64 x.b,.int .i64 x.c,.int .i64 x.k] 95):=⟨_,rfl⟩
 obtain ⟨Y,hY⟩:∃ Y,Y=w1.heap.size:=⟨_,rfl⟩
 have hB2:Below w.heap.size w w2:=by rw [hw2];exact hB1.alloc hB1.size _
 have hP2:Blk w2 w.heap.size 26 #[v1,v2,v3]:=by rw [hw2];exact hP1.alloc _
 have hF2:FrAt w2 (w.heap.size+1) f:=by rw [hw2];exact hF1.alloc _
 have hZ2:FrAt w2 (w.heap.size+1+1) Fra.zero:=by rw [hw2];exact hZ1.alloc _
 have hY2:Blk w2 Y 95 #[.int .u8 (x.o:Int),.int .i64 x.a,.int .i64 x.b,.int .i64 x.c,.int .i64 x.k]:=by rw [hw2,hY];exact blk_new w1 _ _
 have hYl:w.heap.size+1+1<Y:=by omega
 have hYs:Y<w2.heap.size:=hY2.lt
 clear hc hB hb hP hF hZ hsz hB1 hP1 hF1 hZ1 hs1
 have hloc:=local_any x.o w2 hxo
 rw [hl,hw2] at hloc
 have hsv:=hserved w2 hB2
 clear hserved hl hxo
 have p0:=hP2.cell (k:=0) (v:=v1) rfl
 have p1:=hP2.cell (k:=1) (v:=v2) rfl
 have p2:=hP2.cell (k:=2) (v:=v3) rfl
 have i0:=hY2.cell (k:=0) (v:=.int .u8 (x.o:Int)) rfl
 have i1:=hY2.cell (k:=1) (v:=.int .i64 x.a) rfl
 have i2:=hY2.cell (k:=2) (v:=.int .i64 x.b) rfl
 have i3:=hY2.cell (k:=3) (v:=.int .i64 x.c) rfl
 have i4:=hY2.cell (k:=4) (v:=.int .i64 x.k) rfl
 rw [hw2] at p0 p1 p2 i0 i1 i2 i3 i4
 rw [hY] at i0 i1 i2 i3 i4
 go_wp2_with (go_at_call 162;refine hloc.mono ?_;rintro e w' ⟨rfl,rfl⟩)
 rw [<- hw2, <- hY]
 clear hw2 hY hloc p0 p1 p2 i0 i1 i2 i3 i4
 refine hsv.mono ?_
 clear hsv
 rintro e w3 ⟨rfl,hb3⟩
 have hB3:=below_next hB2 hb3 (Nat.le_refl _)
 have hP3:=hP2.later hb3 hP2.lt
 have hF3:=hF2.later hb3 hF2.lt
 have hZ3:=hZ2.later hb3 hZ2.lt
 have hY3:=hY2.later hb3 hY2.lt
 have hY3l:=hY3.lt
 obtain ⟨w4,hw4⟩:∃ w4,w4=w3.alloc (.cells #[.bool y.s,.int .i64 y.c,.int .i64 y.v,.int .i64 y.o] 169):=⟨_,rfl⟩
 obtain ⟨C,hC⟩:∃ C,C=w3.heap.size:=⟨_,rfl⟩
 have hB4:Below w.heap.size w w4:=by rw [hw4];exact hB3.alloc hB3.size _
 have hP4:Blk w4 w.heap.size 26 #[v1,v2,v3]:=by rw [hw4];exact hP3.alloc _
 have hF4:FrAt w4 (w.heap.size+1) f:=by rw [hw4];exact hF3.alloc _
 have hZ4:FrAt w4 (w.heap.size+1+1) Fra.zero:=by rw [hw4];exact hZ3.alloc _
 have hY4:Blk w4 Y 95 #[.int .u8 (x.o:Int),.int .i64 x.a,.int .i64 x.b,.int .i64 x.c,.int .i64 x.k]:=by rw [hw4];exact hY3.alloc _
 have hC4:Blk w4 C 169 #[.bool y.s,.int .i64 y.c,.int .i64 y.v,.int .i64 y.o]:=by rw [hw4,hC];exact blk_new w3 _ _
 have hCl:Y<C:=by rw [hC];exact hY3l
 have hCs:w4.heap.size=C+1:=by rw [hw4,hC];simp
 clear hb3 hB2 hP2 hF2 hZ2 hY2 hB3 hP3 hF3 hZ3 hY3 hYs hY3l
 obtain ⟨z0,z1,z2,z3,z4,z5,z6,z7,z8,z9⟩:=fra_cells hZ4
 have zf:=hZ4.frozen
 obtain ⟨w9,hw9,hX9,hb9⟩:∃ w9,w9=((((((((((w4.setCell ⟨w.heap.size+1+1,0,none⟩ (.int .i64 0)).setCell ⟨w.heap.size+1+1,1,none⟩ (.int .i64 0)).setCell ⟨w.heap.size+1+1,2,none⟩ (.int .i64 0)).setCell ⟨w.heap.size+1+1,3,none⟩ (.int .i64 0)).setCell ⟨w.heap.size+1+1,4,none⟩ (.int .i64 0)).setCell ⟨w.heap.size+1+1,5,none⟩ (.int .i64 0)).setCell ⟨w.heap.size+1+1,6,none⟩ (.int .i64 0)).setCell ⟨w.heap.size+1+1,7,none⟩ (.int .i64 0)).setCell ⟨w.heap.size+1+1,8,none⟩ (.int .i64 0)).setCell ⟨w.heap.size+1+1,9,none⟩ (.int .i64 0))/\Blk w9 (w.heap.size+1+1) 61 (fraA Fra.zero)/\But [w.heap.size+1+1] w4 w9:=⟨_,rfl,sto10 hZ4 (.int .i64 0) (.int .i64 0) (.int .i64 0) (.int .i64 0) (.int .i64 0) (.int .i64 0) (.int .i64 0) (.int .i64 0) (.int .i64 0) (.int .i64 0)⟩
 have hB9:=below_but hB4 hb9 (Nat.le_refl _) (by omega)
 rw [hw4] at z0 z1 z2 z3 z4 z5 z6 z7 z8 z9 zf hw9
 go_wp2_with fail
 rw [<- hw9]
 obtain ⟨g0,g1,g2,g3,g4,g5,g6,g7,g8,g9⟩:=fra_cells hX9
 refine bodyPost_ret (v:=.tuple #[fraV Fra.zero,.int .i64 2]) (by simp [results,Tryz.f142,go_sem,g0,g1,g2,g3,g4,g5,g6,g7,g8,g9,Fra.zero]) rfl ?_
 exact ⟨rfl,hB9⟩
theorem done_s8 {lo hi:Nat} {v1 v2 v3:Value} {p:Prg} (w:World) (h:PrgAt lo hi w v1 v2 v3 p) (hs:Small p) (f:Fra) (k v:Int) (ok:Bool) (hm:checkW p=none) {nb:Nat} {xa xc xk:Int} (hx:atF p f=some ⟨8,xa,(nb:Int),xc,xk⟩) (hl:locO 8=false) (hnb:nb<8) {yc:Int} {nv no:Nat} (hnv:nv<8) (hno:no<8) (hserved:∀ W,Below w.heap.size w W->Calls Tryz.prog 163 #[.agg #[v1,v2,v3],.agg #[.int .u8 8,.int .i64 xa,.int .i64 (nb:Int),.int .i64 xc,.int .i64 xk],.int .i64 k] W fun e w'=>e=.returned (.tuple #[.agg #[.bool true,.int .i64 yc,.int .i64 (nv:Int),.int .i64 (no:Int)],.bool true])/\Below W.heap.size W w') :
  Calls Tryz.prog 142 #[.agg #[v1,v2,v3],fraV f,.int .i64 k,.int .i64 v,.bool ok] w fun e w'=>e=.returned (.tuple #[fraV (doneG ⟨true,yc,(nv:Int),(no:Int)⟩ ⟨8,xa,(nb:Int),xc,xk⟩ f k v ok),.int .i64 0])/\Below w.heap.size w w':=by
 have hxo:=(at_ok h hx).o
 have hpc:=at_pc hs hx
 have hat:=doneG_at hm hx hl ⟨true,yc,(nv:Int),(no:Int)⟩ k v ok
 obtain ⟨wf,hwf⟩:∃ wf,wf=((w.alloc (.cells #[v1,v2,v3] 26)).alloc (.cells (fraA f) 61)).alloc (.cells (fraA Fra.zero) 61):=⟨_,rfl⟩
 have hB:Below w.heap.size w wf:=by rw [hwf];exact below3 w _ _ _
 have hP:Blk wf w.heap.size 26 #[v1,v2,v3]:=by rw [hwf];exact ((blk_new w _ _).alloc _).alloc _
 have hF:FrAt wf (w.heap.size+1) f:=by rw [hwf];exact (blk_at (by simp)).alloc _
 have hZ:FrAt wf (w.heap.size+1+1) Fra.zero:=by rw [hwf];exact blk_at (by simp)
 have hsz:wf.heap.size=w.heap.size+1+1+1:=by rw [hwf];simp
 have hc:Calls Tryz.prog 85 #[.agg #[v1,v2,v3],fraV f] wf fun e w'=>e=.returned (.tuple #[.agg #[.int .u8 8,.int .i64 xa,.int .i64 (nb:Int),.int .i64 xc,.int .i64 xk],.bool true])/\Below wf.heap.size wf w':=by have:=fat_any wf (h.later hB) hs f;rw [hx] at this;exact this
 go_enter Tryz.func142,Tryz.ntmps142
 go_wp2_with fail
 rw [show (#[.int .i64 0,.int .i64 0,.int .i64 0,.int .i64 0,.int .i64 0,.int .i64 0,.int .i64 0,.int .i64 0,.int .i64 0,.int .i64 0]:Array Value)=fraA Fra.zero from rfl, <- hwf]
 clear hwf
 refine hc.mono ?_
 rintro e w1 ⟨rfl,hb⟩
 have hB1:=below_next hB hb (Nat.le_refl _)
 have hP1:=hP.later hb hP.lt
 have hF1:=hF.later hb hF.lt
 have hZ1:=hZ.later hb hZ.lt
 have hs1:w.heap.size+1+1+1<=w1.heap.size:=by rw [<- hsz];exact hb.size
 obtain ⟨w2,hw2⟩:∃ w2,w2=w1.alloc (.cells #[.int .u8 8,.int .i64 xa,.int .i64 (nb:Int),.int .i64 xc,.int .i64 xk] 95):=⟨_,rfl⟩
 obtain ⟨Y,hY⟩:∃ Y,Y=w1.heap.size:=⟨_,rfl⟩
 have hB2:Below w.heap.size w w2:=by rw [hw2];exact hB1.alloc hB1.size _
 have hP2:Blk w2 w.heap.size 26 #[v1,v2,v3]:=by rw [hw2];exact hP1.alloc _
 have hF2:FrAt w2 (w.heap.size+1) f:=by rw [hw2];exact hF1.alloc _
 have hZ2:FrAt w2 (w.heap.size+1+1) Fra.zero:=by rw [hw2];exact hZ1.alloc _
 have hY2:Blk w2 Y 95 #[.int .u8 8,.int .i64 xa,.int .i64 (nb:Int),.int .i64 xc,.int .i64 xk]:=by rw [hw2,hY];exact blk_new w1 _ _
 have hYl:w.heap.size+1+1<Y:=by omega
 have hYs:Y<w2.heap.size:=hY2.lt
 clear hc hB hb hP hF hZ hsz hB1 hP1 hF1 hZ1 hs1
 have hloc:=local_any 8 w2 hxo
 rw [hl,hw2] at hloc
 have hsv:=hserved w2 hB2
 clear hserved hl hxo
 have p0:=hP2.cell (k:=0) (v:=v1) rfl
 have p1:=hP2.cell (k:=1) (v:=v2) rfl
 have p2:=hP2.cell (k:=2) (v:=v3) rfl
 have i0:=hY2.cell (k:=0) (v:=.int .u8 8) rfl
 have i1:=hY2.cell (k:=1) (v:=.int .i64 xa) rfl
 have i2:=hY2.cell (k:=2) (v:=.int .i64 (nb:Int)) rfl
 have i3:=hY2.cell (k:=3) (v:=.int .i64 xc) rfl
 have i4:=hY2.cell (k:=4) (v:=.int .i64 xk) rfl
 rw [hw2] at p0 p1 p2 i0 i1 i2 i3 i4
 rw [hY] at i0 i1 i2 i3 i4
 go_wp2_with (go_at_call 162;refine hloc.mono ?_;rintro e w' ⟨rfl,rfl⟩)
 rw [<- hw2, <- hY]
 clear hw2 hY hloc p0 p1 p2 i0 i1 i2 i3 i4
 refine hsv.mono ?_
 clear hsv
 rintro e w3 ⟨rfl,hb3⟩
 have hB3:=below_next hB2 hb3 (Nat.le_refl _)
 have hP3:=hP2.later hb3 hP2.lt
 have hF3:=hF2.later hb3 hF2.lt
 have hZ3:=hZ2.later hb3 hZ2.lt
 have hY3:=hY2.later hb3 hY2.lt
 have hY3l:=hY3.lt
 obtain ⟨w4,hw4⟩:∃ w4,w4=w3.alloc (.cells #[.bool true,.int .i64 yc,.int .i64 (nv:Int),.int .i64 (no:Int)] 169):=⟨_,rfl⟩
 obtain ⟨C,hC⟩:∃ C,C=w3.heap.size:=⟨_,rfl⟩
 have hB4:Below w.heap.size w w4:=by rw [hw4];exact hB3.alloc hB3.size _
 have hP4:Blk w4 w.heap.size 26 #[v1,v2,v3]:=by rw [hw4];exact hP3.alloc _
 have hF4:FrAt w4 (w.heap.size+1) f:=by rw [hw4];exact hF3.alloc _
 have hZ4:FrAt w4 (w.heap.size+1+1) Fra.zero:=by rw [hw4];exact hZ3.alloc _
 have hY4:Blk w4 Y 95 #[.int .u8 8,.int .i64 xa,.int .i64 (nb:Int),.int .i64 xc,.int .i64 xk]:=by rw [hw4];exact hY3.alloc _
 have hC4:Blk w4 C 169 #[.bool true,.int .i64 yc,.int .i64 (nv:Int),.int .i64 (no:Int)]:=by rw [hw4,hC];exact blk_new w3 _ _
 have hCl:Y<C:=by rw [hC];exact hY3l
 have hCs:w4.heap.size=C+1:=by rw [hw4,hC];simp
 clear hb3 hB2 hP2 hF2 hZ2 hY2 hB3 hP3 hF3 hZ3 hY3 hYs hY3l
 have hall : [(nb:Int),(nv:Int),(no:Int)].all regB=true:=by simp [regB_iff];omega
 have hrg:=registers_any [(nb:Int),(nv:Int),(no:Int)] (C+1) (w4.alloc (.cells #[.int .i64 (nb:Int),.int .i64 (nv:Int),.int .i64 (no:Int)] 3)) (blk_at (by rw [hCs])) (by simp)
 rw [hall] at hrg
 obtain ⟨w5,hw5⟩:∃ w5,w5=w4.alloc (.cells #[.int .i64 (nb:Int),.int .i64 (nv:Int),.int .i64 (no:Int)] 3):=⟨_,rfl⟩
 have hB5:Below w.heap.size w w5:=by rw [hw5];exact hB4.alloc hB4.size _
 have hP5:Blk w5 w.heap.size 26 #[v1,v2,v3]:=by rw [hw5];exact hP4.alloc _
 have hF5:FrAt w5 (w.heap.size+1) f:=by rw [hw5];exact hF4.alloc _
 have hZ5:FrAt w5 (w.heap.size+1+1) Fra.zero:=by rw [hw5];exact hZ4.alloc _
 have hY5:Blk w5 Y 95 #[.int .u8 8,.int .i64 xa,.int .i64 (nb:Int),.int .i64 xc,.int .i64 xk]:=by rw [hw5];exact hY4.alloc _
 have hC5:Blk w5 C 169 #[.bool true,.int .i64 yc,.int .i64 (nv:Int),.int .i64 (no:Int)]:=by rw [hw5];exact hC4.alloc _
 have i2:=hY4.cell (k:=2) (v:=.int .i64 (nb:Int)) rfl
 have c2:=hC4.cell (k:=2) (v:=.int .i64 (nv:Int)) rfl
 have c3:=hC4.cell (k:=3) (v:=.int .i64 (no:Int)) rfl
 rw [<- hw5] at hrg
 rw [hw4] at i2 c2 c3
 rw [hC] at c2 c3
 go_wp2_with fail
 rw [<- hw4, <- hw5, <- hC]
 refine hrg.mono ?_
 clear hrg hall i2 c2 c3 hw4 hw5 hC hB4 hP4 hF4 hZ4 hY4 hC4
 rintro e w5 ⟨rfl,rfl⟩
 have nb0:(0:Int)<=(nb:Int):=by omega
 have nb1:(nb:Int)<8:=by omega
 have nv0:(0:Int)<=(nv:Int):=by omega
 have nv1:(nv:Int)<8:=by omega
 have no0:(0:Int)<=(no:Int):=by omega
 have no1:(no:Int)<8:=by omega
 have c0:=hC5.cell (k:=0) (v:=.bool true) rfl
 have c2:=hC5.cell (k:=2) (v:=.int .i64 (nv:Int)) rfl
 have c3:=hC5.cell (k:=3) (v:=.int .i64 (no:Int)) rfl
 have i0:=hY5.cell (k:=0) (v:=.int .u8 8) rfl
 have i2:=hY5.cell (k:=2) (v:=.int .i64 (nb:Int)) rfl
 obtain ⟨g2,hg2⟩:∃ g2,g2=f:=⟨_,rfl⟩
 rw [<- hg2] at hF5
 have HG2:Hid (g2=recF ⟨true,yc,(nv:Int),(no:Int)⟩ f v ok):=Lib.hid hg2
 clear hg2
 have e1:=fra_cell hF5 hnb
 have e2:=hF5.frozen (2+nb)
 obtain ⟨w8,hw8⟩:∃ w8,w8=w5.setCell ⟨w.heap.size+1,2+nb,none⟩ (.int .i64 k):=⟨_,rfl⟩
 have hB8:Below w.heap.size w w8:=by rw [hw8];exact hB5.setCell (by simp) _
 have hP8:Blk w8 w.heap.size 26 #[v1,v2,v3]:=by rw [hw8];exact hP5.beside (by simp) _
 have hF8:FrAt w8 (w.heap.size+1) (g2.put nb k):=by rw [hw8];exact fra_put hF5 hnb k
 have hZ8:FrAt w8 (w.heap.size+1+1) Fra.zero:=by rw [hw8];exact hZ5.beside (by simp) _
 have hY8:Blk w8 Y 95 #[.int .u8 8,.int .i64 xa,.int .i64 (nb:Int),.int .i64 xc,.int .i64 xk]:=by rw [hw8];exact hY5.beside (by simp;omega) _
 have hC8:Blk w8 C 169 #[.bool true,.int .i64 yc,.int .i64 (nv:Int),.int .i64 (no:Int)]:=by rw [hw8];exact hC5.beside (by simp;omega) _
 go_upto_region 14 with fail
 rw [<- hw8]
 clear hw8 e1 e2 hB5 hP5 hF5 hZ5 hY5 hC5 i0 i2 c0 c2 c3
 obtain ⟨g3,hg3⟩:∃ g3,g3=g2.put nb k:=⟨_,rfl⟩
 rw [<- hg3] at hF8
 have i0:=hY8.cell (k:=0) (v:=.int .u8 8) rfl
 have HG3:Hid (g3=numF ⟨8,xa,(nb:Int),xc,xk⟩ (recF ⟨true,yc,(nv:Int),(no:Int)⟩ f v ok) k):=Lib.hid (by rw [hg3,HG2.out];rfl)
 clear hg3
 have hp3:g3.p=f.p:=by rw [HG3.out,numF_p,recF_p]
 have hwp:IntKind.i64.wrap (g3.p+1)=g3.p+1:=by rw [IntKind.wrap_i64,hp3];omega
 have e1:=hF8.cell (k:=1) (v:=.int .i64 g3.p) rfl
 have e2:=hF8.frozen 1
 obtain ⟨wa,hwa⟩:∃ wa,wa=w8.setCell ⟨w.heap.size+1,1,none⟩ (.int .i64 (g3.p+1)):=⟨_,rfl⟩
 clear hp3
 have hBa:Below w.heap.size w wa:=by rw [hwa];exact hB8.setCell (by simp) _
 have hPa:Blk wa w.heap.size 26 #[v1,v2,v3]:=by rw [hwa];exact hP8.beside (by simp) _
 have hFa:FrAt wa (w.heap.size+1) (g3.goto (g3.p+1)):=by rw [hwa];exact fra_goto hF8 (g3.p+1)
 have hZa:FrAt wa (w.heap.size+1+1) Fra.zero:=by rw [hwa];exact hZ8.beside (by simp) _
 have hYa:Blk wa Y 95 #[.int .u8 8,.int .i64 xa,.int .i64 (nb:Int),.int .i64 xc,.int .i64 xk]:=by rw [hwa];exact hY8.beside (by simp;omega) _
 have hCa:Blk wa C 169 #[.bool true,.int .i64 yc,.int .i64 (nv:Int),.int .i64 (no:Int)]:=by rw [hwa];exact hC8.beside (by simp;omega) _
 go_upto_region 16 with fail
 rw [<- hwa]
 clear hwa e1 e2 hwp hB8 hP8 hF8 hZ8 hY8 hC8 i0 
 obtain ⟨g4,hg4⟩:∃ g4,g4=g3.goto (g3.p+1):=⟨_,rfl⟩
 rw [<- hg4] at hFa
 have HG4:Hid (g4=doneG ⟨true,yc,(nv:Int),(no:Int)⟩ ⟨8,xa,(nb:Int),xc,xk⟩ f k v ok):=Lib.hid (by rw [hg4,HG3.out];unfold doneG pcF;rw [if_neg (by simp)])
 clear hg4
 have harr:=arrived_ok wa (h.later hBa) hs g4 (by rw [HG4.out];exact hat)
 clear hat
 have p0:=hPa.cell (k:=0) (v:=v1) rfl
 have p1:=hPa.cell (k:=1) (v:=v2) rfl
 have p2:=hPa.cell (k:=2) (v:=v3) rfl
 obtain ⟨q0,q1,q2,q3,q4,q5,q6,q7,q8,q9⟩:=fra_cells hFa
 go_wp2_with fail
 refine harr.mono ?_
 rintro e wb ⟨rfl,hbb⟩
 have hBb:=below_next hBa hbb (Nat.le_refl _)
 have hZb:=hZa.later hbb hZa.lt
 clear harr hbb hBa hPa hFa hZa hYa hCa p0 p1 p2 q0 q1 q2 q3 q4 q5 q6 q7 q8 q9
 obtain ⟨z0,z1,z2,z3,z4,z5,z6,z7,z8,z9⟩:=fra_cells hZb
 have zf:=hZb.frozen
 obtain ⟨w9,hw9,hX9,hb9⟩:∃ w9,w9=((((((((((wb.setCell ⟨w.heap.size+1+1,0,none⟩ (.int .i64 g4.c)).setCell ⟨w.heap.size+1+1,1,none⟩ (.int .i64 g4.p)).setCell ⟨w.heap.size+1+1,2,none⟩ (.int .i64 g4.r0)).setCell ⟨w.heap.size+1+1,3,none⟩ (.int .i64 g4.r1)).setCell ⟨w.heap.size+1+1,4,none⟩ (.int .i64 g4.r2)).setCell ⟨w.heap.size+1+1,5,none⟩ (.int .i64 g4.r3)).setCell ⟨w.heap.size+1+1,6,none⟩ (.int .i64 g4.r4)).setCell ⟨w.heap.size+1+1,7,none⟩ (.int .i64 g4.r5)).setCell ⟨w.heap.size+1+1,8,none⟩ (.int .i64 g4.r6)).setCell ⟨w.heap.size+1+1,9,none⟩ (.int .i64 g4.r7))/\Blk w9 (w.heap.size+1+1) 61 (fraA g4)/\But [w.heap.size+1+1] wb w9:=⟨_,rfl,sto10 hZb (.int .i64 g4.c) (.int .i64 g4.p) (.int .i64 g4.r0) (.int .i64 g4.r1) (.int .i64 g4.r2) (.int .i64 g4.r3) (.int .i64 g4.r4) (.int .i64 g4.r5) (.int .i64 g4.r6) (.int .i64 g4.r7)⟩
 have hB9:=below_but hBb hb9 (Nat.le_refl _) (by omega)
 go_wp2_with fail
 rw [<- hw9]
 obtain ⟨g0,g1,g2,g3',g4',g5,g6,g7,g8,g9⟩:=fra_cells hX9
 refine bodyPost_ret (v:=.tuple #[fraV g4,.int .i64 0]) (by simp [results,Tryz.f142,go_sem,g0,g1,g2,g3',g4',g5,g6,g7,g8,g9]) rfl ?_
 exact ⟨by rw [HG4.out],hB9⟩
theorem done_s10 {lo hi:Nat} {v1 v2 v3:Value} {p:Prg} (w:World) (h:PrgAt lo hi w v1 v2 v3 p) (hs:Small p) (f:Fra) (k v:Int) (ok:Bool) (hm:checkW p=none) {nb:Nat} {xa xc xk:Int} (hx:atF p f=some ⟨10,xa,(nb:Int),xc,xk⟩) (hl:locO 10=false) (hnb:nb<8) {yc:Int} {nv no:Nat} (hnv:nv<8) (hno:no<8) (hserved:∀ W,Below w.heap.size w W->Calls Tryz.prog 163 #[.agg #[v1,v2,v3],.agg #[.int .u8 10,.int .i64 xa,.int .i64 (nb:Int),.int .i64 xc,.int .i64 xk],.int .i64 k] W fun e w'=>e=.returned (.tuple #[.agg #[.bool true,.int .i64 yc,.int .i64 (nv:Int),.int .i64 (no:Int)],.bool true])/\Below W.heap.size W w') :
  Calls Tryz.prog 142 #[.agg #[v1,v2,v3],fraV f,.int .i64 k,.int .i64 v,.bool ok] w fun e w'=>e=.returned (.tuple #[fraV (doneG ⟨true,yc,(nv:Int),(no:Int)⟩ ⟨10,xa,(nb:Int),xc,xk⟩ f k v ok),.int .i64 0])/\Below w.heap.size w w':=by
 have hxo:=(at_ok h hx).o
 have hpc:=at_pc hs hx
 have hat:=doneG_at hm hx hl ⟨true,yc,(nv:Int),(no:Int)⟩ k v ok
 obtain ⟨wf,hwf⟩:∃ wf,wf=((w.alloc (.cells #[v1,v2,v3] 26)).alloc (.cells (fraA f) 61)).alloc (.cells (fraA Fra.zero) 61):=⟨_,rfl⟩
 have hB:Below w.heap.size w wf:=by rw [hwf];exact below3 w _ _ _
 have hP:Blk wf w.heap.size 26 #[v1,v2,v3]:=by rw [hwf];exact ((blk_new w _ _).alloc _).alloc _
 have hF:FrAt wf (w.heap.size+1) f:=by rw [hwf];exact (blk_at (by simp)).alloc _
 have hZ:FrAt wf (w.heap.size+1+1) Fra.zero:=by rw [hwf];exact blk_at (by simp)
 have hsz:wf.heap.size=w.heap.size+1+1+1:=by rw [hwf];simp
 have hc:Calls Tryz.prog 85 #[.agg #[v1,v2,v3],fraV f] wf fun e w'=>e=.returned (.tuple #[.agg #[.int .u8 10,.int .i64 xa,.int .i64 (nb:Int),.int .i64 xc,.int .i64 xk],.bool true])/\Below wf.heap.size wf w':=by have:=fat_any wf (h.later hB) hs f;rw [hx] at this;exact this
 go_enter Tryz.func142,Tryz.ntmps142
 go_wp2_with fail
 rw [show (#[.int .i64 0,.int .i64 0,.int .i64 0,.int .i64 0,.int .i64 0,.int .i64 0,.int .i64 0,.int .i64 0,.int .i64 0,.int .i64 0]:Array Value)=fraA Fra.zero from rfl, <- hwf]
 clear hwf
 refine hc.mono ?_
 rintro e w1 ⟨rfl,hb⟩
 have hB1:=below_next hB hb (Nat.le_refl _)
 have hP1:=hP.later hb hP.lt
 have hF1:=hF.later hb hF.lt
 have hZ1:=hZ.later hb hZ.lt
 have hs1:w.heap.size+1+1+1<=w1.heap.size:=by rw [<- hsz];exact hb.size
 obtain ⟨w2,hw2⟩:∃ w2,w2=w1.alloc (.cells #[.int .u8 10,.int .i64 xa,.int .i64 (nb:Int),.int .i64 xc,.int .i64 xk] 95):=⟨_,rfl⟩
 obtain ⟨Y,hY⟩:∃ Y,Y=w1.heap.size:=⟨_,rfl⟩
 have hB2:Below w.heap.size w w2:=by rw [hw2];exact hB1.alloc hB1.size _
 have hP2:Blk w2 w.heap.size 26 #[v1,v2,v3]:=by rw [hw2];exact hP1.alloc _
 have hF2:FrAt w2 (w.heap.size+1) f:=by rw [hw2];exact hF1.alloc _
 have hZ2:FrAt w2 (w.heap.size+1+1) Fra.zero:=by rw [hw2];exact hZ1.alloc _
 have hY2:Blk w2 Y 95 #[.int .u8 10,.int .i64 xa,.int .i64 (nb:Int),.int .i64 xc,.int .i64 xk]:=by rw [hw2,hY];exact blk_new w1 _ _
 have hYl:w.heap.size+1+1<Y:=by omega
 have hYs:Y<w2.heap.size:=hY2.lt
 clear hc hB hb hP hF hZ hsz hB1 hP1 hF1 hZ1 hs1
 have hloc:=local_any 10 w2 hxo
 rw [hl,hw2] at hloc
 have hsv:=hserved w2 hB2
 clear hserved hl hxo
 have p0:=hP2.cell (k:=0) (v:=v1) rfl
 have p1:=hP2.cell (k:=1) (v:=v2) rfl
 have p2:=hP2.cell (k:=2) (v:=v3) rfl
 have i0:=hY2.cell (k:=0) (v:=.int .u8 10) rfl
 have i1:=hY2.cell (k:=1) (v:=.int .i64 xa) rfl
 have i2:=hY2.cell (k:=2) (v:=.int .i64 (nb:Int)) rfl
 have i3:=hY2.cell (k:=3) (v:=.int .i64 xc) rfl
 have i4:=hY2.cell (k:=4) (v:=.int .i64 xk) rfl
 rw [hw2] at p0 p1 p2 i0 i1 i2 i3 i4
 rw [hY] at i0 i1 i2 i3 i4
 go_wp2_with (go_at_call 162;refine hloc.mono ?_;rintro e w' ⟨rfl,rfl⟩)
 rw [<- hw2, <- hY]
 clear hw2 hY hloc p0 p1 p2 i0 i1 i2 i3 i4
 refine hsv.mono ?_
 clear hsv
 rintro e w3 ⟨rfl,hb3⟩
 have hB3:=below_next hB2 hb3 (Nat.le_refl _)
 have hP3:=hP2.later hb3 hP2.lt
 have hF3:=hF2.later hb3 hF2.lt
 have hZ3:=hZ2.later hb3 hZ2.lt
 have hY3:=hY2.later hb3 hY2.lt
 have hY3l:=hY3.lt
 obtain ⟨w4,hw4⟩:∃ w4,w4=w3.alloc (.cells #[.bool true,.int .i64 yc,.int .i64 (nv:Int),.int .i64 (no:Int)] 169):=⟨_,rfl⟩
 obtain ⟨C,hC⟩:∃ C,C=w3.heap.size:=⟨_,rfl⟩
 have hB4:Below w.heap.size w w4:=by rw [hw4];exact hB3.alloc hB3.size _
 have hP4:Blk w4 w.heap.size 26 #[v1,v2,v3]:=by rw [hw4];exact hP3.alloc _
 have hF4:FrAt w4 (w.heap.size+1) f:=by rw [hw4];exact hF3.alloc _
 have hZ4:FrAt w4 (w.heap.size+1+1) Fra.zero:=by rw [hw4];exact hZ3.alloc _
 have hY4:Blk w4 Y 95 #[.int .u8 10,.int .i64 xa,.int .i64 (nb:Int),.int .i64 xc,.int .i64 xk]:=by rw [hw4];exact hY3.alloc _
 have hC4:Blk w4 C 169 #[.bool true,.int .i64 yc,.int .i64 (nv:Int),.int .i64 (no:Int)]:=by rw [hw4,hC];exact blk_new w3 _ _
 have hCl:Y<C:=by rw [hC];exact hY3l
 have hCs:w4.heap.size=C+1:=by rw [hw4,hC];simp
 clear hb3 hB2 hP2 hF2 hZ2 hY2 hB3 hP3 hF3 hZ3 hY3 hYs hY3l
 have hall : [(nb:Int),(nv:Int),(no:Int)].all regB=true:=by simp [regB_iff];omega
 have hrg:=registers_any [(nb:Int),(nv:Int),(no:Int)] (C+1) (w4.alloc (.cells #[.int .i64 (nb:Int),.int .i64 (nv:Int),.int .i64 (no:Int)] 3)) (blk_at (by rw [hCs])) (by simp)
 rw [hall] at hrg
 obtain ⟨w5,hw5⟩:∃ w5,w5=w4.alloc (.cells #[.int .i64 (nb:Int),.int .i64 (nv:Int),.int .i64 (no:Int)] 3):=⟨_,rfl⟩
 have hB5:Below w.heap.size w w5:=by rw [hw5];exact hB4.alloc hB4.size _
 have hP5:Blk w5 w.heap.size 26 #[v1,v2,v3]:=by rw [hw5];exact hP4.alloc _
 have hF5:FrAt w5 (w.heap.size+1) f:=by rw [hw5];exact hF4.alloc _
 have hZ5:FrAt w5 (w.heap.size+1+1) Fra.zero:=by rw [hw5];exact hZ4.alloc _
 have hY5:Blk w5 Y 95 #[.int .u8 10,.int .i64 xa,.int .i64 (nb:Int),.int .i64 xc,.int .i64 xk]:=by rw [hw5];exact hY4.alloc _
 have hC5:Blk w5 C 169 #[.bool true,.int .i64 yc,.int .i64 (nv:Int),.int .i64 (no:Int)]:=by rw [hw5];exact hC4.alloc _
 have i2:=hY4.cell (k:=2) (v:=.int .i64 (nb:Int)) rfl
 have c2:=hC4.cell (k:=2) (v:=.int .i64 (nv:Int)) rfl
 have c3:=hC4.cell (k:=3) (v:=.int .i64 (no:Int)) rfl
 rw [<- hw5] at hrg
 rw [hw4] at i2 c2 c3
 rw [hC] at c2 c3
 go_wp2_with fail
 rw [<- hw4, <- hw5, <- hC]
 refine hrg.mono ?_
 clear hrg hall i2 c2 c3 hw4 hw5 hC hB4 hP4 hF4 hZ4 hY4 hC4
 rintro e w5 ⟨rfl,rfl⟩
 have nb0:(0:Int)<=(nb:Int):=by omega
 have nb1:(nb:Int)<8:=by omega
 have nv0:(0:Int)<=(nv:Int):=by omega
 have nv1:(nv:Int)<8:=by omega
 have no0:(0:Int)<=(no:Int):=by omega
 have no1:(no:Int)<8:=by omega
 have c0:=hC5.cell (k:=0) (v:=.bool true) rfl
 have c2:=hC5.cell (k:=2) (v:=.int .i64 (nv:Int)) rfl
 have c3:=hC5.cell (k:=3) (v:=.int .i64 (no:Int)) rfl
 have i0:=hY5.cell (k:=0) (v:=.int .u8 10) rfl
 have i2:=hY5.cell (k:=2) (v:=.int .i64 (nb:Int)) rfl
 obtain ⟨g2,hg2⟩:∃ g2,g2=f:=⟨_,rfl⟩
 rw [<- hg2] at hF5
 have HG2:Hid (g2=recF ⟨true,yc,(nv:Int),(no:Int)⟩ f v ok):=Lib.hid hg2
 clear hg2
 obtain ⟨g3,hg3⟩:∃ g3,g3=g2:=⟨_,rfl⟩
 rw [<- hg3] at hF5
 have HG3:Hid (g3=numF ⟨10,xa,(nb:Int),xc,xk⟩ (recF ⟨true,yc,(nv:Int),(no:Int)⟩ f v ok) k):=Lib.hid (by rw [hg3,HG2.out];unfold numF;rw [if_neg (by simp)])
 clear hg3
 have HG4:Hid (g3=doneG ⟨true,yc,(nv:Int),(no:Int)⟩ ⟨10,xa,(nb:Int),xc,xk⟩ f k v ok):=Lib.hid (by rw [HG3.out];rfl)
 have harr:=arrived_ok w5 (h.later hB5) hs g3 (by rw [HG4.out];exact hat)
 clear hat
 have p0:=hP5.cell (k:=0) (v:=v1) rfl
 have p1:=hP5.cell (k:=1) (v:=v2) rfl
 have p2:=hP5.cell (k:=2) (v:=v3) rfl
 obtain ⟨q0,q1,q2,q3,q4,q5,q6,q7,q8,q9⟩:=fra_cells hF5
 go_wp2_with fail
 refine harr.mono ?_
 rintro e wb ⟨rfl,hbb⟩
 have hBb:=below_next hB5 hbb (Nat.le_refl _)
 have hZb:=hZ5.later hbb hZ5.lt
 clear harr hbb hB5 hP5 hF5 hZ5 hY5 hC5 p0 p1 p2 q0 q1 q2 q3 q4 q5 q6 q7 q8 q9
 obtain ⟨z0,z1,z2,z3,z4,z5,z6,z7,z8,z9⟩:=fra_cells hZb
 have zf:=hZb.frozen
 obtain ⟨w9,hw9,hX9,hb9⟩:∃ w9,w9=((((((((((wb.setCell ⟨w.heap.size+1+1,0,none⟩ (.int .i64 g3.c)).setCell ⟨w.heap.size+1+1,1,none⟩ (.int .i64 g3.p)).setCell ⟨w.heap.size+1+1,2,none⟩ (.int .i64 g3.r0)).setCell ⟨w.heap.size+1+1,3,none⟩ (.int .i64 g3.r1)).setCell ⟨w.heap.size+1+1,4,none⟩ (.int .i64 g3.r2)).setCell ⟨w.heap.size+1+1,5,none⟩ (.int .i64 g3.r3)).setCell ⟨w.heap.size+1+1,6,none⟩ (.int .i64 g3.r4)).setCell ⟨w.heap.size+1+1,7,none⟩ (.int .i64 g3.r5)).setCell ⟨w.heap.size+1+1,8,none⟩ (.int .i64 g3.r6)).setCell ⟨w.heap.size+1+1,9,none⟩ (.int .i64 g3.r7))/\Blk w9 (w.heap.size+1+1) 61 (fraA g3)/\But [w.heap.size+1+1] wb w9:=⟨_,rfl,sto10 hZb (.int .i64 g3.c) (.int .i64 g3.p) (.int .i64 g3.r0) (.int .i64 g3.r1) (.int .i64 g3.r2) (.int .i64 g3.r3) (.int .i64 g3.r4) (.int .i64 g3.r5) (.int .i64 g3.r6) (.int .i64 g3.r7)⟩
 have hB9:=below_but hBb hb9 (Nat.le_refl _) (by omega)
 go_wp2_with fail
 rw [<- hw9]
 obtain ⟨g0,g1,g2,g3',g4',g5,g6,g7,g8,g9⟩:=fra_cells hX9
 refine bodyPost_ret (v:=.tuple #[fraV g3,.int .i64 0]) (by simp [results,Tryz.f142,go_sem,g0,g1,g2,g3',g4',g5,g6,g7,g8,g9]) rfl ?_
 exact ⟨by rw [HG4.out],hB9⟩
theorem done_so {lo hi:Nat} {v1 v2 v3:Value} {p:Prg} (w:World) (h:PrgAt lo hi w v1 v2 v3 p) (hs:Small p) (f:Fra) (k v:Int) (ok:Bool) (hm:checkW p=none) {o:Nat} {nb:Nat} {xa xc xk:Int} (hx:atF p f=some ⟨o,xa,(nb:Int),xc,xk⟩) (hl:locO o=false) (h8:o ≠ 8) (h10:o ≠ 10) (hnb:nb<8) {yc:Int} {nv no:Nat} (hnv:nv<8) (hno:no<8) (hserved:∀ W,Below w.heap.size w W->Calls Tryz.prog 163 #[.agg #[v1,v2,v3],.agg #[.int .u8 (o:Int),.int .i64 xa,.int .i64 (nb:Int),.int .i64 xc,.int .i64 xk],.int .i64 k] W fun e w'=>e=.returned (.tuple #[.agg #[.bool true,.int .i64 yc,.int .i64 (nv:Int),.int .i64 (no:Int)],.bool true])/\Below W.heap.size W w') :
  Calls Tryz.prog 142 #[.agg #[v1,v2,v3],fraV f,.int .i64 k,.int .i64 v,.bool ok] w fun e w'=>e=.returned (.tuple #[fraV (doneG ⟨true,yc,(nv:Int),(no:Int)⟩ ⟨o,xa,(nb:Int),xc,xk⟩ f k v ok),.int .i64 0])/\Below w.heap.size w w':=by
 have hxo:=(at_ok h hx).o
 have hpc:=at_pc hs hx
 have hat:=doneG_at hm hx hl ⟨true,yc,(nv:Int),(no:Int)⟩ k v ok
 have d8:((o:Int) == 8)=false:=by simp;omega
 have d10:((o:Int) != 10)=true:=by simp;omega
 obtain ⟨wf,hwf⟩:∃ wf,wf=((w.alloc (.cells #[v1,v2,v3] 26)).alloc (.cells (fraA f) 61)).alloc (.cells (fraA Fra.zero) 61):=⟨_,rfl⟩
 have hB:Below w.heap.size w wf:=by rw [hwf];exact below3 w _ _ _
 have hP:Blk wf w.heap.size 26 #[v1,v2,v3]:=by rw [hwf];exact ((blk_new w _ _).alloc _).alloc _
 have hF:FrAt wf (w.heap.size+1) f:=by rw [hwf];exact (blk_at (by simp)).alloc _
 have hZ:FrAt wf (w.heap.size+1+1) Fra.zero:=by rw [hwf];exact blk_at (by simp)
 have hsz:wf.heap.size=w.heap.size+1+1+1:=by rw [hwf];simp
 have hc:Calls Tryz.prog 85 #[.agg #[v1,v2,v3],fraV f] wf fun e w'=>e=.returned (.tuple #[.agg #[.int .u8 (o:Int),.int .i64 xa,.int .i64 (nb:Int),.int .i64 xc,.int .i64 xk],.bool true])/\Below wf.heap.size wf w':=by have:=fat_any wf (h.later hB) hs f;rw [hx] at this;exact this
 go_enter Tryz.func142,Tryz.ntmps142
 go_wp2_with fail
 rw [show (#[.int .i64 0,.int .i64 0,.int .i64 0,.int .i64 0,.int .i64 0,.int .i64 0,.int .i64 0,.int .i64 0,.int .i64 0,.int .i64 0]:Array Value)=fraA Fra.zero from rfl, <- hwf]
 clear hwf
 refine hc.mono ?_
 rintro e w1 ⟨rfl,hb⟩
 have hB1:=below_next hB hb (Nat.le_refl _)
 have hP1:=hP.later hb hP.lt
 have hF1:=hF.later hb hF.lt
 have hZ1:=hZ.later hb hZ.lt
 have hs1:w.heap.size+1+1+1<=w1.heap.size:=by rw [<- hsz];exact hb.size
 obtain ⟨w2,hw2⟩:∃ w2,w2=w1.alloc (.cells #[.int .u8 (o:Int),.int .i64 xa,.int .i64 (nb:Int),.int .i64 xc,.int .i64 xk] 95):=⟨_,rfl⟩
 obtain ⟨Y,hY⟩:∃ Y,Y=w1.heap.size:=⟨_,rfl⟩
 have hB2:Below w.heap.size w w2:=by rw [hw2];exact hB1.alloc hB1.size _
 have hP2:Blk w2 w.heap.size 26 #[v1,v2,v3]:=by rw [hw2];exact hP1.alloc _
 have hF2:FrAt w2 (w.heap.size+1) f:=by rw [hw2];exact hF1.alloc _
 have hZ2:FrAt w2 (w.heap.size+1+1) Fra.zero:=by rw [hw2];exact hZ1.alloc _
 have hY2:Blk w2 Y 95 #[.int .u8 (o:Int),.int .i64 xa,.int .i64 (nb:Int),.int .i64 xc,.int .i64 xk]:=by rw [hw2,hY];exact blk_new w1 _ _
 have hYl:w.heap.size+1+1<Y:=by omega
 have hYs:Y<w2.heap.size:=hY2.lt
 clear hc hB hb hP hF hZ hsz hB1 hP1 hF1 hZ1 hs1
 have hloc:=local_any o w2 hxo
 rw [hl,hw2] at hloc
 have hsv:=hserved w2 hB2
 clear hserved hl hxo
 have p0:=hP2.cell (k:=0) (v:=v1) rfl
 have p1:=hP2.cell (k:=1) (v:=v2) rfl
 have p2:=hP2.cell (k:=2) (v:=v3) rfl
 have i0:=hY2.cell (k:=0) (v:=.int .u8 (o:Int)) rfl
 have i1:=hY2.cell (k:=1) (v:=.int .i64 xa) rfl
 have i2:=hY2.cell (k:=2) (v:=.int .i64 (nb:Int)) rfl
 have i3:=hY2.cell (k:=3) (v:=.int .i64 xc) rfl
 have i4:=hY2.cell (k:=4) (v:=.int .i64 xk) rfl
 rw [hw2] at p0 p1 p2 i0 i1 i2 i3 i4
 rw [hY] at i0 i1 i2 i3 i4
 go_wp2_with (go_at_call 162;refine hloc.mono ?_;rintro e w' ⟨rfl,rfl⟩)
 rw [<- hw2, <- hY]
 clear hw2 hY hloc p0 p1 p2 i0 i1 i2 i3 i4
 refine hsv.mono ?_
 clear hsv
 rintro e w3 ⟨rfl,hb3⟩
 have hB3:=below_next hB2 hb3 (Nat.le_refl _)
 have hP3:=hP2.later hb3 hP2.lt
 have hF3:=hF2.later hb3 hF2.lt
 have hZ3:=hZ2.later hb3 hZ2.lt
 have hY3:=hY2.later hb3 hY2.lt
 have hY3l:=hY3.lt
 obtain ⟨w4,hw4⟩:∃ w4,w4=w3.alloc (.cells #[.bool true,.int .i64 yc,.int .i64 (nv:Int),.int .i64 (no:Int)] 169):=⟨_,rfl⟩
 obtain ⟨C,hC⟩:∃ C,C=w3.heap.size:=⟨_,rfl⟩
 have hB4:Below w.heap.size w w4:=by rw [hw4];exact hB3.alloc hB3.size _
 have hP4:Blk w4 w.heap.size 26 #[v1,v2,v3]:=by rw [hw4];exact hP3.alloc _
 have hF4:FrAt w4 (w.heap.size+1) f:=by rw [hw4];exact hF3.alloc _
 have hZ4:FrAt w4 (w.heap.size+1+1) Fra.zero:=by rw [hw4];exact hZ3.alloc _
 have hY4:Blk w4 Y 95 #[.int .u8 (o:Int),.int .i64 xa,.int .i64 (nb:Int),.int .i64 xc,.int .i64 xk]:=by rw [hw4];exact hY3.alloc _
 have hC4:Blk w4 C 169 #[.bool true,.int .i64 yc,.int .i64 (nv:Int),.int .i64 (no:Int)]:=by rw [hw4,hC];exact blk_new w3 _ _
 have hCl:Y<C:=by rw [hC];exact hY3l
 have hCs:w4.heap.size=C+1:=by rw [hw4,hC];simp
 clear hb3 hB2 hP2 hF2 hZ2 hY2 hB3 hP3 hF3 hZ3 hY3 hYs hY3l
 have hall : [(nb:Int),(nv:Int),(no:Int)].all regB=true:=by simp [regB_iff];omega
 have hrg:=registers_any [(nb:Int),(nv:Int),(no:Int)] (C+1) (w4.alloc (.cells #[.int .i64 (nb:Int),.int .i64 (nv:Int),.int .i64 (no:Int)] 3)) (blk_at (by rw [hCs])) (by simp)
 rw [hall] at hrg
 obtain ⟨w5,hw5⟩:∃ w5,w5=w4.alloc (.cells #[.int .i64 (nb:Int),.int .i64 (nv:Int),.int .i64 (no:Int)] 3):=⟨_,rfl⟩
 have hB5:Below w.heap.size w w5:=by rw [hw5];exact hB4.alloc hB4.size _
 have hP5:Blk w5 w.heap.size 26 #[v1,v2,v3]:=by rw [hw5];exact hP4.alloc _
 have hF5:FrAt w5 (w.heap.size+1) f:=by rw [hw5];exact hF4.alloc _
 have hZ5:FrAt w5 (w.heap.size+1+1) Fra.zero:=by rw [hw5];exact hZ4.alloc _
 have hY5:Blk w5 Y 95 #[.int .u8 (o:Int),.int .i64 xa,.int .i64 (nb:Int),.int .i64 xc,.int .i64 xk]:=by rw [hw5];exact hY4.alloc _
 have hC5:Blk w5 C 169 #[.bool true,.int .i64 yc,.int .i64 (nv:Int),.int .i64 (no:Int)]:=by rw [hw5];exact hC4.alloc _
 have i2:=hY4.cell (k:=2) (v:=.int .i64 (nb:Int)) rfl
 have c2:=hC4.cell (k:=2) (v:=.int .i64 (nv:Int)) rfl
 have c3:=hC4.cell (k:=3) (v:=.int .i64 (no:Int)) rfl
 rw [<- hw5] at hrg
 rw [hw4] at i2 c2 c3
 rw [hC] at c2 c3
 go_wp2_with fail
 rw [<- hw4, <- hw5, <- hC]
 refine hrg.mono ?_
 clear hrg hall i2 c2 c3 hw4 hw5 hC hB4 hP4 hF4 hZ4 hY4 hC4
 rintro e w5 ⟨rfl,rfl⟩
 have nb0:(0:Int)<=(nb:Int):=by omega
 have nb1:(nb:Int)<8:=by omega
 have nv0:(0:Int)<=(nv:Int):=by omega
 have nv1:(nv:Int)<8:=by omega
 have no0:(0:Int)<=(no:Int):=by omega
 have no1:(no:Int)<8:=by omega
 have c0:=hC5.cell (k:=0) (v:=.bool true) rfl
 have c2:=hC5.cell (k:=2) (v:=.int .i64 (nv:Int)) rfl
 have c3:=hC5.cell (k:=3) (v:=.int .i64 (no:Int)) rfl
 have i0:=hY5.cell (k:=0) (v:=.int .u8 (o:Int)) rfl
 have i2:=hY5.cell (k:=2) (v:=.int .i64 (nb:Int)) rfl
 obtain ⟨g2,hg2⟩:∃ g2,g2=f:=⟨_,rfl⟩
 rw [<- hg2] at hF5
 have HG2:Hid (g2=recF ⟨true,yc,(nv:Int),(no:Int)⟩ f v ok):=Lib.hid hg2
 clear hg2
 obtain ⟨g3,hg3⟩:∃ g3,g3=g2:=⟨_,rfl⟩
 rw [<- hg3] at hF5
 have HG3:Hid (g3=numF ⟨o,xa,(nb:Int),xc,xk⟩ (recF ⟨true,yc,(nv:Int),(no:Int)⟩ f v ok) k):=Lib.hid (by rw [hg3,HG2.out];unfold numF;rw [if_neg (by exact h8)])
 clear hg3
 have hp3:g3.p=f.p:=by rw [HG3.out,numF_p,recF_p]
 have hwp:IntKind.i64.wrap (g3.p+1)=g3.p+1:=by rw [IntKind.wrap_i64,hp3];omega
 have e1:=hF5.cell (k:=1) (v:=.int .i64 g3.p) rfl
 have e2:=hF5.frozen 1
 obtain ⟨wa,hwa⟩:∃ wa,wa=w5.setCell ⟨w.heap.size+1,1,none⟩ (.int .i64 (g3.p+1)):=⟨_,rfl⟩
 clear hp3
 have hBa:Below w.heap.size w wa:=by rw [hwa];exact hB5.setCell (by simp) _
 have hPa:Blk wa w.heap.size 26 #[v1,v2,v3]:=by rw [hwa];exact hP5.beside (by simp) _
 have hFa:FrAt wa (w.heap.size+1) (g3.goto (g3.p+1)):=by rw [hwa];exact fra_goto hF5 (g3.p+1)
 have hZa:FrAt wa (w.heap.size+1+1) Fra.zero:=by rw [hwa];exact hZ5.beside (by simp) _
 have hYa:Blk wa Y 95 #[.int .u8 (o:Int),.int .i64 xa,.int .i64 (nb:Int),.int .i64 xc,.int .i64 xk]:=by rw [hwa];exact hY5.beside (by simp;omega) _
 have hCa:Blk wa C 169 #[.bool true,.int .i64 yc,.int .i64 (nv:Int),.int .i64 (no:Int)]:=by rw [hwa];exact hC5.beside (by simp;omega) _
 go_upto_region 16 with fail
 rw [<- hwa]
 clear hwa e1 e2 hwp hB5 hP5 hF5 hZ5 hY5 hC5 i0 i2 c0 c2 c3
 obtain ⟨g4,hg4⟩:∃ g4,g4=g3.goto (g3.p+1):=⟨_,rfl⟩
 rw [<- hg4] at hFa
 have HG4:Hid (g4=doneG ⟨true,yc,(nv:Int),(no:Int)⟩ ⟨o,xa,(nb:Int),xc,xk⟩ f k v ok):=Lib.hid (by rw [hg4,HG3.out];unfold doneG pcF;rw [if_neg (by exact h10)])
 clear hg4
 have harr:=arrived_ok wa (h.later hBa) hs g4 (by rw [HG4.out];exact hat)
 clear hat
 have p0:=hPa.cell (k:=0) (v:=v1) rfl
 have p1:=hPa.cell (k:=1) (v:=v2) rfl
 have p2:=hPa.cell (k:=2) (v:=v3) rfl
 obtain ⟨q0,q1,q2,q3,q4,q5,q6,q7,q8,q9⟩:=fra_cells hFa
 go_wp2_with fail
 refine harr.mono ?_
 rintro e wb ⟨rfl,hbb⟩
 have hBb:=below_next hBa hbb (Nat.le_refl _)
 have hZb:=hZa.later hbb hZa.lt
 clear harr hbb hBa hPa hFa hZa hYa hCa p0 p1 p2 q0 q1 q2 q3 q4 q5 q6 q7 q8 q9
 obtain ⟨z0,z1,z2,z3,z4,z5,z6,z7,z8,z9⟩:=fra_cells hZb
 have zf:=hZb.frozen
 obtain ⟨w9,hw9,hX9,hb9⟩:∃ w9,w9=((((((((((wb.setCell ⟨w.heap.size+1+1,0,none⟩ (.int .i64 g4.c)).setCell ⟨w.heap.size+1+1,1,none⟩ (.int .i64 g4.p)).setCell ⟨w.heap.size+1+1,2,none⟩ (.int .i64 g4.r0)).setCell ⟨w.heap.size+1+1,3,none⟩ (.int .i64 g4.r1)).setCell ⟨w.heap.size+1+1,4,none⟩ (.int .i64 g4.r2)).setCell ⟨w.heap.size+1+1,5,none⟩ (.int .i64 g4.r3)).setCell ⟨w.heap.size+1+1,6,none⟩ (.int .i64 g4.r4)).setCell ⟨w.heap.size+1+1,7,none⟩ (.int .i64 g4.r5)).setCell ⟨w.heap.size+1+1,8,none⟩ (.int .i64 g4.r6)).setCell ⟨w.heap.size+1+1,9,none⟩ (.int .i64 g4.r7))/\Blk w9 (w.heap.size+1+1) 61 (fraA g4)/\But [w.heap.size+1+1] wb w9:=⟨_,rfl,sto10 hZb (.int .i64 g4.c) (.int .i64 g4.p) (.int .i64 g4.r0) (.int .i64 g4.r1) (.int .i64 g4.r2) (.int .i64 g4.r3) (.int .i64 g4.r4) (.int .i64 g4.r5) (.int .i64 g4.r6) (.int .i64 g4.r7)⟩
 have hB9:=below_but hBb hb9 (Nat.le_refl _) (by omega)
 go_wp2_with fail
 rw [<- hw9]
 obtain ⟨g0,g1,g2,g3',g4',g5,g6,g7,g8,g9⟩:=fra_cells hX9
 refine bodyPost_ret (v:=.tuple #[fraV g4,.int .i64 0]) (by simp [results,Tryz.f142,go_sem,g0,g1,g2,g3',g4',g5,g6,g7,g8,g9]) rfl ?_
 exact ⟨by rw [HG4.out],hB9⟩
theorem done_r8 {lo hi:Nat} {v1 v2 v3:Value} {p:Prg} (w:World) (h:PrgAt lo hi w v1 v2 v3 p) (hs:Small p) (f:Fra) (k v:Int) (ok:Bool) (hm:checkW p=none) {nb:Nat} {xa xc xk:Int} (hx:atF p f=some ⟨8,xa,(nb:Int),xc,xk⟩) (hl:locO 8=false) (hnb:nb<8) {yc:Int} {nv no:Nat} (hnv:nv<8) (hno:no<8) (hserved:∀ W,Below w.heap.size w W->Calls Tryz.prog 163 #[.agg #[v1,v2,v3],.agg #[.int .u8 8,.int .i64 xa,.int .i64 (nb:Int),.int .i64 xc,.int .i64 xk],.int .i64 k] W fun e w'=>e=.returned (.tuple #[.agg #[.bool false,.int .i64 yc,.int .i64 (nv:Int),.int .i64 (no:Int)],.bool true])/\Below W.heap.size W w') :
  Calls Tryz.prog 142 #[.agg #[v1,v2,v3],fraV f,.int .i64 k,.int .i64 v,.bool ok] w fun e w'=>e=.returned (.tuple #[fraV (doneG ⟨false,yc,(nv:Int),(no:Int)⟩ ⟨8,xa,(nb:Int),xc,xk⟩ f k v ok),.int .i64 0])/\Below w.heap.size w w':=by
 have hxo:=(at_ok h hx).o
 have hpc:=at_pc hs hx
 have hat:=doneG_at hm hx hl ⟨false,yc,(nv:Int),(no:Int)⟩ k v ok
 obtain ⟨wf,hwf⟩:∃ wf,wf=((w.alloc (.cells #[v1,v2,v3] 26)).alloc (.cells (fraA f) 61)).alloc (.cells (fraA Fra.zero) 61):=⟨_,rfl⟩
 have hB:Below w.heap.size w wf:=by rw [hwf];exact below3 w _ _ _
 have hP:Blk wf w.heap.size 26 #[v1,v2,v3]:=by rw [hwf];exact ((blk_new w _ _).alloc _).alloc _
 have hF:FrAt wf (w.heap.size+1) f:=by rw [hwf];exact (blk_at (by simp)).alloc _
 have hZ:FrAt wf (w.heap.size+1+1) Fra.zero:=by rw [hwf];exact blk_at (by simp)
 have hsz:wf.heap.size=w.heap.size+1+1+1:=by rw [hwf];simp
 have hc:Calls Tryz.prog 85 #[.agg #[v1,v2,v3],fraV f] wf fun e w'=>e=.returned (.tuple #[.agg #[.int .u8 8,.int .i64 xa,.int .i64 (nb:Int),.int .i64 xc,.int .i64 xk],.bool true])/\Below wf.heap.size wf w':=by have:=fat_any wf (h.later hB) hs f;rw [hx] at this;exact this
 go_enter Tryz.func142,Tryz.ntmps142
 go_wp2_with fail
 rw [show (#[.int .i64 0,.int .i64 0,.int .i64 0,.int .i64 0,.int .i64 0,.int .i64 0,.int .i64 0,.int .i64 0,.int .i64 0,.int .i64 0]:Array Value)=fraA Fra.zero from rfl, <- hwf]
 clear hwf
 refine hc.mono ?_
 rintro e w1 ⟨rfl,hb⟩
 have hB1:=below_next hB hb (Nat.le_refl _)
 have hP1:=hP.later hb hP.lt
 have hF1:=hF.later hb hF.lt
 have hZ1:=hZ.later hb hZ.lt
 have hs1:w.heap.size+1+1+1<=w1.heap.size:=by rw [<- hsz];exact hb.size
 obtain ⟨w2,hw2⟩:∃ w2,w2=w1.alloc (.cells #[.int .u8 8,.int .i64 xa,.int .i64 (nb:Int),.int .i64 xc,.int .i64 xk] 95):=⟨_,rfl⟩
 obtain ⟨Y,hY⟩:∃ Y,Y=w1.heap.size:=⟨_,rfl⟩
 have hB2:Below w.heap.size w w2:=by rw [hw2];exact hB1.alloc hB1.size _
 have hP2:Blk w2 w.heap.size 26 #[v1,v2,v3]:=by rw [hw2];exact hP1.alloc _
 have hF2:FrAt w2 (w.heap.size+1) f:=by rw [hw2];exact hF1.alloc _
 have hZ2:FrAt w2 (w.heap.size+1+1) Fra.zero:=by rw [hw2];exact hZ1.alloc _
 have hY2:Blk w2 Y 95 #[.int .u8 8,.int .i64 xa,.int .i64 (nb:Int),.int .i64 xc,.int .i64 xk]:=by rw [hw2,hY];exact blk_new w1 _ _
 have hYl:w.heap.size+1+1<Y:=by omega
 have hYs:Y<w2.heap.size:=hY2.lt
 clear hc hB hb hP hF hZ hsz hB1 hP1 hF1 hZ1 hs1
 have hloc:=local_any 8 w2 hxo
 rw [hl,hw2] at hloc
 have hsv:=hserved w2 hB2
 clear hserved hl hxo
 have p0:=hP2.cell (k:=0) (v:=v1) rfl
 have p1:=hP2.cell (k:=1) (v:=v2) rfl
 have p2:=hP2.cell (k:=2) (v:=v3) rfl
 have i0:=hY2.cell (k:=0) (v:=.int .u8 8) rfl
 have i1:=hY2.cell (k:=1) (v:=.int .i64 xa) rfl
 have i2:=hY2.cell (k:=2) (v:=.int .i64 (nb:Int)) rfl
 have i3:=hY2.cell (k:=3) (v:=.int .i64 xc) rfl
 have i4:=hY2.cell (k:=4) (v:=.int .i64 xk) rfl
 rw [hw2] at p0 p1 p2 i0 i1 i2 i3 i4
 rw [hY] at i0 i1 i2 i3 i4
 go_wp2_with (go_at_call 162;refine hloc.mono ?_;rintro e w' ⟨rfl,rfl⟩)
 rw [<- hw2, <- hY]
 clear hw2 hY hloc p0 p1 p2 i0 i1 i2 i3 i4
 refine hsv.mono ?_
 clear hsv
 rintro e w3 ⟨rfl,hb3⟩
 have hB3:=below_next hB2 hb3 (Nat.le_refl _)
 have hP3:=hP2.later hb3 hP2.lt
 have hF3:=hF2.later hb3 hF2.lt
 have hZ3:=hZ2.later hb3 hZ2.lt
 have hY3:=hY2.later hb3 hY2.lt
 have hY3l:=hY3.lt
 obtain ⟨w4,hw4⟩:∃ w4,w4=w3.alloc (.cells #[.bool false,.int .i64 yc,.int .i64 (nv:Int),.int .i64 (no:Int)] 169):=⟨_,rfl⟩
 obtain ⟨C,hC⟩:∃ C,C=w3.heap.size:=⟨_,rfl⟩
 have hB4:Below w.heap.size w w4:=by rw [hw4];exact hB3.alloc hB3.size _
 have hP4:Blk w4 w.heap.size 26 #[v1,v2,v3]:=by rw [hw4];exact hP3.alloc _
 have hF4:FrAt w4 (w.heap.size+1) f:=by rw [hw4];exact hF3.alloc _
 have hZ4:FrAt w4 (w.heap.size+1+1) Fra.zero:=by rw [hw4];exact hZ3.alloc _
 have hY4:Blk w4 Y 95 #[.int .u8 8,.int .i64 xa,.int .i64 (nb:Int),.int .i64 xc,.int .i64 xk]:=by rw [hw4];exact hY3.alloc _
 have hC4:Blk w4 C 169 #[.bool false,.int .i64 yc,.int .i64 (nv:Int),.int .i64 (no:Int)]:=by rw [hw4,hC];exact blk_new w3 _ _
 have hCl:Y<C:=by rw [hC];exact hY3l
 have hCs:w4.heap.size=C+1:=by rw [hw4,hC];simp
 clear hb3 hB2 hP2 hF2 hZ2 hY2 hB3 hP3 hF3 hZ3 hY3 hYs hY3l
 have hall : [(nb:Int),(nv:Int),(no:Int)].all regB=true:=by simp [regB_iff];omega
 have hrg:=registers_any [(nb:Int),(nv:Int),(no:Int)] (C+1) (w4.alloc (.cells #[.int .i64 (nb:Int),.int .i64 (nv:Int),.int .i64 (no:Int)] 3)) (blk_at (by rw [hCs])) (by simp)
 rw [hall] at hrg
 obtain ⟨w5,hw5⟩:∃ w5,w5=w4.alloc (.cells #[.int .i64 (nb:Int),.int .i64 (nv:Int),.int .i64 (no:Int)] 3):=⟨_,rfl⟩
 have hB5:Below w.heap.size w w5:=by rw [hw5];exact hB4.alloc hB4.size _
 have hP5:Blk w5 w.heap.size 26 #[v1,v2,v3]:=by rw [hw5];exact hP4.alloc _
 have hF5:FrAt w5 (w.heap.size+1) f:=by rw [hw5];exact hF4.alloc _
 have hZ5:FrAt w5 (w.heap.size+1+1) Fra.zero:=by rw [hw5];exact hZ4.alloc _
 have hY5:Blk w5 Y 95 #[.int .u8 8,.int .i64 xa,.int .i64 (nb:Int),.int .i64 xc,.int .i64 xk]:=by rw [hw5];exact hY4.alloc _
 have hC5:Blk w5 C 169 #[.bool false,.int .i64 yc,.int .i64 (nv:Int),.int .i64 (no:Int)]:=by rw [hw5];exact hC4.alloc _
 have i2:=hY4.cell (k:=2) (v:=.int .i64 (nb:Int)) rfl
 have c2:=hC4.cell (k:=2) (v:=.int .i64 (nv:Int)) rfl
 have c3:=hC4.cell (k:=3) (v:=.int .i64 (no:Int)) rfl
 rw [<- hw5] at hrg
 rw [hw4] at i2 c2 c3
 rw [hC] at c2 c3
 go_wp2_with fail
 rw [<- hw4, <- hw5, <- hC]
 refine hrg.mono ?_
 clear hrg hall i2 c2 c3 hw4 hw5 hC hB4 hP4 hF4 hZ4 hY4 hC4
 rintro e w5 ⟨rfl,rfl⟩
 have nb0:(0:Int)<=(nb:Int):=by omega
 have nb1:(nb:Int)<8:=by omega
 have nv0:(0:Int)<=(nv:Int):=by omega
 have nv1:(nv:Int)<8:=by omega
 have no0:(0:Int)<=(no:Int):=by omega
 have no1:(no:Int)<8:=by omega
 have c0:=hC5.cell (k:=0) (v:=.bool false) rfl
 have c2:=hC5.cell (k:=2) (v:=.int .i64 (nv:Int)) rfl
 have c3:=hC5.cell (k:=3) (v:=.int .i64 (no:Int)) rfl
 have i0:=hY5.cell (k:=0) (v:=.int .u8 8) rfl
 have i2:=hY5.cell (k:=2) (v:=.int .i64 (nb:Int)) rfl
 have e1:=fra_cell hF5 hnv
 have e2:=hF5.frozen (2+nv)
 obtain ⟨w6,hw6⟩:∃ w6,w6=w5.setCell ⟨w.heap.size+1,2+nv,none⟩ (.int .i64 v):=⟨_,rfl⟩
 have hB6:Below w.heap.size w w6:=by rw [hw6];exact hB5.setCell (by simp) _
 have hP6:Blk w6 w.heap.size 26 #[v1,v2,v3]:=by rw [hw6];exact hP5.beside (by simp) _
 have hF6:FrAt w6 (w.heap.size+1) (f.put nv v):=by rw [hw6];exact fra_put hF5 hnv v
 have hZ6:FrAt w6 (w.heap.size+1+1) Fra.zero:=by rw [hw6];exact hZ5.beside (by simp) _
 have hY6:Blk w6 Y 95 #[.int .u8 8,.int .i64 xa,.int .i64 (nb:Int),.int .i64 xc,.int .i64 xk]:=by rw [hw6];exact hY5.beside (by simp;omega) _
 have hC6:Blk w6 C 169 #[.bool false,.int .i64 yc,.int .i64 (nv:Int),.int .i64 (no:Int)]:=by rw [hw6];exact hC5.beside (by simp;omega) _
 go_upto_region 11 with fail
 rw [<- hw6]
 clear hw6 e1 e2 hB5 hP5 hF5 hZ5 hY5 hC5 c0 c2 c3 i0 i2
 obtain ⟨fl,hfl⟩:∃ fl:Int,fl=if ok then 1 else 0:=⟨_,rfl⟩
 have hfg:∀ W,Calls Tryz.prog 165 #[.bool ok] W fun e w'=>e=.returned (.int .i64 fl)/\w'=W:=fun W=>by rw [hfl];exact flag_any ok W
 obtain ⟨g1,hg1⟩:∃ g1,g1=f.put nv v:=⟨_,rfl⟩
 rw [<- hg1] at hF6
 have c3:=hC6.cell (k:=3) (v:=.int .i64 (no:Int)) rfl
 have e1:=fra_cell hF6 hno
 have e2:=hF6.frozen (2+no)
 have HFL:=Lib.hid hfl
 have HG1:=Lib.hid hg1
 clear hfl hg1
 obtain ⟨w7,hw7⟩:∃ w7,w7=(w6.setCell ⟨w.heap.size+1,2+no,none⟩ (.int .i64 fl)).drew:=⟨_,rfl⟩
 have c3s:=(hC6.beside (p:=⟨w.heap.size+1,2+no,none⟩) (by simp;omega) (.int .i64 fl)).cell (k:=3) (v:=.int .i64 (no:Int)) rfl
 have hB7:Below w.heap.size w w7:=by rw [hw7];exact (hB6.setCell (by simp) _).drew
 have hP7:Blk w7 w.heap.size 26 #[v1,v2,v3]:=by rw [hw7];exact (hP6.beside (by simp) _).drew
 have hF7:FrAt w7 (w.heap.size+1) (g1.put no fl):=by rw [hw7];exact (fra_put hF6 hno fl).drew
 have hZ7:FrAt w7 (w.heap.size+1+1) Fra.zero:=by rw [hw7];exact (hZ6.beside (by simp) _).drew
 have hY7:Blk w7 Y 95 #[.int .u8 8,.int .i64 xa,.int .i64 (nb:Int),.int .i64 xc,.int .i64 xk]:=by rw [hw7];exact (hY6.beside (by simp;omega) _).drew
 have hC7:Blk w7 C 169 #[.bool false,.int .i64 yc,.int .i64 (nv:Int),.int .i64 (no:Int)]:=by rw [hw7];exact (hC6.beside (by simp;omega) _).drew
 go_region_held3 (fun w'=>w'.cell? ⟨C,3,none⟩=some (.int .i64 (no:Int)))
  (first | exact c3 | exact c3s)
  ((first | (go_at_call 165;refine (hfg _).mono ?_;rintro e wq ⟨rfl,rfl⟩)))
 rw [<- hw7]
 clear hw7 e1 e2 hB6 hP6 hF6 hZ6 hY6 hC6 c3 c3s hfg
 obtain ⟨g2,hg2⟩:∃ g2,g2=g1.put no fl:=⟨_,rfl⟩
 rw [<- hg2] at hF7
 have HG2:Hid (g2=recF ⟨false,yc,(nv:Int),(no:Int)⟩ f v ok):=Lib.hid (by rw [hg2,HG1.out,HFL.out];rfl)
 clear hg2
 have i0:=hY7.cell (k:=0) (v:=.int .u8 8) rfl
 have i2:=hY7.cell (k:=2) (v:=.int .i64 (nb:Int)) rfl
 have e1:=fra_cell hF7 hnb
 have e2:=hF7.frozen (2+nb)
 obtain ⟨w8,hw8⟩:∃ w8,w8=w7.setCell ⟨w.heap.size+1,2+nb,none⟩ (.int .i64 k):=⟨_,rfl⟩
 have hB8:Below w.heap.size w w8:=by rw [hw8];exact hB7.setCell (by simp) _
 have hP8:Blk w8 w.heap.size 26 #[v1,v2,v3]:=by rw [hw8];exact hP7.beside (by simp) _
 have hF8:FrAt w8 (w.heap.size+1) (g2.put nb k):=by rw [hw8];exact fra_put hF7 hnb k
 have hZ8:FrAt w8 (w.heap.size+1+1) Fra.zero:=by rw [hw8];exact hZ7.beside (by simp) _
 have hY8:Blk w8 Y 95 #[.int .u8 8,.int .i64 xa,.int .i64 (nb:Int),.int .i64 xc,.int .i64 xk]:=by rw [hw8];exact hY7.beside (by simp;omega) _
 have hC8:Blk w8 C 169 #[.bool false,.int .i64 yc,.int .i64 (nv:Int),.int .i64 (no:Int)]:=by rw [hw8];exact hC7.beside (by simp;omega) _
 go_upto_region 14 with fail
 rw [<- hw8]
 clear hw8 e1 e2 hB7 hP7 hF7 hZ7 hY7 hC7 i0 i2 
 obtain ⟨g3,hg3⟩:∃ g3,g3=g2.put nb k:=⟨_,rfl⟩
 rw [<- hg3] at hF8
 have i0:=hY8.cell (k:=0) (v:=.int .u8 8) rfl
 have HG3:Hid (g3=numF ⟨8,xa,(nb:Int),xc,xk⟩ (recF ⟨false,yc,(nv:Int),(no:Int)⟩ f v ok) k):=Lib.hid (by rw [hg3,HG2.out];rfl)
 clear hg3
 have hp3:g3.p=f.p:=by rw [HG3.out,numF_p,recF_p]
 have hwp:IntKind.i64.wrap (g3.p+1)=g3.p+1:=by rw [IntKind.wrap_i64,hp3];omega
 have e1:=hF8.cell (k:=1) (v:=.int .i64 g3.p) rfl
 have e2:=hF8.frozen 1
 obtain ⟨wa,hwa⟩:∃ wa,wa=w8.setCell ⟨w.heap.size+1,1,none⟩ (.int .i64 (g3.p+1)):=⟨_,rfl⟩
 clear hp3
 have hBa:Below w.heap.size w wa:=by rw [hwa];exact hB8.setCell (by simp) _
 have hPa:Blk wa w.heap.size 26 #[v1,v2,v3]:=by rw [hwa];exact hP8.beside (by simp) _
 have hFa:FrAt wa (w.heap.size+1) (g3.goto (g3.p+1)):=by rw [hwa];exact fra_goto hF8 (g3.p+1)
 have hZa:FrAt wa (w.heap.size+1+1) Fra.zero:=by rw [hwa];exact hZ8.beside (by simp) _
 have hYa:Blk wa Y 95 #[.int .u8 8,.int .i64 xa,.int .i64 (nb:Int),.int .i64 xc,.int .i64 xk]:=by rw [hwa];exact hY8.beside (by simp;omega) _
 have hCa:Blk wa C 169 #[.bool false,.int .i64 yc,.int .i64 (nv:Int),.int .i64 (no:Int)]:=by rw [hwa];exact hC8.beside (by simp;omega) _
 go_upto_region 16 with fail
 rw [<- hwa]
 clear hwa e1 e2 hwp hB8 hP8 hF8 hZ8 hY8 hC8 i0 
 obtain ⟨g4,hg4⟩:∃ g4,g4=g3.goto (g3.p+1):=⟨_,rfl⟩
 rw [<- hg4] at hFa
 have HG4:Hid (g4=doneG ⟨false,yc,(nv:Int),(no:Int)⟩ ⟨8,xa,(nb:Int),xc,xk⟩ f k v ok):=Lib.hid (by rw [hg4,HG3.out];unfold doneG pcF;rw [if_neg (by simp)])
 clear hg4
 have harr:=arrived_ok wa (h.later hBa) hs g4 (by rw [HG4.out];exact hat)
 clear hat
 have p0:=hPa.cell (k:=0) (v:=v1) rfl
 have p1:=hPa.cell (k:=1) (v:=v2) rfl
 have p2:=hPa.cell (k:=2) (v:=v3) rfl
 obtain ⟨q0,q1,q2,q3,q4,q5,q6,q7,q8,q9⟩:=fra_cells hFa
 go_wp2_with fail
 refine harr.mono ?_
 rintro e wb ⟨rfl,hbb⟩
 have hBb:=below_next hBa hbb (Nat.le_refl _)
 have hZb:=hZa.later hbb hZa.lt
 clear harr hbb hBa hPa hFa hZa hYa hCa p0 p1 p2 q0 q1 q2 q3 q4 q5 q6 q7 q8 q9
 obtain ⟨z0,z1,z2,z3,z4,z5,z6,z7,z8,z9⟩:=fra_cells hZb
 have zf:=hZb.frozen
 obtain ⟨w9,hw9,hX9,hb9⟩:∃ w9,w9=((((((((((wb.setCell ⟨w.heap.size+1+1,0,none⟩ (.int .i64 g4.c)).setCell ⟨w.heap.size+1+1,1,none⟩ (.int .i64 g4.p)).setCell ⟨w.heap.size+1+1,2,none⟩ (.int .i64 g4.r0)).setCell ⟨w.heap.size+1+1,3,none⟩ (.int .i64 g4.r1)).setCell ⟨w.heap.size+1+1,4,none⟩ (.int .i64 g4.r2)).setCell ⟨w.heap.size+1+1,5,none⟩ (.int .i64 g4.r3)).setCell ⟨w.heap.size+1+1,6,none⟩ (.int .i64 g4.r4)).setCell ⟨w.heap.size+1+1,7,none⟩ (.int .i64 g4.r5)).setCell ⟨w.heap.size+1+1,8,none⟩ (.int .i64 g4.r6)).setCell ⟨w.heap.size+1+1,9,none⟩ (.int .i64 g4.r7))/\Blk w9 (w.heap.size+1+1) 61 (fraA g4)/\But [w.heap.size+1+1] wb w9:=⟨_,rfl,sto10 hZb (.int .i64 g4.c) (.int .i64 g4.p) (.int .i64 g4.r0) (.int .i64 g4.r1) (.int .i64 g4.r2) (.int .i64 g4.r3) (.int .i64 g4.r4) (.int .i64 g4.r5) (.int .i64 g4.r6) (.int .i64 g4.r7)⟩
 have hB9:=below_but hBb hb9 (Nat.le_refl _) (by omega)
 go_wp2_with fail
 rw [<- hw9]
 obtain ⟨g0,g1,g2,g3',g4',g5,g6,g7,g8,g9⟩:=fra_cells hX9
 refine bodyPost_ret (v:=.tuple #[fraV g4,.int .i64 0]) (by simp [results,Tryz.f142,go_sem,g0,g1,g2,g3',g4',g5,g6,g7,g8,g9]) rfl ?_
 exact ⟨by rw [HG4.out],hB9⟩
theorem done_r6 {lo hi:Nat} {v1 v2 v3:Value} {p:Prg} (w:World) (h:PrgAt lo hi w v1 v2 v3 p) (hs:Small p) (f:Fra) (k v:Int) (ok:Bool) (hm:checkW p=none) {nb:Nat} {xa xc xk:Int} (hx:atF p f=some ⟨6,xa,(nb:Int),xc,xk⟩) (hl:locO 6=false) (hnb:nb<8) {yc:Int} {nv no:Nat} (hnv:nv<8) (hno:no<8) (hserved:∀ W,Below w.heap.size w W->Calls Tryz.prog 163 #[.agg #[v1,v2,v3],.agg #[.int .u8 6,.int .i64 xa,.int .i64 (nb:Int),.int .i64 xc,.int .i64 xk],.int .i64 k] W fun e w'=>e=.returned (.tuple #[.agg #[.bool false,.int .i64 yc,.int .i64 (nv:Int),.int .i64 (no:Int)],.bool true])/\Below W.heap.size W w') :
  Calls Tryz.prog 142 #[.agg #[v1,v2,v3],fraV f,.int .i64 k,.int .i64 v,.bool ok] w fun e w'=>e=.returned (.tuple #[fraV (doneG ⟨false,yc,(nv:Int),(no:Int)⟩ ⟨6,xa,(nb:Int),xc,xk⟩ f k v ok),.int .i64 0])/\Below w.heap.size w w':=by
 have hxo:=(at_ok h hx).o
 have hpc:=at_pc hs hx
 have hat:=doneG_at hm hx hl ⟨false,yc,(nv:Int),(no:Int)⟩ k v ok
 obtain ⟨wf,hwf⟩:∃ wf,wf=((w.alloc (.cells #[v1,v2,v3] 26)).alloc (.cells (fraA f) 61)).alloc (.cells (fraA Fra.zero) 61):=⟨_,rfl⟩
 have hB:Below w.heap.size w wf:=by rw [hwf];exact below3 w _ _ _
 have hP:Blk wf w.heap.size 26 #[v1,v2,v3]:=by rw [hwf];exact ((blk_new w _ _).alloc _).alloc _
 have hF:FrAt wf (w.heap.size+1) f:=by rw [hwf];exact (blk_at (by simp)).alloc _
 have hZ:FrAt wf (w.heap.size+1+1) Fra.zero:=by rw [hwf];exact blk_at (by simp)
 have hsz:wf.heap.size=w.heap.size+1+1+1:=by rw [hwf];simp
 have hc:Calls Tryz.prog 85 #[.agg #[v1,v2,v3],fraV f] wf fun e w'=>e=.returned (.tuple #[.agg #[.int .u8 6,.int .i64 xa,.int .i64 (nb:Int),.int .i64 xc,.int .i64 xk],.bool true])/\Below wf.heap.size wf w':=by have:=fat_any wf (h.later hB) hs f;rw [hx] at this;exact this
 go_enter Tryz.func142,Tryz.ntmps142
 go_wp2_with fail
 rw [show (#[.int .i64 0,.int .i64 0,.int .i64 0,.int .i64 0,.int .i64 0,.int .i64 0,.int .i64 0,.int .i64 0,.int .i64 0,.int .i64 0]:Array Value)=fraA Fra.zero from rfl, <- hwf]
 clear hwf
 refine hc.mono ?_
 rintro e w1 ⟨rfl,hb⟩
 have hB1:=below_next hB hb (Nat.le_refl _)
 have hP1:=hP.later hb hP.lt
 have hF1:=hF.later hb hF.lt
 have hZ1:=hZ.later hb hZ.lt
 have hs1:w.heap.size+1+1+1<=w1.heap.size:=by rw [<- hsz];exact hb.size
 obtain ⟨w2,hw2⟩:∃ w2,w2=w1.alloc (.cells #[.int .u8 6,.int .i64 xa,.int .i64 (nb:Int),.int .i64 xc,.int .i64 xk] 95):=⟨_,rfl⟩
 obtain ⟨Y,hY⟩:∃ Y,Y=w1.heap.size:=⟨_,rfl⟩
 have hB2:Below w.heap.size w w2:=by rw [hw2];exact hB1.alloc hB1.size _
 have hP2:Blk w2 w.heap.size 26 #[v1,v2,v3]:=by rw [hw2];exact hP1.alloc _
 have hF2:FrAt w2 (w.heap.size+1) f:=by rw [hw2];exact hF1.alloc _
 have hZ2:FrAt w2 (w.heap.size+1+1) Fra.zero:=by rw [hw2];exact hZ1.alloc _
 have hY2:Blk w2 Y 95 #[.int .u8 6,.int .i64 xa,.int .i64 (nb:Int),.int .i64 xc,.int .i64 xk]:=by rw [hw2,hY];exact blk_new w1 _ _
 have hYl:w.heap.size+1+1<Y:=by omega
 have hYs:Y<w2.heap.size:=hY2.lt
 clear hc hB hb hP hF hZ hsz hB1 hP1 hF1 hZ1 hs1
 have hloc:=local_any 6 w2 hxo
 rw [hl,hw2] at hloc
 have hsv:=hserved w2 hB2
 clear hserved hl hxo
 have p0:=hP2.cell (k:=0) (v:=v1) rfl
 have p1:=hP2.cell (k:=1) (v:=v2) rfl
 have p2:=hP2.cell (k:=2) (v:=v3) rfl
 have i0:=hY2.cell (k:=0) (v:=.int .u8 6) rfl
 have i1:=hY2.cell (k:=1) (v:=.int .i64 xa) rfl
 have i2:=hY2.cell (k:=2) (v:=.int .i64 (nb:Int)) rfl
 have i3:=hY2.cell (k:=3) (v:=.int .i64 xc) rfl
 have i4:=hY2.cell (k:=4) (v:=.int .i64 xk) rfl
 rw [hw2] at p0 p1 p2 i0 i1 i2 i3 i4
 rw [hY] at i0 i1 i2 i3 i4
 go_wp2_with (go_at_call 162;refine hloc.mono ?_;rintro e w' ⟨rfl,rfl⟩)
 rw [<- hw2, <- hY]
 clear hw2 hY hloc p0 p1 p2 i0 i1 i2 i3 i4
 refine hsv.mono ?_
 clear hsv
 rintro e w3 ⟨rfl,hb3⟩
 have hB3:=below_next hB2 hb3 (Nat.le_refl _)
 have hP3:=hP2.later hb3 hP2.lt
 have hF3:=hF2.later hb3 hF2.lt
 have hZ3:=hZ2.later hb3 hZ2.lt
 have hY3:=hY2.later hb3 hY2.lt
 have hY3l:=hY3.lt
 obtain ⟨w4,hw4⟩:∃ w4,w4=w3.alloc (.cells #[.bool false,.int .i64 yc,.int .i64 (nv:Int),.int .i64 (no:Int)] 169):=⟨_,rfl⟩
 obtain ⟨C,hC⟩:∃ C,C=w3.heap.size:=⟨_,rfl⟩
 have hB4:Below w.heap.size w w4:=by rw [hw4];exact hB3.alloc hB3.size _
 have hP4:Blk w4 w.heap.size 26 #[v1,v2,v3]:=by rw [hw4];exact hP3.alloc _
 have hF4:FrAt w4 (w.heap.size+1) f:=by rw [hw4];exact hF3.alloc _
 have hZ4:FrAt w4 (w.heap.size+1+1) Fra.zero:=by rw [hw4];exact hZ3.alloc _
 have hY4:Blk w4 Y 95 #[.int .u8 6,.int .i64 xa,.int .i64 (nb:Int),.int .i64 xc,.int .i64 xk]:=by rw [hw4];exact hY3.alloc _
 have hC4:Blk w4 C 169 #[.bool false,.int .i64 yc,.int .i64 (nv:Int),.int .i64 (no:Int)]:=by rw [hw4,hC];exact blk_new w3 _ _
 have hCl:Y<C:=by rw [hC];exact hY3l
 have hCs:w4.heap.size=C+1:=by rw [hw4,hC];simp
 clear hb3 hB2 hP2 hF2 hZ2 hY2 hB3 hP3 hF3 hZ3 hY3 hYs hY3l
 have hall : [(nb:Int),(nv:Int),(no:Int)].all regB=true:=by simp [regB_iff];omega
 have hrg:=registers_any [(nb:Int),(nv:Int),(no:Int)] (C+1) (w4.alloc (.cells #[.int .i64 (nb:Int),.int .i64 (nv:Int),.int .i64 (no:Int)] 3)) (blk_at (by rw [hCs])) (by simp)
 rw [hall] at hrg
 obtain ⟨w5,hw5⟩:∃ w5,w5=w4.alloc (.cells #[.int .i64 (nb:Int),.int .i64 (nv:Int),.int .i64 (no:Int)] 3):=⟨_,rfl⟩
 have hB5:Below w.heap.size w w5:=by rw [hw5];exact hB4.alloc hB4.size _
 have hP5:Blk w5 w.heap.size 26 #[v1,v2,v3]:=by rw [hw5];exact hP4.alloc _
 have hF5:FrAt w5 (w.heap.size+1) f:=by rw [hw5];exact hF4.alloc _
 have hZ5:FrAt w5 (w.heap.size+1+1) Fra.zero:=by rw [hw5];exact hZ4.alloc _
 have hY5:Blk w5 Y 95 #[.int .u8 6,.int .i64 xa,.int .i64 (nb:Int),.int .i64 xc,.int .i64 xk]:=by rw [hw5];exact hY4.alloc _
 have hC5:Blk w5 C 169 #[.bool false,.int .i64 yc,.int .i64 (nv:Int),.int .i64 (no:Int)]:=by rw [hw5];exact hC4.alloc _
 have i2:=hY4.cell (k:=2) (v:=.int .i64 (nb:Int)) rfl
 have c2:=hC4.cell (k:=2) (v:=.int .i64 (nv:Int)) rfl
 have c3:=hC4.cell (k:=3) (v:=.int .i64 (no:Int)) rfl
 rw [<- hw5] at hrg
 rw [hw4] at i2 c2 c3
 rw [hC] at c2 c3
 go_wp2_with fail
 rw [<- hw4, <- hw5, <- hC]
 refine hrg.mono ?_
 clear hrg hall i2 c2 c3 hw4 hw5 hC hB4 hP4 hF4 hZ4 hY4 hC4
 rintro e w5 ⟨rfl,rfl⟩
 have nb0:(0:Int)<=(nb:Int):=by omega
 have nb1:(nb:Int)<8:=by omega
 have nv0:(0:Int)<=(nv:Int):=by omega
 have nv1:(nv:Int)<8:=by omega
 have no0:(0:Int)<=(no:Int):=by omega
 have no1:(no:Int)<8:=by omega
 have c0:=hC5.cell (k:=0) (v:=.bool false) rfl
 have c2:=hC5.cell (k:=2) (v:=.int .i64 (nv:Int)) rfl
 have c3:=hC5.cell (k:=3) (v:=.int .i64 (no:Int)) rfl
 have i0:=hY5.cell (k:=0) (v:=.int .u8 6) rfl
 have i2:=hY5.cell (k:=2) (v:=.int .i64 (nb:Int)) rfl
 have e1:=fra_cell hF5 hnv
 have e2:=hF5.frozen (2+nv)
 obtain ⟨w6,hw6⟩:∃ w6,w6=w5.setCell ⟨w.heap.size+1,2+nv,none⟩ (.int .i64 v):=⟨_,rfl⟩
 have hB6:Below w.heap.size w w6:=by rw [hw6];exact hB5.setCell (by simp) _
 have hP6:Blk w6 w.heap.size 26 #[v1,v2,v3]:=by rw [hw6];exact hP5.beside (by simp) _
 have hF6:FrAt w6 (w.heap.size+1) (f.put nv v):=by rw [hw6];exact fra_put hF5 hnv v
 have hZ6:FrAt w6 (w.heap.size+1+1) Fra.zero:=by rw [hw6];exact hZ5.beside (by simp) _
 have hY6:Blk w6 Y 95 #[.int .u8 6,.int .i64 xa,.int .i64 (nb:Int),.int .i64 xc,.int .i64 xk]:=by rw [hw6];exact hY5.beside (by simp;omega) _
 have hC6:Blk w6 C 169 #[.bool false,.int .i64 yc,.int .i64 (nv:Int),.int .i64 (no:Int)]:=by rw [hw6];exact hC5.beside (by simp;omega) _
 go_upto_region 11 with fail
 rw [<- hw6]
 clear hw6 e1 e2 hB5 hP5 hF5 hZ5 hY5 hC5 c0 c2 c3 i0 i2
 obtain ⟨fl,hfl⟩:∃ fl:Int,fl=if ok then 1 else 0:=⟨_,rfl⟩
 have hfg:∀ W,Calls Tryz.prog 165 #[.bool ok] W fun e w'=>e=.returned (.int .i64 fl)/\w'=W:=fun W=>by rw [hfl];exact flag_any ok W
 obtain ⟨g1,hg1⟩:∃ g1,g1=f.put nv v:=⟨_,rfl⟩
 rw [<- hg1] at hF6
 have c3:=hC6.cell (k:=3) (v:=.int .i64 (no:Int)) rfl
 have e1:=fra_cell hF6 hno
 have e2:=hF6.frozen (2+no)
 have HFL:=Lib.hid hfl
 have HG1:=Lib.hid hg1
 clear hfl hg1
 obtain ⟨w7,hw7⟩:∃ w7,w7=(w6.setCell ⟨w.heap.size+1,2+no,none⟩ (.int .i64 fl)).drew:=⟨_,rfl⟩
 have c3s:=(hC6.beside (p:=⟨w.heap.size+1,2+no,none⟩) (by simp;omega) (.int .i64 fl)).cell (k:=3) (v:=.int .i64 (no:Int)) rfl
 have hB7:Below w.heap.size w w7:=by rw [hw7];exact (hB6.setCell (by simp) _).drew
 have hP7:Blk w7 w.heap.size 26 #[v1,v2,v3]:=by rw [hw7];exact (hP6.beside (by simp) _).drew
 have hF7:FrAt w7 (w.heap.size+1) (g1.put no fl):=by rw [hw7];exact (fra_put hF6 hno fl).drew
 have hZ7:FrAt w7 (w.heap.size+1+1) Fra.zero:=by rw [hw7];exact (hZ6.beside (by simp) _).drew
 have hY7:Blk w7 Y 95 #[.int .u8 6,.int .i64 xa,.int .i64 (nb:Int),.int .i64 xc,.int .i64 xk]:=by rw [hw7];exact (hY6.beside (by simp;omega) _).drew
 have hC7:Blk w7 C 169 #[.bool false,.int .i64 yc,.int .i64 (nv:Int),.int .i64 (no:Int)]:=by rw [hw7];exact (hC6.beside (by simp;omega) _).drew
 go_region_held3 (fun w'=>w'.cell? ⟨C,3,none⟩=some (.int .i64 (no:Int)))
  (first | exact c3 | exact c3s)
  ((first | (go_at_call 165;refine (hfg _).mono ?_;rintro e wq ⟨rfl,rfl⟩)))
 rw [<- hw7]
 clear hw7 e1 e2 hB6 hP6 hF6 hZ6 hY6 hC6 c3 c3s hfg
 obtain ⟨g2,hg2⟩:∃ g2,g2=g1.put no fl:=⟨_,rfl⟩
 rw [<- hg2] at hF7
 have HG2:Hid (g2=recF ⟨false,yc,(nv:Int),(no:Int)⟩ f v ok):=Lib.hid (by rw [hg2,HG1.out,HFL.out];rfl)
 clear hg2
 have i0:=hY7.cell (k:=0) (v:=.int .u8 6) rfl
 have i2:=hY7.cell (k:=2) (v:=.int .i64 (nb:Int)) rfl
 obtain ⟨g3,hg3⟩:∃ g3,g3=g2:=⟨_,rfl⟩
 rw [<- hg3] at hF7
 have HG3:Hid (g3=numF ⟨6,xa,(nb:Int),xc,xk⟩ (recF ⟨false,yc,(nv:Int),(no:Int)⟩ f v ok) k):=Lib.hid (by rw [hg3,HG2.out];unfold numF;rw [if_neg (by simp)])
 clear hg3
 have hp3:g3.p=f.p:=by rw [HG3.out,numF_p,recF_p]
 have hwp:IntKind.i64.wrap (g3.p+1)=g3.p+1:=by rw [IntKind.wrap_i64,hp3];omega
 have e1:=hF7.cell (k:=1) (v:=.int .i64 g3.p) rfl
 have e2:=hF7.frozen 1
 obtain ⟨wa,hwa⟩:∃ wa,wa=w7.setCell ⟨w.heap.size+1,1,none⟩ (.int .i64 (g3.p+1)):=⟨_,rfl⟩
 clear hp3
 have hBa:Below w.heap.size w wa:=by rw [hwa];exact hB7.setCell (by simp) _
 have hPa:Blk wa w.heap.size 26 #[v1,v2,v3]:=by rw [hwa];exact hP7.beside (by simp) _
 have hFa:FrAt wa (w.heap.size+1) (g3.goto (g3.p+1)):=by rw [hwa];exact fra_goto hF7 (g3.p+1)
 have hZa:FrAt wa (w.heap.size+1+1) Fra.zero:=by rw [hwa];exact hZ7.beside (by simp) _
 have hYa:Blk wa Y 95 #[.int .u8 6,.int .i64 xa,.int .i64 (nb:Int),.int .i64 xc,.int .i64 xk]:=by rw [hwa];exact hY7.beside (by simp;omega) _
 have hCa:Blk wa C 169 #[.bool false,.int .i64 yc,.int .i64 (nv:Int),.int .i64 (no:Int)]:=by rw [hwa];exact hC7.beside (by simp;omega) _
 go_upto_region 16 with fail
 rw [<- hwa]
 clear hwa e1 e2 hwp hB7 hP7 hF7 hZ7 hY7 hC7 i0 i2
 obtain ⟨g4,hg4⟩:∃ g4,g4=g3.goto (g3.p+1):=⟨_,rfl⟩
 rw [<- hg4] at hFa
 have HG4:Hid (g4=doneG ⟨false,yc,(nv:Int),(no:Int)⟩ ⟨6,xa,(nb:Int),xc,xk⟩ f k v ok):=Lib.hid (by rw [hg4,HG3.out];unfold doneG pcF;rw [if_neg (by simp)])
 clear hg4
 have harr:=arrived_ok wa (h.later hBa) hs g4 (by rw [HG4.out];exact hat)
 clear hat
 have p0:=hPa.cell (k:=0) (v:=v1) rfl
 have p1:=hPa.cell (k:=1) (v:=v2) rfl
 have p2:=hPa.cell (k:=2) (v:=v3) rfl
 obtain ⟨q0,q1,q2,q3,q4,q5,q6,q7,q8,q9⟩:=fra_cells hFa
 go_wp2_with fail
 refine harr.mono ?_
 rintro e wb ⟨rfl,hbb⟩
 have hBb:=below_next hBa hbb (Nat.le_refl _)
 have hZb:=hZa.later hbb hZa.lt
 clear harr hbb hBa hPa hFa hZa hYa hCa p0 p1 p2 q0 q1 q2 q3 q4 q5 q6 q7 q8 q9
 obtain ⟨z0,z1,z2,z3,z4,z5,z6,z7,z8,z9⟩:=fra_cells hZb
 have zf:=hZb.frozen
 obtain ⟨w9,hw9,hX9,hb9⟩:∃ w9,w9=((((((((((wb.setCell ⟨w.heap.size+1+1,0,none⟩ (.int .i64 g4.c)).setCell ⟨w.heap.size+1+1,1,none⟩ (.int .i64 g4.p)).setCell ⟨w.heap.size+1+1,2,none⟩ (.int .i64 g4.r0)).setCell ⟨w.heap.size+1+1,3,none⟩ (.int .i64 g4.r1)).setCell ⟨w.heap.size+1+1,4,none⟩ (.int .i64 g4.r2)).setCell ⟨w.heap.size+1+1,5,none⟩ (.int .i64 g4.r3)).setCell ⟨w.heap.size+1+1,6,none⟩ (.int .i64 g4.r4)).setCell ⟨w.heap.size+1+1,7,none⟩ (.int .i64 g4.r5)).setCell ⟨w.heap.size+1+1,8,none⟩ (.int .i64 g4.r6)).setCell ⟨w.heap.size+1+1,9,none⟩ (.int .i64 g4.r7))/\Blk w9 (w.heap.size+1+1) 61 (fraA g4)/\But [w.heap.size+1+1] wb w9:=⟨_,rfl,sto10 hZb (.int .i64 g4.c) (.int .i64 g4.p) (.int .i64 g4.r0) (.int .i64 g4.r1) (.int .i64 g4.r2) (.int .i64 g4.r3) (.int .i64 g4.r4) (.int .i64 g4.r5) (.int .i64 g4.r6) (.int .i64 g4.r7)⟩
 have hB9:=below_but hBb hb9 (Nat.le_refl _) (by omega)
 go_wp2_with fail
 rw [<- hw9]
 obtain ⟨g0,g1,g2,g3',g4',g5,g6,g7,g8,g9⟩:=fra_cells hX9
 refine bodyPost_ret (v:=.tuple #[fraV g4,.int .i64 0]) (by simp [results,Tryz.f142,go_sem,g0,g1,g2,g3',g4',g5,g6,g7,g8,g9]) rfl ?_
 exact ⟨by rw [HG4.out],hB9⟩
theorem done_any {lo hi:Nat} {v1 v2 v3:Value} {p:Prg} (w:World) (h:PrgAt lo hi w v1 v2 v3 p) (hs:Small p) (hm:checkW p=none) (f:Fra) (k v:Int) (ok:Bool) :
  Calls Tryz.prog 142 #[.agg #[v1,v2,v3],fraV f,.int .i64 k,.int .i64 v,.bool ok] w fun e w'=>e=.returned (.tuple #[fraV (doneF p f k v ok).1,.int .i64 (doneF p f k v ok).2])/\Below w.heap.size w w':=by
 cases hx:atF p f with
 | none=>
  have e:doneF p f k v ok=(Fra.zero,2):=by unfold doneF;rw [hx]
  rw [e]
  exact done_none w h hs f k v ok hx
 | some x=>
  cases hl:locO x.o with
  | true=>
   have e:doneF p f k v ok=(Fra.zero,8):=by unfold doneF;rw [hx];simp only [hl];rfl
   rw [e]
   exact done_local w h hs f k v ok hx hl
  | false=>
   obtain ⟨y,hy,hsv⟩:=served_any w h hm hx k
   cases hsf:servedF p x k with
   | none=>
    have e:doneF p f k v ok=(Fra.zero,2):=by unfold doneF;rw [hx];simp only [hl,hsf];rfl
    rw [e]
    rw [hsf] at hsv
    exact done_not w h hs f k v ok hx hl y hsv
   | some c=>
    have e:doneF p f k v ok=(doneG c x f k v ok,0):=by unfold doneF;rw [hx];simp only [hl,hsf];rfl
    rw [e]
    rw [hsf] at hsv
    obtain rfl:=hy c hsf
    obtain ⟨⟨hv0,hv1⟩,⟨ho0,ho1⟩⟩:=served_regs hm hx hsf
    obtain ⟨-, hb0,hb1⟩:=at_regs hm hx
    have hrec:y.s=false->x.o=8 \/ x.o=6:=fun e=>by
     by_cases h8:x.o=8
     ·exact .inl h8
     ·by_cases h6:x.o=6
      ·exact .inr h6
      ·unfold servedF at hsf
       rw [if_neg h8] at hsf
       by_cases hk:k = -1
       ·rw [if_pos hk,if_neg h6] at hsf
        obtain rfl:=Option.some.inj hsf
        cases e
       ·rw [if_neg hk] at hsf
        cases hsf
    clear e hy hsf
    obtain ⟨o,xa,xb,xc,xk⟩:=x
    obtain ⟨s,yc,yv,yo⟩:=y
    simp only at hv0 hv1 ho0 ho1 hb0 hb1 hrec hl
    obtain ⟨nb,rfl⟩:∃ n:Nat,xb=(n:Int):=⟨xb.toNat,by omega⟩
    obtain ⟨nv,rfl⟩:∃ n:Nat,yv=(n:Int):=⟨yv.toNat,by omega⟩
    obtain ⟨no,rfl⟩:∃ n:Nat,yo=(n:Int):=⟨yo.toNat,by omega⟩
    have q1:nb<8:=by omega
    have q2:nv<8:=by omega
    have q3:no<8:=by omega
    cases s with
    | true=>
     by_cases h8:o=8
     ·subst h8;exact done_s8 w h hs f k v ok hm hx hl q1 q2 q3 hsv
     ·by_cases h10:o=10
      ·subst h10;exact done_s10 w h hs f k v ok hm hx hl q1 q2 q3 hsv
      ·exact done_so w h hs f k v ok hm hx hl h8 h10 q1 q2 q3 hsv
    | false=>
     rcases hrec rfl with rfl | rfl
     ·exact done_r8 w h hs f k v ok hm hx hl q1 q2 q3 hsv
     ·exact done_r6 w h hs f k v ok hm hx hl q1 q2 q3 hsv
end Go.Proofs.YtnfbncgfpmcpnaaGreat
