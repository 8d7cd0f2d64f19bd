/-
  ReplayNext: its walks, part 8.
-/
import Derived.Test.YtnfbncgfpmcpnaaGreatQ07
set_option maxRecDepth 100000
set_option maxHeartbeats 12800000
namespace Go.Proofs.YtnfbncgfpmcpnaaGreat
open Go.RowKit
def locE (p:Prg) (f:Fra):Int:=match atF p f with
 | none=>2
 | some x=>if locO x.o then 0 else 8
theorem at_ok {lo hi:Nat} {v1 v2 v3:Value} {p:Prg} {w:World} (h:PrgAt lo hi w v1 v2 v3 p) {f:Fra} {x:In} (hx:atF p f=some x):x.ok:=by
 obtain ⟨m,n,c,_,_,hc,hn⟩:=atF_parts hx
 obtain ⟨vs,h1,h2⟩:=h.codes
 have hl:=h1.1
 have hm:=(List.getElem?_eq_some_iff.1 hc).1
 exact (h2 m _ c (List.getElem?_eq_getElem (by omega)) hc).2 x (List.mem_of_getElem? hn)
theorem at_pc {p:Prg} (hs:Small p) {f:Fra} {x:In} (hx:atF p f=some x):0<=f.p/\f.p<=1000000:=by
 obtain ⟨m,n,c,_,hp,hc,hn⟩:=atF_parts hx
 have:=hs.code c (List.mem_of_getElem? hc)
 have:=(List.getElem?_eq_some_iff.1 hn).1
 omega
theorem local_none {lo hi:Nat} {v1 v2 v3:Value} {p:Prg} (w:World) (h:PrgAt lo hi w v1 v2 v3 p) (hs:Small p) (f:Fra) (hx:atF p f=none) :
  Calls Tryz.prog 170 #[.agg #[v1,v2,v3],fraV f] w fun e w'=>∃ y:In,e=.returned (.tuple #[.agg #[.int .u8 (y.o:Int),.int .i64 y.a,.int .i64 y.b,.int .i64 y.c,.int .i64 y.k],.int .i64 2])/\y=(atF p f).getD In.zero/\Below w.heap.size w w':=by
 obtain ⟨wf,hwf⟩:∃ wf,wf=((w.alloc (.cells #[v1,v2,v3] 26)).alloc (.cells (fraA f) 61)).alloc (.cells #[.int .u8 0,.int .i64 0,.int .i64 0,.int .i64 0,.int .i64 0] 95):=⟨_,rfl⟩
 have hB:Below w.heap.size w wf:=by rw [hwf];exact below3 w _ _ _
 have hZ:Blk wf (w.heap.size+1+1) 95 #[.int .u8 0,.int .i64 0,.int .i64 0,.int .i64 0,.int .i64 0]:=by rw [hwf];exact blk_at (by simp)
 have hc:=fatP_any wf (h.later hB) hs f
 have hsz:wf.heap.size=w.heap.size+1+1+1:=by rw [hwf];simp
 go_enter Tryz.func170,Tryz.ntmps170
 go_wp2_with fail
 rw [<- hwf]
 clear hwf
 refine hc.mono ?_
 rintro e w1 ⟨y,rfl,hy,hb⟩
 have hB1:=below_next hB hb (Nat.le_refl _)
 have hZ1:=hZ.later hb hZ.lt
 have hs1:w.heap.size+1+1+1<=w1.heap.size:=by rw [<- hsz];exact hb.size
 have HY:Hid (y=(atF p f).getD In.zero):=Lib.hid hy
 rw [hx]
 obtain ⟨w2,hw2⟩:∃ w2,w2=w1.alloc (.cells #[.int .u8 (y.o:Int),.int .i64 y.a,.int .i64 y.b,.int .i64 y.c,.int .i64 y.k] 95):=⟨_,rfl⟩
 have hZ2:Blk w2 (w.heap.size+1+1) 95 #[.int .u8 0,.int .i64 0,.int .i64 0,.int .i64 0,.int .i64 0]:=by rw [hw2];exact hZ1.alloc _
 have hY2:Blk w2 w1.heap.size 95 #[.int .u8 (y.o:Int),.int .i64 y.a,.int .i64 y.b,.int .i64 y.c,.int .i64 y.k]:=by rw [hw2];exact blk_new w1 _ _
 have hB2:Below w.heap.size w w2:=by rw [hw2];exact hB1.alloc hB1.size _
 have hs2:w.heap.size+1+1+1<=w2.heap.size:=by rw [hw2];simp;omega
 obtain ⟨Y,hY⟩:∃ Y,Y=w1.heap.size:=⟨_,rfl⟩
 rw [<- hY] at hY2
 clear hc hB hb hZ hZ1 hB1 hsz hy
 obtain ⟨i0,i1,i2,i3,i4⟩:=ins_cells (x:=y) hY2
 obtain ⟨z0,z1,z2,z3,z4⟩:=ins_cells (x:=In.zero) hZ2
 have zf:=hZ2.frozen
 obtain ⟨w5,hw5,hX5,hb5⟩:∃ w5,w5=(((((w2.setCell ⟨w.heap.size+1+1,0,none⟩ (.int .u8 (y.o:Int))).setCell ⟨w.heap.size+1+1,1,none⟩ (.int .i64 y.a)).setCell ⟨w.heap.size+1+1,2,none⟩ (.int .i64 y.b)).setCell ⟨w.heap.size+1+1,3,none⟩ (.int .i64 y.c)).setCell ⟨w.heap.size+1+1,4,none⟩ (.int .i64 y.k))/\Blk w5 (w.heap.size+1+1) 95 #[.int .u8 (y.o:Int),.int .i64 y.a,.int .i64 y.b,.int .i64 y.c,.int .i64 y.k]/\But [w.heap.size+1+1] w2 w5:=⟨_,rfl,sto5 hZ2 (.int .u8 (y.o:Int)) (.int .i64 y.a) (.int .i64 y.b) (.int .i64 y.c) (.int .i64 y.k)⟩
 have hB5:=below_but hB2 hb5 (Nat.le_refl _) (by omega)
 rw [hw2] at i0 i1 i2 i3 i4 z0 z1 z2 z3 z4 zf hw5
 rw [hY] at i0 i1 i2 i3 i4
 go_wp2_with fail
 rw [<- hw5]
 obtain ⟨q0,q1,q2,q3,q4⟩:=ins_cells (x:=y) hX5
 refine bodyPost_ret (v:=.tuple #[.agg #[.int .u8 (y.o:Int),.int .i64 y.a,.int .i64 y.b,.int .i64 y.c,.int .i64 y.k],.int .i64 2]) (by simp [results,Tryz.f170,go_sem,q0,q1,q2,q3,q4]) rfl ?_
 exact ⟨y,rfl,HY.out,hB5⟩
theorem local_other {lo hi:Nat} {v1 v2 v3:Value} {p:Prg} (w:World) (h:PrgAt lo hi w v1 v2 v3 p) (hs:Small p) (f:Fra) {x:In} (hx:atF p f=some x) (hl:locO x.o=false) :
  Calls Tryz.prog 170 #[.agg #[v1,v2,v3],fraV f] w fun e w'=>∃ y:In,e=.returned (.tuple #[.agg #[.int .u8 (y.o:Int),.int .i64 y.a,.int .i64 y.b,.int .i64 y.c,.int .i64 y.k],.int .i64 8])/\y=(atF p f).getD In.zero/\Below w.heap.size w w':=by
 obtain ⟨wf,hwf⟩:∃ wf,wf=((w.alloc (.cells #[v1,v2,v3] 26)).alloc (.cells (fraA f) 61)).alloc (.cells #[.int .u8 0,.int .i64 0,.int .i64 0,.int .i64 0,.int .i64 0] 95):=⟨_,rfl⟩
 have hB:Below w.heap.size w wf:=by rw [hwf];exact below3 w _ _ _
 have hZ:Blk wf (w.heap.size+1+1) 95 #[.int .u8 0,.int .i64 0,.int .i64 0,.int .i64 0,.int .i64 0]:=by rw [hwf];exact blk_at (by simp)
 have hc:=fatP_any wf (h.later hB) hs f
 have hsz:wf.heap.size=w.heap.size+1+1+1:=by rw [hwf];simp
 have hxo:=(at_ok h hx).o
 go_enter Tryz.func170,Tryz.ntmps170
 go_wp2_with fail
 rw [<- hwf]
 clear hwf
 refine hc.mono ?_
 rintro e w1 ⟨y,rfl,hy,hb⟩
 have hB1:=below_next hB hb (Nat.le_refl _)
 have hZ1:=hZ.later hb hZ.lt
 have hs1:w.heap.size+1+1+1<=w1.heap.size:=by rw [<- hsz];exact hb.size
 have HY:Hid (y=(atF p f).getD In.zero):=Lib.hid hy
 rw [hx]
 rw [hx] at hy
 obtain rfl:y=x:=hy
 obtain ⟨w2,hw2⟩:∃ w2,w2=w1.alloc (.cells #[.int .u8 (y.o:Int),.int .i64 y.a,.int .i64 y.b,.int .i64 y.c,.int .i64 y.k] 95):=⟨_,rfl⟩
 have hZ2:Blk w2 (w.heap.size+1+1) 95 #[.int .u8 0,.int .i64 0,.int .i64 0,.int .i64 0,.int .i64 0]:=by rw [hw2];exact hZ1.alloc _
 have hY2:Blk w2 w1.heap.size 95 #[.int .u8 (y.o:Int),.int .i64 y.a,.int .i64 y.b,.int .i64 y.c,.int .i64 y.k]:=by rw [hw2];exact blk_new w1 _ _
 have hB2:Below w.heap.size w w2:=by rw [hw2];exact hB1.alloc hB1.size _
 have hs2:w.heap.size+1+1+1<=w2.heap.size:=by rw [hw2];simp;omega
 obtain ⟨Y,hY⟩:∃ Y,Y=w1.heap.size:=⟨_,rfl⟩
 rw [<- hY] at hY2
 clear hc hB hb hZ hZ1 hB1 hsz
 obtain ⟨i0,i1,i2,i3,i4⟩:=ins_cells (x:=y) hY2
 obtain ⟨z0,z1,z2,z3,z4⟩:=ins_cells (x:=In.zero) hZ2
 have zf:=hZ2.frozen
 obtain ⟨w5,hw5,hX5,hb5⟩:∃ w5,w5=(((((w2.setCell ⟨w.heap.size+1+1,0,none⟩ (.int .u8 (y.o:Int))).setCell ⟨w.heap.size+1+1,1,none⟩ (.int .i64 y.a)).setCell ⟨w.heap.size+1+1,2,none⟩ (.int .i64 y.b)).setCell ⟨w.heap.size+1+1,3,none⟩ (.int .i64 y.c)).setCell ⟨w.heap.size+1+1,4,none⟩ (.int .i64 y.k))/\Blk w5 (w.heap.size+1+1) 95 #[.int .u8 (y.o:Int),.int .i64 y.a,.int .i64 y.b,.int .i64 y.c,.int .i64 y.k]/\But [w.heap.size+1+1] w2 w5:=⟨_,rfl,sto5 hZ2 (.int .u8 (y.o:Int)) (.int .i64 y.a) (.int .i64 y.b) (.int .i64 y.c) (.int .i64 y.k)⟩
 have hB5:=below_but hB2 hb5 (Nat.le_refl _) (by omega)
 rw [hw2] at i0 i1 i2 i3 i4 z0 z1 z2 z3 z4 zf hw5
 rw [hY] at i0 i1 i2 i3 i4
 have hloc:=local_any y.o w2 hxo
 rw [hl,hw2] at hloc
 clear hl
 go_wp2_with (go_at_call 162;refine hloc.mono ?_;rintro e w4 ⟨rfl,rfl⟩)
 rw [<- hw5]
 obtain ⟨q0,q1,q2,q3,q4⟩:=ins_cells (x:=y) hX5
 refine bodyPost_ret (v:=.tuple #[.agg #[.int .u8 (y.o:Int),.int .i64 y.a,.int .i64 y.b,.int .i64 y.c,.int .i64 y.k],.int .i64 8]) (by simp [results,Tryz.f170,go_sem,q0,q1,q2,q3,q4]) rfl ?_
 exact ⟨y,rfl,HY.out,hB5⟩
theorem local_local {lo hi:Nat} {v1 v2 v3:Value} {p:Prg} (w:World) (h:PrgAt lo hi w v1 v2 v3 p) (hs:Small p) (f:Fra) {x:In} (hx:atF p f=some x) (hl:locO x.o=true) (hr:(0<=x.a/\x.a<8)/\(0<=x.b/\x.b<8)) :
  Calls Tryz.prog 170 #[.agg #[v1,v2,v3],fraV f] w fun e w'=>∃ y:In,e=.returned (.tuple #[.agg #[.int .u8 (y.o:Int),.int .i64 y.a,.int .i64 y.b,.int .i64 y.c,.int .i64 y.k],.int .i64 0])/\y=(atF p f).getD In.zero/\Below w.heap.size w w':=by
 obtain ⟨wf,hwf⟩:∃ wf,wf=((w.alloc (.cells #[v1,v2,v3] 26)).alloc (.cells (fraA f) 61)).alloc (.cells #[.int .u8 0,.int .i64 0,.int .i64 0,.int .i64 0,.int .i64 0] 95):=⟨_,rfl⟩
 have hB:Below w.heap.size w wf:=by rw [hwf];exact below3 w _ _ _
 have hZ:Blk wf (w.heap.size+1+1) 95 #[.int .u8 0,.int .i64 0,.int .i64 0,.int .i64 0,.int .i64 0]:=by rw [hwf];exact blk_at (by simp)
 have hc:=fatP_any wf (h.later hB) hs f
 have hsz:wf.heap.size=w.heap.size+1+1+1:=by rw [hwf];simp
 have hxo:=(at_ok h hx).o
 go_enter Tryz.func170,Tryz.ntmps170
 go_wp2_with fail
 rw [<- hwf]
 clear hwf
 refine hc.mono ?_
 rintro e w1 ⟨y,rfl,hy,hb⟩
 have hB1:=below_next hB hb (Nat.le_refl _)
 have hZ1:=hZ.later hb hZ.lt
 have hs1:w.heap.size+1+1+1<=w1.heap.size:=by rw [<- hsz];exact hb.size
 have HY:Hid (y=(atF p f).getD In.zero):=Lib.hid hy
 rw [hx]
 rw [hx] at hy
 obtain rfl:y=x:=hy
 obtain ⟨w2,hw2⟩:∃ w2,w2=w1.alloc (.cells #[.int .u8 (y.o:Int),.int .i64 y.a,.int .i64 y.b,.int .i64 y.c,.int .i64 y.k] 95):=⟨_,rfl⟩
 have hZ2:Blk w2 (w.heap.size+1+1) 95 #[.int .u8 0,.int .i64 0,.int .i64 0,.int .i64 0,.int .i64 0]:=by rw [hw2];exact hZ1.alloc _
 have hY2:Blk w2 w1.heap.size 95 #[.int .u8 (y.o:Int),.int .i64 y.a,.int .i64 y.b,.int .i64 y.c,.int .i64 y.k]:=by rw [hw2];exact blk_new w1 _ _
 have hB2:Below w.heap.size w w2:=by rw [hw2];exact hB1.alloc hB1.size _
 have hs2:w.heap.size+1+1+1<=w2.heap.size:=by rw [hw2];simp;omega
 obtain ⟨Y,hY⟩:∃ Y,Y=w1.heap.size:=⟨_,rfl⟩
 rw [<- hY] at hY2
 clear hc hB hb hZ hZ1 hB1 hsz
 have hn1:=registers_any [y.a,y.b] (Y+1) (w2.alloc (.cells #[.int .i64 y.a,.int .i64 y.b] 3)) (blk_at (by rw [hw2,World.size_alloc,hY])) (by simp)
 have hall : [y.a,y.b].all regB=true:=by simp [regB_iff];omega
 rw [hall] at hn1
 have HR:=Lib.hid hr
 clear hall hr
 obtain ⟨w3,hw3⟩:∃ w3,w3=w2.alloc (.cells #[.int .i64 y.a,.int .i64 y.b] 3):=⟨_,rfl⟩
 have hY3:Blk w3 Y 95 #[.int .u8 (y.o:Int),.int .i64 y.a,.int .i64 y.b,.int .i64 y.c,.int .i64 y.k]:=by rw [hw3];exact hY2.alloc _
 have hZ3:Blk w3 (w.heap.size+1+1) 95 #[.int .u8 0,.int .i64 0,.int .i64 0,.int .i64 0,.int .i64 0]:=by rw [hw3];exact hZ2.alloc _
 have hB3:Below w.heap.size w w3:=by rw [hw3];exact hB2.alloc hB2.size _
 rw [<- hw3] at hn1
 obtain ⟨i0,i1,i2,i3,i4⟩:=ins_cells (x:=y) hY2
 obtain ⟨z0,z1,z2,z3,z4⟩:=ins_cells (x:=In.zero) hZ3
 have zf:=hZ3.frozen
 obtain ⟨w5,hw5,hX5,hb5⟩:∃ w5,w5=(((((w3.setCell ⟨w.heap.size+1+1,0,none⟩ (.int .u8 (y.o:Int))).setCell ⟨w.heap.size+1+1,1,none⟩ (.int .i64 y.a)).setCell ⟨w.heap.size+1+1,2,none⟩ (.int .i64 y.b)).setCell ⟨w.heap.size+1+1,3,none⟩ (.int .i64 y.c)).setCell ⟨w.heap.size+1+1,4,none⟩ (.int .i64 y.k))/\Blk w5 (w.heap.size+1+1) 95 #[.int .u8 (y.o:Int),.int .i64 y.a,.int .i64 y.b,.int .i64 y.c,.int .i64 y.k]/\But [w.heap.size+1+1] w3 w5:=⟨_,rfl,sto5 hZ3 (.int .u8 (y.o:Int)) (.int .i64 y.a) (.int .i64 y.b) (.int .i64 y.c) (.int .i64 y.k)⟩
 have hB5:=below_but hB3 hb5 (Nat.le_refl _) (by omega)
 obtain ⟨j0,j1,j2,j3,j4⟩:=ins_cells (x:=y) hY3
 rw [hw2] at i0 i1 i2 i3 i4
 rw [hY] at i0 i1 i2 i3 i4
 have hloc:=local_any y.o w2 hxo
 rw [hl,hw2] at hloc
 clear hl
 go_wp2_with (go_at_call 162;refine hloc.mono ?_;rintro e w4 ⟨rfl,rfl⟩)
 rw [<- hw2, <- hw3, <- hY]
 refine hn1.mono ?_
 clear hw2 hw3 hY i0 i1 i2 i3 i4
 rintro e w4 ⟨rfl,rfl⟩
 go_wp2_with fail
 rw [<- hw5]
 obtain ⟨q0,q1,q2,q3,q4⟩:=ins_cells (x:=y) hX5
 refine bodyPost_ret (v:=.tuple #[.agg #[.int .u8 (y.o:Int),.int .i64 y.a,.int .i64 y.b,.int .i64 y.c,.int .i64 y.k],.int .i64 0]) (by simp [results,Tryz.f170,go_sem,q0,q1,q2,q3,q4]) rfl ?_
 exact ⟨y,rfl,HY.out,hB5⟩
theorem local_any2 {lo hi:Nat} {v1 v2 v3:Value} {p:Prg} (w:World) (h:PrgAt lo hi w v1 v2 v3 p) (hs:Small p) (hm:checkW p=none) (f:Fra) :
  Calls Tryz.prog 170 #[.agg #[v1,v2,v3],fraV f] w fun e w'=>∃ y:In,e=.returned (.tuple #[.agg #[.int .u8 (y.o:Int),.int .i64 y.a,.int .i64 y.b,.int .i64 y.c,.int .i64 y.k],.int .i64 (locE p f)])/\y=(atF p f).getD In.zero/\Below w.heap.size w w':=by
 unfold locE
 cases hx:atF p f with
 | none=>have:=local_none w h hs f hx;rw [hx] at this;exact this
 | some x=>
  cases hl:locO x.o with
  | false=>have:=local_other w h hs f hx hl;rw [hx] at this;simp only [hl];exact this
  | true=>have:=local_local w h hs f hx hl (at_regs hm hx);rw [hx] at this;simp only [hl];exact this
open Go.RowKit
theorem arrived_ok {lo hi:Nat} {v1 v2 v3:Value} {p:Prg} (w:World) (h:PrgAt lo hi w v1 v2 v3 p) (hs:Small p) (f:Fra) (hx:(atF p f).isSome=true) :
  Calls Tryz.prog 166 #[.agg #[v1,v2,v3],fraV f] w fun e w'=>e=.returned (.tuple #[fraV f,.int .i64 0])/\Below w.heap.size w w':=by
 obtain ⟨wf,hwf⟩:∃ wf,wf=((w.alloc (.cells #[v1,v2,v3] 26)).alloc (.cells (fraA f) 61)).alloc (.cells (fraA Fra.zero) 61):=⟨_,rfl⟩
 have hB:Below w.heap.size w wf:=by rw [hwf];exact below3 w _ _ _
 have hZ:Blk wf (w.heap.size+1+1) 61 (fraA Fra.zero):=by rw [hwf];exact blk_at (by simp)
 have hF:FrAt wf (w.heap.size+1) f:=by rw [hwf];exact (blk_at (by simp)).alloc _
 have hc:=fcheck_any wf (h.later hB) hs f
 rw [hx] at hc
 go_enter Tryz.func166,Tryz.ntmps166
 go_wp2_with fail
 rw [show (#[.int .i64 0,.int .i64 0,.int .i64 0,.int .i64 0,.int .i64 0,.int .i64 0,.int .i64 0,.int .i64 0,.int .i64 0,.int .i64 0]:Array Value)=fraA Fra.zero from rfl, <- hwf]
 clear hwf
 refine hc.mono ?_
 rintro e w1 ⟨rfl,hb⟩
 have hB1:=below_next hB hb (Nat.le_refl _)
 have hZ1:=hZ.later hb hZ.lt
 have hF1:=hF.later hb hF.lt
 obtain ⟨q0,q1,q2,q3,q4,q5,q6,q7,q8,q9⟩:=fra_cells hF1
 obtain ⟨z0,z1,z2,z3,z4,z5,z6,z7,z8,z9⟩:=fra_cells hZ1
 have zf:=hZ1.frozen
 have hok:okE true=0:=rfl
 obtain ⟨w5,hw5,hX5,hb5⟩:∃ w5,w5=((((((((((w1.setCell ⟨w.heap.size+1+1,0,none⟩ (.int .i64 f.c)).setCell ⟨w.heap.size+1+1,1,none⟩ (.int .i64 f.p)).setCell ⟨w.heap.size+1+1,2,none⟩ (.int .i64 f.r0)).setCell ⟨w.heap.size+1+1,3,none⟩ (.int .i64 f.r1)).setCell ⟨w.heap.size+1+1,4,none⟩ (.int .i64 f.r2)).setCell ⟨w.heap.size+1+1,5,none⟩ (.int .i64 f.r3)).setCell ⟨w.heap.size+1+1,6,none⟩ (.int .i64 f.r4)).setCell ⟨w.heap.size+1+1,7,none⟩ (.int .i64 f.r5)).setCell ⟨w.heap.size+1+1,8,none⟩ (.int .i64 f.r6)).setCell ⟨w.heap.size+1+1,9,none⟩ (.int .i64 f.r7))/\Blk w5 (w.heap.size+1+1) 61 (fraA f)/\But [w.heap.size+1+1] w1 w5:=⟨_,rfl,sto10 hZ1 (.int .i64 f.c) (.int .i64 f.p) (.int .i64 f.r0) (.int .i64 f.r1) (.int .i64 f.r2) (.int .i64 f.r3) (.int .i64 f.r4) (.int .i64 f.r5) (.int .i64 f.r6) (.int .i64 f.r7)⟩
 have hB5:=below_but hB1 hb5 (Nat.le_refl _) (by omega)
 rw [hok]
 clear hc hB hb hZ hF
 go_wp2_with fail
 rw [<- hw5]
 clear q0 q1 q2 q3 q4 q5 q6 q7 q8 q9
 obtain ⟨q0,q1,q2,q3,q4,q5,q6,q7,q8,q9⟩:=fra_cells hX5
 refine bodyPost_ret (v:=.tuple #[fraV f,.int .i64 0]) (by simp [results,Tryz.f166,go_sem,q0,q1,q2,q3,q4,q5,q6,q7,q8,q9]) rfl ?_
 exact ⟨rfl,hB5⟩
open Go.RowKit Go.Shelf
def SeqUpto {α:Type} (F:Fence) (n:Nat) (P:Program) (g:Nat) (lb:Array Value) (encs:α->Array Value) (Kp:World->World->Prop) (B:List α->World->Prop) (S Sp:List α->Prop) (w:World):Prop:=
 ∀ (l:Nat) (J Jx:List α->World->Prop) (W:World),Below w.heap.size w W->
  (∀ s X Y,J s X->Below W.heap.size X Y->J s Y)->(∀ s X Y,Jx s X->Below W.heap.size X Y->Jx s Y)->(∀ s X,J s X->B s X)->
  (∀ s x X,J s X->YieldAt F (n - 1) P l (encs x) X fun e Y=>(e=.returned (.bool true)/\J (s ++ [x]) Y/\Kp X Y) \/ (e=.returned (.bool false)/\Jx (s ++ [x]) Y))->
  J [] W->
  CallsIn F n P g (#[.func (.yield l) #[] #[]] ++ lb) W fun e Y=>(∃ v,e=.returned v)/\((∃ s,S s/\J s Y) \/ (∃ s,Sp s/\Jx s Y))
theorem below_obj {n:Nat} (W:World) {l:Nat} (o:Obj) (hl:n<=l):Below n W (W.putObj l o):=
 ⟨rfl,rfl,rfl,by simp [World.putObj],fun k hk=>World.putObj_heap_other (by omega)⟩
theorem range_upto {F:Fence} {n:Nat} {P:Program} {α:Type} {g:Operand} {ps:Array Tmp} {assign body:Code} {Q:Exit->Act->World->Prop} {a:Act} {w:World}
  (hro:F.round=none) (h1:1<=n) {gf:Nat} {lb:Array Value} (hg:a.eval g=.func (.func gf) #[] lb) (hFg:F.fn gf) (eg:∀ args w,(callFunc gf args).run P w=.ok (.enter gf args) w)
  {encs:α->Array Value} {Kp:World->World->Prop} {B:List α->World->Prop} {S Sp:List α->Prop} (hseq:SeqUpto F (n - 1) P gf lb encs Kp B S Sp w)
  (hKt:∀ {X Y Z:World},Kp X Y->Kp Y Z->Kp X Z) (hKb:∀ (W:World) (l:Nat) (o o':Obj),w.heap.size<=l->W.heap[l]?=some o->o.isCells=false->o.isWalk=false->Kp W (W.putObj l o'))
  (hps:∀ x,(encs x).size=ps.size) (I:List α->World->Prop) (Ix:Code->List α->World->Prop)
  (hI:∀ s X Y,I s X->Below w.heap.size X Y->I s Y) (hIx:∀ c s X Y,Ix c s X->Below w.heap.size X Y->Ix c s Y) (hIB:∀ s X,I s X->B s X) (h0:I [] w)
  (Ax:α->Act->World->Prop) (hAx:∀ x a' X (l:Nat) (o o':Obj),Ax x a' X->X.heap[l]?=some o->o.isCells=false->Ax x a' (X.putObj l o'))
  (hassign:∀ (l:Nat) (s:List α) (x:α) (W:World) (K:Act->World->Prop),I s W->(∀ a' W',KeepsFrom w.heap.size W W'->Kp W W'->I s W'->Ax x a' W'->K a' W')->
   assign.wpIn (F.inRound l) (n - 1 - 1) P (Exit.then K (fun _ _ _=>False)) { tmps:=(ps.zip (encs x)).foldl (fun t (p,v)=>t.setIfInBounds p v) a.tmps,defers:=[] } W)
  (hbody:∀ (l:Nat) (s:List α) (x:α) (a':Act) (W:World),I s W->Ax x a' W->body.wpIn (F.inRound l) (n - 1 - 1) P (ownPostG w.heap.size Kp I Ix (s ++ [x]) W) a' W)
  (hdone:∀ (D:Nat) (s:List α) (W:World),w.heap.size<=D->S s->I s W->W.heap[D]?=some (.deferred (some []))->Q .normal { a with defers:={ target:=.collected D,args:=#[] }::a.defers } W)
  (hstop:∀ (D:Nat) (c:Code) (s:List α) (W:World),w.heap.size<=D->Sp s->Ix c s W->W.heap[D]?=some (.deferred (some []))->c.wpIn F n P Q { a with defers:={ target:=.collected D,args:=#[] }::a.defers } W) :
  (Code.rangeFunc g ps assign body).wpIn F n P Q a w:=by
 refine wpIn_rangeFunc fun fn hfn=>?_
 rw [hro]
 let rec0:LoopState->Option Code->Loop:=fun st pe=>{ state:=st,pending:=pe,fn,tmps:=a.tmps,params:=ps,assign,body,defers:=w.heap.size }
 let Bk:LoopState->Option Code->World->Prop:=fun st pe X=>X.heap[w.heap.size+1]?=some (.loop (rec0 st pe))/\X.heap[w.heap.size]?=some (.deferred (some []))
 obtain ⟨W1,hW1⟩:∃ W1,W1=(w.alloc (.deferred (some []))).alloc (.loop (rec0 .ready none)):=⟨_,rfl⟩
 have sz:W1.heap.size=w.heap.size+2:=by rw [hW1];simp
 have bB:Below w.heap.size w W1:=by rw [hW1];exact below2 w _ _
 have bk1:Bk .ready none W1:=by
  refine ⟨?_,?_⟩
  ·rw [hW1]
   have:=World.alloc_heap_new (w.alloc (.deferred (some []))) (.loop (rec0 .ready none))
   rwa [World.size_alloc] at this
  ·rw [hW1]
   exact (Below.heap_alloc _ _ _ (by simp)).trans (World.alloc_heap_new w _)
 have bkB:∀ {st pe X Y},Bk st pe X->Below W1.heap.size X Y->Bk st pe Y:=fun h hb=>⟨(hb.block _ (by omega)).trans h.1,(hb.block _ (by omega)).trans h.2⟩
 have bkP:∀ {st pe st' pe' X},Bk st pe X->Bk st' pe' (X.putObj (w.heap.size+1) (.loop (rec0 st' pe'))):=fun h=>
  ⟨World.putObj_heap_same (Array.getElem?_eq_some_iff.1 h.1).1,(World.putObj_heap_other (by omega)).trans h.2⟩
 have low:∀ {X Y},Below W1.heap.size X Y->Below w.heap.size X Y:=fun h=>h.mono (by omega)
 refine ⟨w.heap.size+1,[{ target:=.collected w.heap.size,args:=#[] }],W1,{ target:=.fn (.func gf) lb,args:=#[.func (.yield (w.heap.size+1)) #[] #[]] },W1,gf,
  #[.func (.yield (w.heap.size+1)) #[] #[]] ++ lb,W1,by rw [hW1];exact run_enterLoop_outer _ _ _ _ _,by simp only [resolve,hg];simp [go_sem],fun f' hf'=>?_,by simp [invoke,go_sem,eg],fun _=>h1,?_⟩
 ·simp [Target.leads] at hf'
  subst hf'
  exact hFg
 refine (hseq (w.heap.size+1) (fun s X=>I s X/\Bk .ready none X) (fun s X=>∃ c,Ix c s X/\Bk .done (some c) X) W1 bB
  (fun s X Y h hb=>⟨hI s X Y h.1 (low hb),bkB h.2 hb⟩) (fun s X Y h hb=>by obtain ⟨c,h2,h3⟩:=h;exact ⟨c,hIx c s X Y h2 (low hb),bkB h3 hb⟩) (fun s X h=>hIB s X h.1) ?_ ⟨hI _ _ _ h0 bB,bk1⟩).mono ?_
 ·rintro s x X ⟨hi,hk⟩
  refine ⟨fn,_,assign,body,run_yield (r:=rec0 .ready none) hk.1 (hps x),roundIn_of_wpIn hfn (hassign _ s x X _ hi fun a' Xa hka hpa hia hax=>?_)⟩
  have hk':Bk .ready none Xa:=⟨hka.same _ _ (by omega) hk.1 rfl,hka.same _ _ (Nat.le_refl _) hk.2 rfl⟩
  refine ⟨_,run_beginRound (r:=rec0 .ready none) hk'.1 rfl,?_⟩
  have hkb:Bk .busy none (Xa.putObj (w.heap.size+1) (.loop (rec0 .busy none))):=bkP hk'
  have hpb:Kp X (Xa.putObj (w.heap.size+1) (.loop (rec0 .busy none))):=hKt hpa (hKb _ _ _ _ (by omega) hk'.1 rfl rfl)
  refine wpIn_mono (hbody _ s x a' _ (hI _ _ _ hia (below_obj _ _ (by omega))) (hAx _ _ _ _ _ _ hax hk'.1 rfl)) ?_
  have fin:∀ (jump:Option Code) (Z:World),KeepsFrom w.heap.size (Xa.putObj (w.heap.size+1) (.loop (rec0 .busy none))) Z->Bk .busy none Z /\
    (Instr.endRound (w.heap.size+1) jump).run P Z=.ok (.bool jump.isNone) (Z.putObj (w.heap.size+1) (.loop (rec0 (if jump.isNone then .ready else .done) jump))):=fun jump Z hz=>by
   have hz':Bk .busy none Z:=⟨hz.same _ _ (by omega) hkb.1 rfl,hz.same _ _ (Nat.le_refl _) hkb.2 rfl⟩
   exact ⟨hz',run_endRound (r:=rec0 .busy none) jump hz'.1⟩
  rintro e a3 Z hp
  cases e with
  | normal=>
   obtain ⟨hz,hpz,hiz⟩:=hp
   obtain ⟨hzk,hr⟩:=fin none Z hz
   exact ⟨_,_,hr,.inl ⟨rfl,⟨hI _ _ _ hiz (below_obj _ _ (by omega)),bkP hzk⟩,hKt hpb (hKt hpz (hKb _ _ _ _ (by omega) hzk.1 rfl rfl))⟩⟩
  | ret=>
   obtain ⟨hzk,hr⟩:=fin (some .ret) Z hp.1
   exact ⟨_,_,hr,.inr ⟨rfl,.ret,hIx _ _ _ _ hp.2 (below_obj _ _ (by omega)),bkP hzk⟩⟩
  | exit id=>
   obtain ⟨hzk,hr⟩:=fin (some (.exit id)) Z hp.1
   exact ⟨_,_,hr,.inr ⟨rfl,.exit id,hIx _ _ _ _ hp.2 (below_obj _ _ (by omega)),bkP hzk⟩⟩
  | goto t=>
   obtain ⟨hzk,hr⟩:=fin (some (.goto t)) Z hp.1
   exact ⟨_,_,hr,.inr ⟨rfl,.goto t,hIx _ _ _ _ hp.2 (below_obj _ _ (by omega)),bkP hzk⟩⟩
  | panic ch=>exact hp.elim
  | outgrown=>exact hp.elim
 ·rintro e Y ⟨⟨v,rfl⟩,h | h⟩
  ·obtain ⟨s,hS,hi,hk⟩:=h
   exact ⟨none,_,run_endLoop (r:=rec0 .ready none) hk.1 (by simp [rec0]),hdone _ s _ (Nat.le_refl _) hS (hI _ _ _ hi (below_obj _ _ (by omega))) ((World.putObj_heap_other (by omega)).trans hk.2)⟩
  ·obtain ⟨s,hS,c,hi,hk⟩:=h
   exact ⟨some c,_,run_endLoop (r:=rec0 .done (some c)) hk.1 (by simp [rec0]),hstop _ c s _ (Nat.le_refl _) hS (hIx _ _ _ _ hi (below_obj _ _ (by omega))) ((World.putObj_heap_other (by omega)).trans hk.2)⟩
open Go.RowKit Go.Shelf
attribute [local go_sem] Oper.semAt_some
structure KeepF (hi:Nat) (S:List Nat) (X Y:World):Prop where
 size:X.heap.size<=Y.heap.size
 low:∀ k,k<hi->Y.heap[k]?=X.heap[k]?
 same:∀ (k:Nat) (o:Obj),X.heap[k]?=some o->(o.isCells=true \/ o.isWalk=true)->k ∉ S->Y.heap[k]?=some o
theorem KeepF.trans {hi:Nat} {S:List Nat} {X Y Z:World} (h:KeepF hi S X Y) (k:KeepF hi S Y Z):KeepF hi S X Z:=
 ⟨Nat.le_trans h.size k.size,fun i hi'=>(k.low i hi').trans (h.low i hi'),fun i o ho hc hn=>k.same i o (h.same i o ho hc hn) hc hn⟩
theorem KeepF.obj {hi:Nat} {S:List Nat} (W:World) (l:Nat) (o o':Obj) (hl:hi<=l) (ho:W.heap[l]?=some o) (h1:o.isCells=false) (h2:o.isWalk=false):KeepF hi S W (W.putObj l o'):=
 ⟨by simp [World.putObj],fun k hk=>World.putObj_heap_other (by omega),fun k q hq hc _=>by
  by_cases e:k=l
  ·subst e
   rw [ho] at hq
   cases hq
   rcases hc with hc | hc
   ·rw [h1] at hc;cases hc
   ·rw [h2] at hc;cases hc
  ·exact (World.putObj_heap_other e).trans hq⟩
theorem KeepF.blk {hi:Nat} {S:List Nat} {X Y:World} (h:KeepF hi S X Y) {B:Nat} {t:TypeId} {cs:Array Value} (hb:Blk X B t cs) (hn:B ∉ S):Blk Y B t cs:=h.same B _ hb (.inl rfl) hn
theorem KeepF.doer {hi:Nat} {S:List Nat} {X Y:World} (h:KeepF hi S X Y) {A b T1 T2 M:Nat} (hd:Doer X A b T1 T2 M) (n1:b ∉ S) (n2:T1 ∉ S) (n3:T2 ∉ S) (n4:M ∉ S):Doer Y A b T1 T2 M:=
 ⟨h.same _ _ hd.x (.inl rfl) n1,h.same _ _ hd.t1 (.inl rfl) n2,h.same _ _ hd.t2 (.inl rfl) n3,by
  obtain ⟨es,c,hi⟩:=hd.m.is
  exact hd.m.of_block ((h.same _ _ hi (.inr rfl) n4).trans hi.symm)⟩
theorem KeepF.prg {lo hi:Nat} {S:List Nat} {X Y:World} (h:KeepF hi S X Y) {v1 v2 v3:Value} {p:Prg} (hp:PrgAt lo hi X v1 v2 v3 p):PrgAt lo hi Y v1 v2 v3 p:=
 hp.stay (fun b _ hb=>h.low b hb) (Nat.le_trans hp.top h.size)
def eOf (b:Bool):Int:=if b then 0 else 8
def encF (x:Fra × Bool):Array Value:=#[fraV x.1,.int .i64 (eOf x.2)]
def itemF (p:Prg) (f:Fra) (k:Nat):Fra × Bool:=(runK p f k,locAt p (runK p f k))
def seqF (p:Prg) (f:Fra) (s:List (Fra × Bool)):Prop:=∀ (k:Nat) (x:Fra × Bool),s[k]?=some x->x=itemF p f k
def BndF (C M:Nat) (s:List (Fra × Bool)) (X:World):Prop:=Boxed X C 3 (.int .i64 (s.length:Int))/\s.length<=M
def cntF (C:Nat) (X:World):Nat:=match X.cell? ⟨C,0,none⟩ with
 | some (.int _ i)=>i.toNat
 | _=>0
theorem BndF.cnt {C M:Nat} {s:List (Fra × Bool)} {X:World} (h:BndF C M s X):cntF C X=s.length:=by
 unfold cntF
 rw [h.1.cell]
 simp
theorem seqF_snoc {p:Prg} {f:Fra} {s:List (Fra × Bool)} (h:seqF p f s):seqF p f (s ++ [itemF p f s.length]):=by
 intro k x hx
 by_cases hk:k<s.length
 ·rw [List.getElem?_append_left hk] at hx;exact h k x hx
 ·rw [List.getElem?_append_right (by omega)] at hx
  have:k=s.length:=by
   have:=(List.getElem?_eq_some_iff.1 hx).1
   simp at this;omega
  subst this
  simp at hx
  exact hx.symm
theorem frames_any (v1 v2 v3:Value) (f:Fra) (w:World) :
  Calls Tryz.prog 147 #[.agg #[v1,v2,v3],fraV f] w fun e w'=>e=.returned (.func (.func 168) #[] #[.pointer (some ⟨w.heap.size+1,0,none⟩),.pointer (some ⟨w.heap.size,0,none⟩)])/\w'=(w.alloc (.cells #[v1,v2,v3] 26)).alloc (.cells (fraA f) 61):=by
 have hmf:∀ (fn:Fn) (first cap:Array Value) (w:World),(Instr.makeFunc fn first cap).run Tryz.prog w=.ok (.func fn first cap) w:=fun _ _ _ _=>rfl
 go_enter Tryz.func147,Tryz.ntmps147
 go_wp2_with fail
 go_ret
 exact ⟨rfl,rfl⟩
theorem locE_of {p:Prg} {f:Fra} (h:(atF p f).isSome=true):locE p f=eOf (locAt p f):=by
 obtain ⟨x,hx⟩:=Option.isSome_iff_exists.1 h
 unfold locE locAt eOf
 rw [hx]
structure HeadF (W:World) (lo hi:Nat) (v1 v2 v3:Value) (p:Prg) (f:Fra) (PB A b:Nat) (s:List (Fra × Bool)):Prop where
 prg:PrgAt lo hi W v1 v2 v3 p
 pb:Blk W PB 26 #[v1,v2,v3]
 fr:FrAt W A (runK p f s.length)
 at':(atF p (runK p f s.length)).isSome=true
 doer:Doer W A b (A+1) (A+1+1) (A+1+1+1)
 seq:seqF p f s
theorem frames1_upto {lo hi:Nat} {v1 v2 v3:Value} {p:Prg} {f:Fra} {FB PB C M:Nat} {S:List Nat} (w:World) (h:PrgAt lo hi w v1 v2 v3 p) (hs:Small p) (hm:checkW p=none) (hP:Blk w PB 26 #[v1,v2,v3]) (hF:FrAt w FB f)
  (hS:∀ k ∈ S,k<w.heap.size) (hPS:PB ∉ S) (hat:(atF p f).isSome=true) :
  SeqUpto Fence.wide 3 Tryz.prog 168 #[.pointer (some ⟨FB,0,none⟩),.pointer (some ⟨PB,0,none⟩)] encF (KeepF hi S) (BndF C M) (fun s=>∃ t x,s=t ++ [x]/\x.2=false) (fun s=>s ≠ []/\seqF p f s) w:=by
 intro l J Jx W hW hJ hJx hB hY h0
 have hFW:FrAt W FB f:=hF.later hW hF.lt
 have hPW:=hP.later hW hP.lt
 obtain ⟨W1,hW1⟩:∃ W1,W1=W.alloc (.cells (fraA f) 61):=⟨_,rfl⟩
 have hb1:Below W.heap.size W W1:=by rw [hW1];exact (Below.refl _ W).alloc (Nat.le_refl _) _
 have hA1:FrAt W1 W.heap.size f:=by rw [hW1];exact blk_new W _ _
 have hs1:W1.heap.size=W.heap.size+1:=by rw [hW1];simp
 have hdo:=doer_any W.heap.size W1
 rw [hs1] at hdo
 have hh:=h.later hW
 have hWsz:=hW.size
 obtain ⟨q0,q1,q2,q3,q4,q5,q6,q7,q8,q9⟩:=fra_cells hFW
 refine callsIn_of_wp Tryz.func168 rfl trivial ?_ rfl
 simp only [Tryz.ntmps168,List.size_toArray,List.length_cons,List.length_nil,Nat.reduceAdd,Nat.reduceSub,Array.replicate_succ,Array.replicate_zero,List.push_toArray,List.append_toArray,List.nil_append,List.cons_append]
 gi_wp2
 rw [show (#[.int .i64 f.c,.int .i64 f.p,.int .i64 f.r0,.int .i64 f.r1,.int .i64 f.r2,.int .i64 f.r3,.int .i64 f.r4,.int .i64 f.r5,.int .i64 f.r6,.int .i64 f.r7]:Array Value)=fraA f from rfl, <- hW1]
 clear hW1 q0 q1 q2 q3 q4 q5 q6 q7 q8 q9 hFW
 refine ⟨trivial,(callsIn_wide.2 hdo).mono ?_⟩
 rintro e W2 ⟨X,rfl,hD2,hX2,hb2⟩
 have hb2':Below W1.heap.size W1 W2:=by rw [hs1];exact hb2
 have hBW:Below W.heap.size W W2:=below_next hb1 hb2' (Nat.le_refl _)
 have hH2:HeadF W2 lo hi v1 v2 v3 p f PB W.heap.size X []:=⟨hh.later hBW,hPW.later hBW hPW.lt,hA1.later hb2' hA1.lt,hat,hD2,fun k x hx=>by simp at hx⟩
 have hJ2:J [] W2:=hJ _ _ _ h0 hBW
 have hX:W.heap.size<X:=by omega
 clear hdo hA1 hb1 hb2 hb2' hD2 h0 hX2 hs1 hPW hh
 unfold doerV
 gi_wp2
 gi_loopw [7] (fun iv wr=>∃ s:List (Fra × Bool),J s wr/\W.heap.size<=wr.heap.size/\HeadF wr lo hi v1 v2 v3 p f PB W.heap.size X s) (fun iv wr=>M+1 - cntF C wr)
 case atStart=>exact ⟨[],hJ2,hBW.size,hH2⟩
 case round=>
  clear hJ2 hBW hH2
  obtain ⟨s,hJs,hBs,hH⟩:=hrel
  have hloc:=local_any2 wr hH.prg hs hm (runK p f s.length)
  rw [locE_of hH.at'] at hloc
  obtain ⟨g,hg⟩:∃ g,g=runK p f s.length:=⟨_,rfl⟩
  have hfr:=hH.fr
  have hgat:=hH.at'
  rw [<- hg] at hloc hfr hgat
  have hpb:=hH.pb
  have p0:=hpb.cell (k:=0) (v:=v1) rfl
  have p1:=hpb.cell (k:=1) (v:=v2) rfl
  have p2:=hpb.cell (k:=2) (v:=v3) rfl
  obtain ⟨q0,q1,q2,q3,q4,q5,q6,q7,q8,q9⟩:=fra_cells hfr
  have HG:=Lib.hid hg
  clear hg
  gi_wp2
  refine ⟨trivial,(callsIn_wide.2 hloc).mono ?_⟩
  clear hloc p0 p1 p2 q0 q1 q2 q3 q4 q5 q6 q7 q8 q9
  rintro e w1 ⟨y,rfl,hy,hb⟩
  have HY:=Lib.hid hy
  clear hy
  obtain ⟨w2,hw2⟩:∃ w2,w2=w1.alloc (.cells #[.int .u8 (y.o:Int),.int .i64 y.a,.int .i64 y.b,.int .i64 y.c,.int .i64 y.k] 95):=⟨_,rfl⟩
  have hb12:Below wr.heap.size wr w2:=by rw [hw2];exact hb.alloc hb.size _
  have hY2:Blk w2 w1.heap.size 95 #[.int .u8 (y.o:Int),.int .i64 y.a,.int .i64 y.b,.int .i64 y.c,.int .i64 y.k]:=by rw [hw2];exact blk_new w1 _ _
  have hYW:wr.heap.size<=w1.heap.size:=hb.size
  have hfr2:=hfr.later hb12 hfr.lt
  have hJw:J s w2:=hJ _ _ _ hJs (hb12.mono hBs)
  obtain ⟨q0,q1,q2,q3,q4,q5,q6,q7,q8,q9⟩:=fra_cells hfr2
  obtain ⟨fn,tmps,assign,body,hyy,hR⟩:=hY s (itemF p f s.length) w2 hJw
  have hit:itemF p f s.length=(g,locAt p g):=by unfold itemF;rw [<- HG.out]
  rw [hit] at hyy hR
  simp only [encF] at hyy
  rw [hw2] at q0 q1 q2 q3 q4 q5 q6 q7 q8 q9 hyy
  gi_wp2
  rw [<- hw2]
  have hD2:=hH.doer.later hb12
  have hp2:=hH.prg.later hb12
  have hpb2:=hpb.later hb12 hpb.lt
  have hBs2:W.heap.size<=w2.heap.size:=Nat.le_trans hBs hb12.size
  have hne:∀ k,W.heap.size<=k->k ∉ S:=fun k hk hn=>by have:=hS k hn;omega
  have hsq:=seqF_snoc hH.seq
  rw [hit] at hsq
  have HSQ:=Lib.hid hsq
  have hBl:=Lib.hid (hB _ _ hJs)
  have hWs:=hBs
  clear hw2 hyy q0 q1 q2 q3 q4 q5 q6 q7 q8 q9 hfr hb hJs hpb hb12 hH hsq hJw hit hBs
  refine hR.mono ?_
  clear hR
  rintro e w3 (⟨rfl,hJ3,hK⟩ | ⟨rfl,hJ3⟩)
  ·have hfr3:=hK.blk hfr2 (hne _ (Nat.le_refl _))
   have hD3:=hK.doer hD2 (hne _ (by omega)) (hne _ (by omega)) (hne _ (by omega)) (hne _ (by omega))
   have hp3:=hK.prg hp2
   have hpb3:=hK.blk hpb2 hPS
   have hY3:=hK.blk hY2 (hne _ (by omega))
   have hB3:W.heap.size<=w3.heap.size:=Nat.le_trans hBs2 hK.size
   clear hfr2 hD2 hp2 hpb2 hY2
   cases hl:locAt p g with
   | false=>
    have HL:=Lib.hid hl
    have e8:eOf false=8:=rfl
    rw [e8]
    clear hl
    gi_wp2
    refine bodyPost_ret (results_none rfl _ _ _) rfl ?_
    exact ⟨⟨_,rfl⟩,.inl ⟨_,⟨s,_,rfl,HL.out⟩,hJ3⟩⟩
   | true=>
    have e0:eOf true=0:=rfl
    rw [e0]
    obtain ⟨x,hx⟩:=Option.isSome_iff_exists.1 hgat
    have hlo:locO x.o=true:=by unfold locAt at hl;rw [hx] at hl;exact hl
    have hyx:y=x:=by rw [HY.out,hx];rfl
    subst hyx
    obtain ⟨hra,hrb⟩:=at_regs hm hx
    have hdo:=does_any w3 hD3 hfr3 hlo hra hrb (at_pc hs hx)
    have HA:=Lib.hid (doF_at hm hx hlo)
    have HX:=Lib.hid hx
    clear hl hx hlo hra hrb hgat
    obtain ⟨i0,i1,i2,i3,i4⟩:=ins_cells (x:=y) hY3
    gi_wp2
    refine ⟨trivial,(callsIn_wide.2 hdo).mono ?_⟩
    clear hdo i0 i1 i2 i3 i4
    rintro e w4 ⟨rfl,hfr4,hn4⟩
    have hb34:Below W.heap.size w3 w4:=hn4.below hB3 (by simp)
    have hJ4:=hJ _ _ _ hJ3 hb34
    have HJ:=Lib.hid (hB _ _ hJ4)
    gi_wp2
    go_roundw
    case rel=>
     refine ⟨_,hJ4,?_,?_⟩
     ·exact Nat.le_trans hB3 hb34.size
     ·have hPl:=hP.lt
      have htop:=h.top
      have hlen:(s ++ [(g,locAt p g)]).length=s.length+1:=by simp
      have hrk:runK p f (s.length+1)=doF y g:=by
       show nextF p (runK p f s.length)=_
       rw [<- HG.out]
       unfold nextF
       rw [HX.out]
      exact ⟨hp3.stay (fun b _ hb=>hn4.block b (by have:=hp3.top;omega) (by simp;omega)) (Nat.le_trans hp3.top hn4.size),but_on hpb3 hn4 (by omega),by rw [hlen,hrk];exact hfr4,by rw [hlen,hrk];exact HA.out.1,hD3.but hfr3 hn4,HSQ.out⟩
    case measure=>
     have hm1:=HJ.out.cnt
     have hm2:=hBl.out.cnt
     have hm3:=HJ.out.2
     rw [hm1,hm2]
     rw [List.length_append,List.length_singleton] at hm3 ⊢
     omega
  ·gi_wp2
   refine bodyPost_ret (results_none rfl _ _ _) rfl ?_
   exact ⟨⟨_,rfl⟩,.inr ⟨_,⟨by simp,HSQ.out⟩,hJ3⟩⟩
end Go.Proofs.YtnfbncgfpmcpnaaGreat
