/-
  For every program, every byte and every row of steps: ModelValues returns true, and its arguments read afterwards as before: of each channel what was received is a beginning of what was sent, and the rest is what it holds. No condition.
-/
import Derived.Test.YtnfbncgfpmcpnaaGreatRows
import Derived.WalkKit
import Derived.ProofKit
import Derived.OpenShut
import Derived.ShutString
import Derived.ChangeOld
import Derived.Below
import Derived.Deep.Slices
import Derived.Test.YtnfbncgfpmcpnaaGreatW07
set_option maxRecDepth 100000
set_option maxHeartbeats 12800000
namespace Go.Proofs.YtnfbncgfpmcpnaaGreat.modelValues
open Go.ChangeShapes Go.WideShapes Go.ChangeAt Go.RowKit Go.Deep
open Mdl Ent
theorem own:ownKnob Tryz.prog.godebug=none:=by kernel_rfl
theorem laidOut:laidOutB Tryz.prog=true:=by kernel_rfl
def In2 (w:World) (a:Option Addr) (len:Nat):Prop:=
 len=0 \/ ∃ (b off:Nat) (f:Nat->Int × Bool × Bool × Int × Int × Int × Int × Int × Int × Int × Int × Int × Int × Bool × Int × Int),a=some ⟨b,off,none⟩/\b<w.heap.size/\∀ j,j<len->w.cell? ⟨b,off+j * 16,none⟩=some (.int .u16 (f j).1)/\w.cell? ⟨b,off+j * 16+1,none⟩=some (.bool (f j).2.1)/\w.cell? ⟨b,off+j * 16+2,none⟩=some (.bool (f j).2.2.1)/\w.cell? ⟨b,off+j * 16+3,none⟩=some (.int .i64 (f j).2.2.2.1)/\w.cell? ⟨b,off+j * 16+4,none⟩=some (.int .u8 (f j).2.2.2.2.1)/\w.cell? ⟨b,off+j * 16+5,none⟩=some (.int .i64 (f j).2.2.2.2.2.1)/\w.cell? ⟨b,off+j * 16+6,none⟩=some (.int .i64 (f j).2.2.2.2.2.2.1)/\w.cell? ⟨b,off+j * 16+7,none⟩=some (.int .i64 (f j).2.2.2.2.2.2.2.1)/\w.cell? ⟨b,off+j * 16+8,none⟩=some (.int .i64 (f j).2.2.2.2.2.2.2.2.1)/\w.cell? ⟨b,off+j * 16+9,none⟩=some (.int .i64 (f j).2.2.2.2.2.2.2.2.2.1)/\w.cell? ⟨b,off+j * 16+10,none⟩=some (.int .i64 (f j).2.2.2.2.2.2.2.2.2.2.1)/\w.cell? ⟨b,off+j * 16+11,none⟩=some (.int .i64 (f j).2.2.2.2.2.2.2.2.2.2.2.1)/\w.cell? ⟨b,off+j * 16+12,none⟩=some (.int .i64 (f j).2.2.2.2.2.2.2.2.2.2.2.2.1)/\w.cell? ⟨b,off+j * 16+13,none⟩=some (.bool (f j).2.2.2.2.2.2.2.2.2.2.2.2.2.1)/\w.cell? ⟨b,off+j * 16+14,none⟩=some (.int .i64 (f j).2.2.2.2.2.2.2.2.2.2.2.2.2.2.1)/\w.cell? ⟨b,off+j * 16+15,none⟩=some (.int .u64 (f j).2.2.2.2.2.2.2.2.2.2.2.2.2.2.2)/\(Lit.int .u16 (f j).1).wf=true/\True/\True/\(Lit.int .i64 (f j).2.2.2.1).wf=true/\(Lit.int .u8 (f j).2.2.2.2.1).wf=true/\(Lit.int .i64 (f j).2.2.2.2.2.1).wf=true/\(Lit.int .i64 (f j).2.2.2.2.2.2.1).wf=true/\(Lit.int .i64 (f j).2.2.2.2.2.2.2.1).wf=true/\(Lit.int .i64 (f j).2.2.2.2.2.2.2.2.1).wf=true/\(Lit.int .i64 (f j).2.2.2.2.2.2.2.2.2.1).wf=true/\(Lit.int .i64 (f j).2.2.2.2.2.2.2.2.2.2.1).wf=true/\(Lit.int .i64 (f j).2.2.2.2.2.2.2.2.2.2.2.1).wf=true/\(Lit.int .i64 (f j).2.2.2.2.2.2.2.2.2.2.2.2.1).wf=true/\True/\(Lit.int .i64 (f j).2.2.2.2.2.2.2.2.2.2.2.2.2.2.1).wf=true/\(Lit.int .u64 (f j).2.2.2.2.2.2.2.2.2.2.2.2.2.2.2).wf=true
theorem cellsOf2:Tryz.prog.cellsOf 44=16:=by kernel_rfl
theorem elem2 {H:Type} {enc:TypeId × Value->H} {W:World} {n:Nat} {y:Addr} {cs:List Value} {x:DataW H × List MemPlace} (h1:W.cells? 0 y 16=some cs) (h2:DataW.trod enc Tryz.prog W 0 (fun _=>true) true n 44 cs=some x) :
  ∃ q:Int × Bool × Bool × Int × Int × Int × Int × Int × Int × Int × Int × Int × Int × Bool × Int × Int,W.cell? (y)=some (.int .u16 q.1)/\W.cell? (y.add 1)=some (.bool q.2.1)/\W.cell? (y.add 2)=some (.bool q.2.2.1)/\W.cell? (y.add 3)=some (.int .i64 q.2.2.2.1)/\W.cell? (y.add 4)=some (.int .u8 q.2.2.2.2.1)/\W.cell? (y.add 5)=some (.int .i64 q.2.2.2.2.2.1)/\W.cell? (y.add 6)=some (.int .i64 q.2.2.2.2.2.2.1)/\W.cell? (y.add 7)=some (.int .i64 q.2.2.2.2.2.2.2.1)/\W.cell? (y.add 8)=some (.int .i64 q.2.2.2.2.2.2.2.2.1)/\W.cell? (y.add 9)=some (.int .i64 q.2.2.2.2.2.2.2.2.2.1)/\W.cell? (y.add 10)=some (.int .i64 q.2.2.2.2.2.2.2.2.2.2.1)/\W.cell? (y.add 11)=some (.int .i64 q.2.2.2.2.2.2.2.2.2.2.2.1)/\W.cell? (y.add 12)=some (.int .i64 q.2.2.2.2.2.2.2.2.2.2.2.2.1)/\W.cell? (y.add 13)=some (.bool q.2.2.2.2.2.2.2.2.2.2.2.2.2.1)/\W.cell? (y.add 14)=some (.int .i64 q.2.2.2.2.2.2.2.2.2.2.2.2.2.2.1)/\W.cell? (y.add 15)=some (.int .u64 q.2.2.2.2.2.2.2.2.2.2.2.2.2.2.2)/\(Lit.int .u16 q.1).wf=true/\True/\True/\(Lit.int .i64 q.2.2.2.1).wf=true/\(Lit.int .u8 q.2.2.2.2.1).wf=true/\(Lit.int .i64 q.2.2.2.2.2.1).wf=true/\(Lit.int .i64 q.2.2.2.2.2.2.1).wf=true/\(Lit.int .i64 q.2.2.2.2.2.2.2.1).wf=true/\(Lit.int .i64 q.2.2.2.2.2.2.2.2.1).wf=true/\(Lit.int .i64 q.2.2.2.2.2.2.2.2.2.1).wf=true/\(Lit.int .i64 q.2.2.2.2.2.2.2.2.2.2.1).wf=true/\(Lit.int .i64 q.2.2.2.2.2.2.2.2.2.2.2.1).wf=true/\(Lit.int .i64 q.2.2.2.2.2.2.2.2.2.2.2.2.1).wf=true/\True/\(Lit.int .i64 q.2.2.2.2.2.2.2.2.2.2.2.2.2.2.1).wf=true/\(Lit.int .u64 q.2.2.2.2.2.2.2.2.2.2.2.2.2.2.2).wf=true:=by
 obtain ⟨_,hlen,hat⟩:=World.cells?_some h1
 obtain ⟨ys,m,_,_,_,hyl,hf⟩:=DataW.trod_struct Tryz.underlying44 h2
 match cs,hlen,ys,hyl with
 | [v0,v1,v2,v3,v4,v5,v6,v7,v8,v9,v10,v11,v12,v13,v14,v15],_,[y0,y1,y2,y3],_=>
  have g0:DataW.trod enc Tryz.prog W 0 (fun _=>true) true m 42 (List.take (Tryz.prog.cellsOf 42) [v0,v1,v2,v3,v4,v5,v6,v7,v8,v9,v10,v11,v12,v13,v14,v15])=some y0:=hf 0 _ rfl
  rw [show Tryz.prog.cellsOf 42=1 by kernel_rfl,List.take_succ_cons,List.take_zero] at g0
  have g1:DataW.trod enc Tryz.prog W 0 (fun _=>true) true m 4 (List.take (Tryz.prog.cellsOf 4) [v1,v2,v3,v4,v5,v6,v7,v8,v9,v10,v11,v12,v13,v14,v15])=some y1:=hf 1 _ rfl
  rw [show Tryz.prog.cellsOf 4=1 by kernel_rfl,List.take_succ_cons,List.take_zero] at g1
  have g2:DataW.trod enc Tryz.prog W 0 (fun _=>true) true m 4 (List.take (Tryz.prog.cellsOf 4) [v2,v3,v4,v5,v6,v7,v8,v9,v10,v11,v12,v13,v14,v15])=some y2:=hf 2 _ rfl
  rw [show Tryz.prog.cellsOf 4=1 by kernel_rfl,List.take_succ_cons,List.take_zero] at g2
  have g3:DataW.trod enc Tryz.prog W 0 (fun _=>true) true m 39 (List.take (Tryz.prog.cellsOf 39) [v3,v4,v5,v6,v7,v8,v9,v10,v11,v12,v13,v14,v15])=some y3:=hf 3 _ rfl
  rw [show Tryz.prog.cellsOf 39=13 by kernel_rfl] at g3
  simp only [List.take_succ_cons,List.take_zero] at g3
  obtain ⟨yz,ym,_,_,_,yl,yf⟩:=DataW.trod_struct Tryz.underlying39 g3
  match yz,yl with
  | [yy0,yy1,yy2,yy3,yy4,yy5,yy6,yy7,yy8,yy9,yy10,yy11,yy12],_=>
   have g3:DataW.trod enc Tryz.prog W 0 (fun _=>true) true ym 2 (List.take (Tryz.prog.cellsOf 2) [v3,v4,v5,v6,v7,v8,v9,v10,v11,v12,v13,v14,v15])=some yy0:=yf 0 _ rfl
   rw [show Tryz.prog.cellsOf 2=1 by kernel_rfl,List.take_succ_cons,List.take_zero] at g3
   have g4:DataW.trod enc Tryz.prog W 0 (fun _=>true) true ym 5 (List.take (Tryz.prog.cellsOf 5) [v4,v5,v6,v7,v8,v9,v10,v11,v12,v13,v14,v15])=some yy1:=yf 1 _ rfl
   rw [show Tryz.prog.cellsOf 5=1 by kernel_rfl,List.take_succ_cons,List.take_zero] at g4
   have g5:DataW.trod enc Tryz.prog W 0 (fun _=>true) true ym 3 (List.take (Tryz.prog.cellsOf 3) [v5,v6,v7,v8,v9,v10,v11,v12,v13,v14,v15])=some yy2:=yf 2 _ rfl
   rw [show Tryz.prog.cellsOf 3=1 by kernel_rfl,List.take_succ_cons,List.take_zero] at g5
   have g6:DataW.trod enc Tryz.prog W 0 (fun _=>true) true ym 3 (List.take (Tryz.prog.cellsOf 3) [v6,v7,v8,v9,v10,v11,v12,v13,v14,v15])=some yy3:=yf 3 _ rfl
   rw [show Tryz.prog.cellsOf 3=1 by kernel_rfl,List.take_succ_cons,List.take_zero] at g6
   have g7:DataW.trod enc Tryz.prog W 0 (fun _=>true) true ym 3 (List.take (Tryz.prog.cellsOf 3) [v7,v8,v9,v10,v11,v12,v13,v14,v15])=some yy4:=yf 4 _ rfl
   rw [show Tryz.prog.cellsOf 3=1 by kernel_rfl,List.take_succ_cons,List.take_zero] at g7
   have g8:DataW.trod enc Tryz.prog W 0 (fun _=>true) true ym 3 (List.take (Tryz.prog.cellsOf 3) [v8,v9,v10,v11,v12,v13,v14,v15])=some yy5:=yf 5 _ rfl
   rw [show Tryz.prog.cellsOf 3=1 by kernel_rfl,List.take_succ_cons,List.take_zero] at g8
   have g9:DataW.trod enc Tryz.prog W 0 (fun _=>true) true ym 3 (List.take (Tryz.prog.cellsOf 3) [v9,v10,v11,v12,v13,v14,v15])=some yy6:=yf 6 _ rfl
   rw [show Tryz.prog.cellsOf 3=1 by kernel_rfl,List.take_succ_cons,List.take_zero] at g9
   have g10:DataW.trod enc Tryz.prog W 0 (fun _=>true) true ym 3 (List.take (Tryz.prog.cellsOf 3) [v10,v11,v12,v13,v14,v15])=some yy7:=yf 7 _ rfl
   rw [show Tryz.prog.cellsOf 3=1 by kernel_rfl,List.take_succ_cons,List.take_zero] at g10
   have g11:DataW.trod enc Tryz.prog W 0 (fun _=>true) true ym 2 (List.take (Tryz.prog.cellsOf 2) [v11,v12,v13,v14,v15])=some yy8:=yf 8 _ rfl
   rw [show Tryz.prog.cellsOf 2=1 by kernel_rfl,List.take_succ_cons,List.take_zero] at g11
   have g12:DataW.trod enc Tryz.prog W 0 (fun _=>true) true ym 2 (List.take (Tryz.prog.cellsOf 2) [v12,v13,v14,v15])=some yy9:=yf 9 _ rfl
   rw [show Tryz.prog.cellsOf 2=1 by kernel_rfl,List.take_succ_cons,List.take_zero] at g12
   have g13:DataW.trod enc Tryz.prog W 0 (fun _=>true) true ym 4 (List.take (Tryz.prog.cellsOf 4) [v13,v14,v15])=some yy10:=yf 10 _ rfl
   rw [show Tryz.prog.cellsOf 4=1 by kernel_rfl,List.take_succ_cons,List.take_zero] at g13
   have g14:DataW.trod enc Tryz.prog W 0 (fun _=>true) true ym 31 (List.take (Tryz.prog.cellsOf 31) [v14,v15])=some yy11:=yf 11 _ rfl
   rw [show Tryz.prog.cellsOf 31=1 by kernel_rfl,List.take_succ_cons,List.take_zero] at g14
   have g15:DataW.trod enc Tryz.prog W 0 (fun _=>true) true ym 37 (List.take (Tryz.prog.cellsOf 37) [v15])=some yy12:=yf 12 _ rfl
   rw [show Tryz.prog.cellsOf 37=1 by kernel_rfl,List.take_succ_cons,List.take_zero] at g15
   obtain ⟨c0,e0,_,u0⟩:=DataW.trod_int Tryz.underlying42 g0
   obtain ⟨c1,e1,_⟩:=DataW.trod_bool Tryz.underlying4 g1
   obtain ⟨c2,e2,_⟩:=DataW.trod_bool Tryz.underlying4 g2
   obtain ⟨c3,e3,_,u3⟩:=DataW.trod_int Tryz.underlying2 g3
   obtain ⟨c4,e4,_,u4⟩:=DataW.trod_int Tryz.underlying5 g4
   obtain ⟨c5,e5,_,u5⟩:=DataW.trod_int Tryz.underlying3 g5
   obtain ⟨c6,e6,_,u6⟩:=DataW.trod_int Tryz.underlying3 g6
   obtain ⟨c7,e7,_,u7⟩:=DataW.trod_int Tryz.underlying3 g7
   obtain ⟨c8,e8,_,u8⟩:=DataW.trod_int Tryz.underlying3 g8
   obtain ⟨c9,e9,_,u9⟩:=DataW.trod_int Tryz.underlying3 g9
   obtain ⟨c10,e10,_,u10⟩:=DataW.trod_int Tryz.underlying3 g10
   obtain ⟨c11,e11,_,u11⟩:=DataW.trod_int Tryz.underlying2 g11
   obtain ⟨c12,e12,_,u12⟩:=DataW.trod_int Tryz.underlying2 g12
   obtain ⟨c13,e13,_⟩:=DataW.trod_bool Tryz.underlying4 g13
   obtain ⟨c14,e14,_,u14⟩:=DataW.trod_int Tryz.underlying31 g14
   obtain ⟨c15,e15,_,u15⟩:=DataW.trod_int Tryz.underlying37 g15
   simp only [List.cons.injEq,and_true] at e0 e1 e2 e3 e4 e5 e6 e7 e8 e9 e10 e11 e12 e13 e14 e15
   subst e0 e1 e2 e3 e4 e5 e6 e7 e8 e9 e10 e11 e12 e13 e14 e15
   exact ⟨(c0,c1,c2,c3,c4,c5,c6,c7,c8,c9,c10,c11,c12,c13,c14,c15),by simpa [Addr.add] using hat 0 (by omega),hat 1 (by omega),hat 2 (by omega),hat 3 (by omega),hat 4 (by omega),hat 5 (by omega),hat 6 (by omega),hat 7 (by omega),hat 8 (by omega),hat 9 (by omega),hat 10 (by omega),hat 11 (by omega),hat 12 (by omega),hat 13 (by omega),hat 14 (by omega),hat 15 (by omega),u0,trivial,trivial,u3,u4,u5,u6,u7,u8,u9,u10,u11,u12,trivial,u14,u15⟩
theorem in2_of {H:Type} {enc:TypeId × Value->H} {W:World} {a:Option Addr} {len cap:Nat} {d:DataW H} {p:List MemPlace} (h:DataW.Trod enc Tryz.prog W 0 (fun _=>true) true 27 (.slice a len cap) d p):In2 W a len:=by
 obtain ⟨fuel,hf⟩:=h
 rcases open_slice Tryz.underlying27 hf with ⟨hcs,_⟩ | ⟨x,l,c,m,n,D,Pl,hcs,_,hl,hm,hmm,_,hx⟩
 ·simp [Value.cells] at hcs
  exact .inl hcs.2.1
 ·simp [Value.cells] at hcs
  obtain ⟨rfl,rfl,rfl⟩:=hcs
  by_cases h0:len=0
  ·exact .inl h0
  have hlm:len<=m:=by rw [hmm];split <;> omega
  rw [cellsOf2] at hx
  have key:∀ j,j<len->∃ q:Int × Bool × Bool × Int × Int × Int × Int × Int × Int × Int × Int × Int × Int × Bool × Int × Int,W.cell? (x.add (j * 16))=some (.int .u16 q.1)/\W.cell? ((x.add (j * 16)).add 1)=some (.bool q.2.1)/\W.cell? ((x.add (j * 16)).add 2)=some (.bool q.2.2.1)/\W.cell? ((x.add (j * 16)).add 3)=some (.int .i64 q.2.2.2.1)/\W.cell? ((x.add (j * 16)).add 4)=some (.int .u8 q.2.2.2.2.1)/\W.cell? ((x.add (j * 16)).add 5)=some (.int .i64 q.2.2.2.2.2.1)/\W.cell? ((x.add (j * 16)).add 6)=some (.int .i64 q.2.2.2.2.2.2.1)/\W.cell? ((x.add (j * 16)).add 7)=some (.int .i64 q.2.2.2.2.2.2.2.1)/\W.cell? ((x.add (j * 16)).add 8)=some (.int .i64 q.2.2.2.2.2.2.2.2.1)/\W.cell? ((x.add (j * 16)).add 9)=some (.int .i64 q.2.2.2.2.2.2.2.2.2.1)/\W.cell? ((x.add (j * 16)).add 10)=some (.int .i64 q.2.2.2.2.2.2.2.2.2.2.1)/\W.cell? ((x.add (j * 16)).add 11)=some (.int .i64 q.2.2.2.2.2.2.2.2.2.2.2.1)/\W.cell? ((x.add (j * 16)).add 12)=some (.int .i64 q.2.2.2.2.2.2.2.2.2.2.2.2.1)/\W.cell? ((x.add (j * 16)).add 13)=some (.bool q.2.2.2.2.2.2.2.2.2.2.2.2.2.1)/\W.cell? ((x.add (j * 16)).add 14)=some (.int .i64 q.2.2.2.2.2.2.2.2.2.2.2.2.2.2.1)/\W.cell? ((x.add (j * 16)).add 15)=some (.int .u64 q.2.2.2.2.2.2.2.2.2.2.2.2.2.2.2)/\(Lit.int .u16 q.1).wf=true/\True/\True/\(Lit.int .i64 q.2.2.2.1).wf=true/\(Lit.int .u8 q.2.2.2.2.1).wf=true/\(Lit.int .i64 q.2.2.2.2.2.1).wf=true/\(Lit.int .i64 q.2.2.2.2.2.2.1).wf=true/\(Lit.int .i64 q.2.2.2.2.2.2.2.1).wf=true/\(Lit.int .i64 q.2.2.2.2.2.2.2.2.1).wf=true/\(Lit.int .i64 q.2.2.2.2.2.2.2.2.2.1).wf=true/\(Lit.int .i64 q.2.2.2.2.2.2.2.2.2.2.1).wf=true/\(Lit.int .i64 q.2.2.2.2.2.2.2.2.2.2.2.1).wf=true/\(Lit.int .i64 q.2.2.2.2.2.2.2.2.2.2.2.2.1).wf=true/\True/\(Lit.int .i64 q.2.2.2.2.2.2.2.2.2.2.2.2.2.2.1).wf=true/\(Lit.int .u64 q.2.2.2.2.2.2.2.2.2.2.2.2.2.2.2).wf=true:=fun j hj=>by
   obtain ⟨cs,h1,h2⟩:=hx j (by omega)
   exact elem2 h1 h2
  obtain ⟨f,hf⟩:=choose_lt key
  obtain ⟨b,off,spot⟩:=x
  have hc0:=(hf 0 (by omega)).1
  have hspot:spot=none:=by simpa [Addr.add] using World.cell?_spot hc0
  subst hspot
  have ad:∀ o j,(Addr.mk b o none).add j=⟨b,o+j,none⟩:=fun o j=>by
   by_cases hj:j=0
   ·subst hj;simp [Addr.add]
   ·simp [Addr.add,hj]
  refine .inr ⟨b,off,f,rfl,World.block_lt_of_cell? W _ hc0,fun j hj=>?_⟩
  have r:=hf j hj
  simpa only [ad] using r
theorem walk {vA0:Value} {vB0:Value} {vC0:Value} {p0:Prg} (a1:Int) (a2:Option Addr) (len2 cap2:Nat) (w:World) (w0:PrgAt 0 w.heap.size w vA0 vB0 vC0 p0) (w1:(Lit.int .u8 a1).wf=true) (w2:In2 w a2 len2) :
  Calls Tryz.prog 3 #[.agg #[vA0,vB0,vC0],.int .u8 a1,.slice a2 len2 cap2] w fun e w'=>e=.returned (.bool true)/\Below w.heap.size w w':=by
 obtain ⟨l,hl,_⟩:=stRow_of_in (cap:=cap2) w2
 have r:=u8_range w1
 obtain ⟨m,rfl⟩:∃ m:Nat,a1=(m:Int):=⟨a1.toNat,by omega⟩
 exact mvlaw_any m l w w0 (by omega) hl
theorem lifted (os:Os) (started:os.Started) (H:Type) (enc:TypeId × Value->H) :
  ReturnsInHanded {} Tryz.checked os 3 .any (Rows.modelValuesSpec.pre6 enc Tryz.prog Tryz.f3 Rows.modelValuesRow.domain false) (Rows.modelValuesSpec.post enc Tryz.prog Tryz.f3 false true false false):=by
 refine returnsInHanded_of_change (C:=Tryz.checked) own started (by kernel_rfl) Tryz.func3
  (ChangeSpec.witness6 (enc:=enc) (C:=Tryz.checked) false ⟨#[],#[.agg #[.slice none 0 0,.slice none 0 0,.slice none 0 0],.int .u8 0,.slice none 0 0],[]⟩ 8 (by kernel_rfl) (by kernel_rfl) (by kernel_rfl) (by kernel_rfl)) ?_
 intro W base args ds gs before hval0 hW hcnd _
 have hval:∀ (j:Nat) t v,Tryz.f3.params[j]?=some t->args[j]?=some v->Value.okWide Tryz.prog W .any base t v:=hval0
 have hW':=hW
 obtain ⟨p,q,hA0,hV,rfl,hfz,hnd⟩:=hW
 have hA:DataW.TrodAll enc Tryz.prog W 0 (fun _=>true) true Tryz.f3.params.toList args.toList ds p:=hA0
 rw [Tryz.params3] at hA hval
 obtain ⟨v0,vs0,d0,ds0,p0,q0,hargs,rfl,rfl,h0,r0⟩:=trodAll_cons hA
 obtain ⟨v1,vs1,d1,ds1,p1,q1,rfl,rfl,rfl,h1,r1⟩:=trodAll_cons r0
 obtain ⟨v2,vs2,d2,ds2,p2,q2,rfl,rfl,rfl,h2,r2⟩:=trodAll_cons r1
 obtain ⟨rfl,rfl,rfl⟩:=trodAll_nil r2
 obtain rfl:args=#[v0,v1,v2]:=by cases args;simp_all
 obtain ⟨rfl,rfl⟩:=trodVars_none hV
 have k0:=h0
 have lt0:∀ x ∈ p0,x.block<W.heap.size:=by obtain ⟨m,hm⟩:=k0;exact DataW.trod_lt m _ _ _ hm
 obtain ⟨vA0,vB0,vC0,p0,rfl,w0⟩:=open_prog (hval 0 26 v0 rfl rfl) h0
 obtain ⟨a1,rfl,rfl,rfl,w1⟩:=open_int Tryz.underlying5 (hval 1 5 v1 rfl rfl) h1
 obtain ⟨a2,len2,cap2,rfl⟩:=okWide_slice Tryz.underlying27 (hval 2 27 v2 rfl rfl)
 have k2:=h2
 have lt2:∀ x ∈ p2,x.block<W.heap.size:=by obtain ⟨m,hm⟩:=k2;exact DataW.trod_lt m _ _ _ hm
 have w2:=in2_of k2
 clear hA0 hval0
 refine (walk  a1 a2 len2 cap2 W w0 w1 w2).mono fun e W' ⟨he,bel⟩=>?_
 subst he
 exact ⟨_,rfl,_,_,_,[],_,[],hW',trodAll_mk1 (shut_bool Tryz.underlying4 _),(trodAll_cons_mk (Below.trod laidOut (by kernel_rfl) (of_decide_eq_true (by kernel_rfl)) k0 bel lt0) (trodAll_cons_mk (shut_int Tryz.underlying5 w1) (trodAll_cons_mk (Below.trod laidOut (by kernel_rfl) (of_decide_eq_true (by kernel_rfl)) k2 bel lt2) trodAll_mk0))),rfl,bel.frame _,fun h=>by cases h⟩
theorem over:Rows.modelValuesRow.holds Tryz.pinned (OpenSpec.ofChange Rows.modelValuesSpec):=
 OpenClaim.holds_of_wide 3 Tryz.f3 rfl rfl rfl rfl rfl rfl rfl ⟨rfl,rfl,rfl,rfl,rfl⟩ rfl rfl rfl rfl rfl (by kernel_rfl) Tryz.func3 (by kernel_rfl)
  (of_decide_eq_true (by kernel_rfl)) (by unfold Func.isWrapper;first | (rw [if_pos (by decide +kernel)];kernel_rfl) | (rw [if_neg (by decide +kernel)];exact ⟨rfl,rfl⟩))
  (fun os started H enc _=>lifted os started H enc)
theorem proved:Rows.ModelValuesSaid:=over
#print axioms proved
end Go.Proofs.YtnfbncgfpmcpnaaGreat.modelValues
