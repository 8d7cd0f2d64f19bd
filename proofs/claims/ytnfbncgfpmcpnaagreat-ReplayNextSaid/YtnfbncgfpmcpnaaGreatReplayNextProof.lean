/-
  For every program, every room, every row of entries and every entry: ReplayNext returns true, and its arguments read afterwards as before: behind a log that is right each move of the model is right, and no other commit. No condition.
-/
import Derived.ShutString
import Derived.ChangeOld
import Derived.Test.YtnfbncgfpmcpnaaGreatQ44
import Derived.Test.YtnfbncgfpmcpnaaGreatQ45
set_option maxRecDepth 100000
set_option maxHeartbeats 12800000
namespace Go.Proofs.YtnfbncgfpmcpnaaGreat.replayNext
open Go.ChangeShapes Go.WideShapes Go.ChangeAt Go.RowKit Go.Deep
open Mdl Ent
theorem own:ownKnob Tryz.prog.godebug=none:=by kernel_rfl
theorem laidOut:laidOutB Tryz.prog=true:=by kernel_rfl
def In2 (w:World) (a:Option Addr) (len:Nat):Prop:=
 len=0 \/ ∃ (b off:Nat) (f:Nat->Int × Int × Int × Int × Int × Int × Int × Int × Int × Int × Bool × Int × Int),a=some ⟨b,off,none⟩/\b<w.heap.size/\∀ j,j<len->w.cell? ⟨b,off+j * 13,none⟩=some (.int .i64 (f j).1)/\w.cell? ⟨b,off+j * 13+1,none⟩=some (.int .u8 (f j).2.1)/\w.cell? ⟨b,off+j * 13+2,none⟩=some (.int .i64 (f j).2.2.1)/\w.cell? ⟨b,off+j * 13+3,none⟩=some (.int .i64 (f j).2.2.2.1)/\w.cell? ⟨b,off+j * 13+4,none⟩=some (.int .i64 (f j).2.2.2.2.1)/\w.cell? ⟨b,off+j * 13+5,none⟩=some (.int .i64 (f j).2.2.2.2.2.1)/\w.cell? ⟨b,off+j * 13+6,none⟩=some (.int .i64 (f j).2.2.2.2.2.2.1)/\w.cell? ⟨b,off+j * 13+7,none⟩=some (.int .i64 (f j).2.2.2.2.2.2.2.1)/\w.cell? ⟨b,off+j * 13+8,none⟩=some (.int .i64 (f j).2.2.2.2.2.2.2.2.1)/\w.cell? ⟨b,off+j * 13+9,none⟩=some (.int .i64 (f j).2.2.2.2.2.2.2.2.2.1)/\w.cell? ⟨b,off+j * 13+10,none⟩=some (.bool (f j).2.2.2.2.2.2.2.2.2.2.1)/\w.cell? ⟨b,off+j * 13+11,none⟩=some (.int .i64 (f j).2.2.2.2.2.2.2.2.2.2.2.1)/\w.cell? ⟨b,off+j * 13+12,none⟩=some (.int .u64 (f j).2.2.2.2.2.2.2.2.2.2.2.2)/\(Lit.int .i64 (f j).1).wf=true/\(Lit.int .u8 (f j).2.1).wf=true/\(Lit.int .i64 (f j).2.2.1).wf=true/\(Lit.int .i64 (f j).2.2.2.1).wf=true/\(Lit.int .i64 (f j).2.2.2.2.1).wf=true/\(Lit.int .i64 (f j).2.2.2.2.2.1).wf=true/\(Lit.int .i64 (f j).2.2.2.2.2.2.1).wf=true/\(Lit.int .i64 (f j).2.2.2.2.2.2.2.1).wf=true/\(Lit.int .i64 (f j).2.2.2.2.2.2.2.2.1).wf=true/\(Lit.int .i64 (f j).2.2.2.2.2.2.2.2.2.1).wf=true/\True/\(Lit.int .i64 (f j).2.2.2.2.2.2.2.2.2.2.2.1).wf=true/\(Lit.int .u64 (f j).2.2.2.2.2.2.2.2.2.2.2.2).wf=true
theorem cellsOf2:Tryz.prog.cellsOf 39=13:=by kernel_rfl
theorem elem2 {H:Type} {enc:TypeId × Value->H} {W:World} {n:Nat} {y:Addr} {cs:List Value} {x:DataW H × List MemPlace} (h1:W.cells? 0 y 13=some cs) (h2:DataW.trod enc Tryz.prog W 0 (fun _=>true) true n 39 cs=some x) :
  ∃ q:Int × Int × Int × Int × Int × Int × Int × Int × Int × Int × Bool × Int × Int,W.cell? (y)=some (.int .i64 q.1)/\W.cell? (y.add 1)=some (.int .u8 q.2.1)/\W.cell? (y.add 2)=some (.int .i64 q.2.2.1)/\W.cell? (y.add 3)=some (.int .i64 q.2.2.2.1)/\W.cell? (y.add 4)=some (.int .i64 q.2.2.2.2.1)/\W.cell? (y.add 5)=some (.int .i64 q.2.2.2.2.2.1)/\W.cell? (y.add 6)=some (.int .i64 q.2.2.2.2.2.2.1)/\W.cell? (y.add 7)=some (.int .i64 q.2.2.2.2.2.2.2.1)/\W.cell? (y.add 8)=some (.int .i64 q.2.2.2.2.2.2.2.2.1)/\W.cell? (y.add 9)=some (.int .i64 q.2.2.2.2.2.2.2.2.2.1)/\W.cell? (y.add 10)=some (.bool q.2.2.2.2.2.2.2.2.2.2.1)/\W.cell? (y.add 11)=some (.int .i64 q.2.2.2.2.2.2.2.2.2.2.2.1)/\W.cell? (y.add 12)=some (.int .u64 q.2.2.2.2.2.2.2.2.2.2.2.2)/\(Lit.int .i64 q.1).wf=true/\(Lit.int .u8 q.2.1).wf=true/\(Lit.int .i64 q.2.2.1).wf=true/\(Lit.int .i64 q.2.2.2.1).wf=true/\(Lit.int .i64 q.2.2.2.2.1).wf=true/\(Lit.int .i64 q.2.2.2.2.2.1).wf=true/\(Lit.int .i64 q.2.2.2.2.2.2.1).wf=true/\(Lit.int .i64 q.2.2.2.2.2.2.2.1).wf=true/\(Lit.int .i64 q.2.2.2.2.2.2.2.2.1).wf=true/\(Lit.int .i64 q.2.2.2.2.2.2.2.2.2.1).wf=true/\True/\(Lit.int .i64 q.2.2.2.2.2.2.2.2.2.2.2.1).wf=true/\(Lit.int .u64 q.2.2.2.2.2.2.2.2.2.2.2.2).wf=true:=by
 obtain ⟨_,hlen,hat⟩:=World.cells?_some h1
 obtain ⟨ys,m,_,_,_,hyl,hf⟩:=DataW.trod_struct Tryz.underlying39 h2
 match cs,hlen,ys,hyl with
 | [v0,v1,v2,v3,v4,v5,v6,v7,v8,v9,v10,v11,v12],_,[y0,y1,y2,y3,y4,y5,y6,y7,y8,y9,y10,y11,y12],_=>
  have g0:DataW.trod enc Tryz.prog W 0 (fun _=>true) true m 2 (List.take (Tryz.prog.cellsOf 2) [v0,v1,v2,v3,v4,v5,v6,v7,v8,v9,v10,v11,v12])=some y0:=hf 0 _ rfl
  rw [show Tryz.prog.cellsOf 2=1 by kernel_rfl,List.take_succ_cons,List.take_zero] at g0
  have g1:DataW.trod enc Tryz.prog W 0 (fun _=>true) true m 5 (List.take (Tryz.prog.cellsOf 5) [v1,v2,v3,v4,v5,v6,v7,v8,v9,v10,v11,v12])=some y1:=hf 1 _ rfl
  rw [show Tryz.prog.cellsOf 5=1 by kernel_rfl,List.take_succ_cons,List.take_zero] at g1
  have g2:DataW.trod enc Tryz.prog W 0 (fun _=>true) true m 3 (List.take (Tryz.prog.cellsOf 3) [v2,v3,v4,v5,v6,v7,v8,v9,v10,v11,v12])=some y2:=hf 2 _ rfl
  rw [show Tryz.prog.cellsOf 3=1 by kernel_rfl,List.take_succ_cons,List.take_zero] at g2
  have g3:DataW.trod enc Tryz.prog W 0 (fun _=>true) true m 3 (List.take (Tryz.prog.cellsOf 3) [v3,v4,v5,v6,v7,v8,v9,v10,v11,v12])=some y3:=hf 3 _ rfl
  rw [show Tryz.prog.cellsOf 3=1 by kernel_rfl,List.take_succ_cons,List.take_zero] at g3
  have g4:DataW.trod enc Tryz.prog W 0 (fun _=>true) true m 3 (List.take (Tryz.prog.cellsOf 3) [v4,v5,v6,v7,v8,v9,v10,v11,v12])=some y4:=hf 4 _ rfl
  rw [show Tryz.prog.cellsOf 3=1 by kernel_rfl,List.take_succ_cons,List.take_zero] at g4
  have g5:DataW.trod enc Tryz.prog W 0 (fun _=>true) true m 3 (List.take (Tryz.prog.cellsOf 3) [v5,v6,v7,v8,v9,v10,v11,v12])=some y5:=hf 5 _ rfl
  rw [show Tryz.prog.cellsOf 3=1 by kernel_rfl,List.take_succ_cons,List.take_zero] at g5
  have g6:DataW.trod enc Tryz.prog W 0 (fun _=>true) true m 3 (List.take (Tryz.prog.cellsOf 3) [v6,v7,v8,v9,v10,v11,v12])=some y6:=hf 6 _ rfl
  rw [show Tryz.prog.cellsOf 3=1 by kernel_rfl,List.take_succ_cons,List.take_zero] at g6
  have g7:DataW.trod enc Tryz.prog W 0 (fun _=>true) true m 3 (List.take (Tryz.prog.cellsOf 3) [v7,v8,v9,v10,v11,v12])=some y7:=hf 7 _ rfl
  rw [show Tryz.prog.cellsOf 3=1 by kernel_rfl,List.take_succ_cons,List.take_zero] at g7
  have g8:DataW.trod enc Tryz.prog W 0 (fun _=>true) true m 2 (List.take (Tryz.prog.cellsOf 2) [v8,v9,v10,v11,v12])=some y8:=hf 8 _ rfl
  rw [show Tryz.prog.cellsOf 2=1 by kernel_rfl,List.take_succ_cons,List.take_zero] at g8
  have g9:DataW.trod enc Tryz.prog W 0 (fun _=>true) true m 2 (List.take (Tryz.prog.cellsOf 2) [v9,v10,v11,v12])=some y9:=hf 9 _ rfl
  rw [show Tryz.prog.cellsOf 2=1 by kernel_rfl,List.take_succ_cons,List.take_zero] at g9
  have g10:DataW.trod enc Tryz.prog W 0 (fun _=>true) true m 4 (List.take (Tryz.prog.cellsOf 4) [v10,v11,v12])=some y10:=hf 10 _ rfl
  rw [show Tryz.prog.cellsOf 4=1 by kernel_rfl,List.take_succ_cons,List.take_zero] at g10
  have g11:DataW.trod enc Tryz.prog W 0 (fun _=>true) true m 31 (List.take (Tryz.prog.cellsOf 31) [v11,v12])=some y11:=hf 11 _ rfl
  rw [show Tryz.prog.cellsOf 31=1 by kernel_rfl,List.take_succ_cons,List.take_zero] at g11
  have g12:DataW.trod enc Tryz.prog W 0 (fun _=>true) true m 37 (List.take (Tryz.prog.cellsOf 37) [v12])=some y12:=hf 12 _ rfl
  rw [show Tryz.prog.cellsOf 37=1 by kernel_rfl,List.take_succ_cons,List.take_zero] at g12
  obtain ⟨c0,e0,_,u0⟩:=DataW.trod_int Tryz.underlying2 g0
  obtain ⟨c1,e1,_,u1⟩:=DataW.trod_int Tryz.underlying5 g1
  obtain ⟨c2,e2,_,u2⟩:=DataW.trod_int Tryz.underlying3 g2
  obtain ⟨c3,e3,_,u3⟩:=DataW.trod_int Tryz.underlying3 g3
  obtain ⟨c4,e4,_,u4⟩:=DataW.trod_int Tryz.underlying3 g4
  obtain ⟨c5,e5,_,u5⟩:=DataW.trod_int Tryz.underlying3 g5
  obtain ⟨c6,e6,_,u6⟩:=DataW.trod_int Tryz.underlying3 g6
  obtain ⟨c7,e7,_,u7⟩:=DataW.trod_int Tryz.underlying3 g7
  obtain ⟨c8,e8,_,u8⟩:=DataW.trod_int Tryz.underlying2 g8
  obtain ⟨c9,e9,_,u9⟩:=DataW.trod_int Tryz.underlying2 g9
  obtain ⟨c10,e10,_⟩:=DataW.trod_bool Tryz.underlying4 g10
  obtain ⟨c11,e11,_,u11⟩:=DataW.trod_int Tryz.underlying31 g11
  obtain ⟨c12,e12,_,u12⟩:=DataW.trod_int Tryz.underlying37 g12
  simp only [List.cons.injEq,and_true] at e0 e1 e2 e3 e4 e5 e6 e7 e8 e9 e10 e11 e12
  subst e0 e1 e2 e3 e4 e5 e6 e7 e8 e9 e10 e11 e12
  exact ⟨(c0,c1,c2,c3,c4,c5,c6,c7,c8,c9,c10,c11,c12),by simpa [Addr.add] using hat 0 (by omega),hat 1 (by omega),hat 2 (by omega),hat 3 (by omega),hat 4 (by omega),hat 5 (by omega),hat 6 (by omega),hat 7 (by omega),hat 8 (by omega),hat 9 (by omega),hat 10 (by omega),hat 11 (by omega),hat 12 (by omega),u0,u1,u2,u3,u4,u5,u6,u7,u8,u9,trivial,u11,u12⟩
theorem in2_of {H:Type} {enc:TypeId × Value->H} {W:World} {a:Option Addr} {len cap:Nat} {d:DataW H} {p:List MemPlace} (h:DataW.Trod enc Tryz.prog W 0 (fun _=>true) true 51 (.slice a len cap) d p):In2 W a len:=by
 obtain ⟨fuel,hf⟩:=h
 rcases open_slice Tryz.underlying51 hf with ⟨hcs,_⟩ | ⟨x,l,c,m,n,D,Pl,hcs,_,hl,hm,hmm,_,hx⟩
 ·simp [Value.cells] at hcs
  exact .inl hcs.2.1
 ·simp [Value.cells] at hcs
  obtain ⟨rfl,rfl,rfl⟩:=hcs
  by_cases h0:len=0
  ·exact .inl h0
  have hlm:len<=m:=by rw [hmm];split <;> omega
  rw [cellsOf2] at hx
  have key:∀ j,j<len->∃ q:Int × Int × Int × Int × Int × Int × Int × Int × Int × Int × Bool × Int × Int,W.cell? (x.add (j * 13))=some (.int .i64 q.1)/\W.cell? ((x.add (j * 13)).add 1)=some (.int .u8 q.2.1)/\W.cell? ((x.add (j * 13)).add 2)=some (.int .i64 q.2.2.1)/\W.cell? ((x.add (j * 13)).add 3)=some (.int .i64 q.2.2.2.1)/\W.cell? ((x.add (j * 13)).add 4)=some (.int .i64 q.2.2.2.2.1)/\W.cell? ((x.add (j * 13)).add 5)=some (.int .i64 q.2.2.2.2.2.1)/\W.cell? ((x.add (j * 13)).add 6)=some (.int .i64 q.2.2.2.2.2.2.1)/\W.cell? ((x.add (j * 13)).add 7)=some (.int .i64 q.2.2.2.2.2.2.2.1)/\W.cell? ((x.add (j * 13)).add 8)=some (.int .i64 q.2.2.2.2.2.2.2.2.1)/\W.cell? ((x.add (j * 13)).add 9)=some (.int .i64 q.2.2.2.2.2.2.2.2.2.1)/\W.cell? ((x.add (j * 13)).add 10)=some (.bool q.2.2.2.2.2.2.2.2.2.2.1)/\W.cell? ((x.add (j * 13)).add 11)=some (.int .i64 q.2.2.2.2.2.2.2.2.2.2.2.1)/\W.cell? ((x.add (j * 13)).add 12)=some (.int .u64 q.2.2.2.2.2.2.2.2.2.2.2.2)/\(Lit.int .i64 q.1).wf=true/\(Lit.int .u8 q.2.1).wf=true/\(Lit.int .i64 q.2.2.1).wf=true/\(Lit.int .i64 q.2.2.2.1).wf=true/\(Lit.int .i64 q.2.2.2.2.1).wf=true/\(Lit.int .i64 q.2.2.2.2.2.1).wf=true/\(Lit.int .i64 q.2.2.2.2.2.2.1).wf=true/\(Lit.int .i64 q.2.2.2.2.2.2.2.1).wf=true/\(Lit.int .i64 q.2.2.2.2.2.2.2.2.1).wf=true/\(Lit.int .i64 q.2.2.2.2.2.2.2.2.2.1).wf=true/\True/\(Lit.int .i64 q.2.2.2.2.2.2.2.2.2.2.2.1).wf=true/\(Lit.int .u64 q.2.2.2.2.2.2.2.2.2.2.2.2).wf=true:=fun j hj=>by
   obtain ⟨cs,h1,h2⟩:=hx j (by omega)
   exact elem2 h1 h2
  obtain ⟨f,hf⟩:=choose_lt key
  obtain ⟨b,off,spot⟩:=x
  have hc0:=(hf 0 (by omega)).1
  have hspot:spot=none:=by simpa [Addr.add] using World.cell?_spot hc0
  subst hspot
  have ad:∀ o j,(Addr.mk b o none).add j=⟨b,o+j,none⟩:=fun o j=>by
   by_cases hj:j=0
   ·subst hj;simp [Addr.add]
   ·simp [Addr.add,hj]
  refine .inr ⟨b,off,f,rfl,World.block_lt_of_cell? W _ hc0,fun j hj=>?_⟩
  have r:=hf j hj
  simpa only [ad] using r
theorem walk {vA0:Value} {vB0:Value} {vC0:Value} {p0:Prg} (a1:Int) (a2:Option Addr) (len2 cap2:Nat) (f3:En) (w:World) (w0:PrgAt 0 w.heap.size w vA0 vB0 vC0 p0) (_w1:(Lit.int .i64 a1).wf=true) (w2:In2 w a2 len2) (w3:f3.ok) :
  Calls Tryz.prog 4 #[.agg #[vA0,vB0,vC0],.int .i64 a1,.slice a2 len2 cap2,enV f3] w fun e w'=>e=.returned (.bool true)/\Below w.heap.size w w':=by
 obtain ⟨l,hl,_,hok⟩:=enRow_of_in (cap:=cap2) w2
 exact rnlaw_any a1 l f3 w w0 hl hok w3
theorem lifted (os:Os) (started:os.Started) (H:Type) (enc:TypeId × Value->H) :
  ReturnsInHanded {} Tryz.checked os 4 .any (Rows.replayNextSpec.pre6 enc Tryz.prog Tryz.f4 Rows.replayNextRow.domain false) (Rows.replayNextSpec.post enc Tryz.prog Tryz.f4 false true false false):=by
 refine returnsInHanded_of_change (C:=Tryz.checked) own started (by kernel_rfl) Tryz.func4
  (ChangeSpec.witness6 (enc:=enc) (C:=Tryz.checked) false ⟨#[],#[.agg #[.slice none 0 0,.slice none 0 0,.slice none 0 0],.int .i64 0,.slice none 0 0,.agg #[.int .i64 0,.int .u8 0,.int .i64 0,.int .i64 0,.int .i64 0,.int .i64 0,.int .i64 0,.int .i64 0,.int .i64 0,.int .i64 0,.bool false,.int .i64 0,.int .u64 0]],[]⟩ 8 (by kernel_rfl) (by kernel_rfl) (by kernel_rfl) (by kernel_rfl)) ?_
 intro W base args ds gs before hval0 hW hcnd _
 have hval:∀ (j:Nat) t v,Tryz.f4.params[j]?=some t->args[j]?=some v->Value.okWide Tryz.prog W .any base t v:=hval0
 have hW':=hW
 obtain ⟨p,q,hA0,hV,rfl,hfz,hnd⟩:=hW
 have hA:DataW.TrodAll enc Tryz.prog W 0 (fun _=>true) true Tryz.f4.params.toList args.toList ds p:=hA0
 rw [Tryz.params4] at hA hval
 obtain ⟨v0,vs0,d0,ds0,p0,q0,hargs,rfl,rfl,h0,r0⟩:=trodAll_cons hA
 obtain ⟨v1,vs1,d1,ds1,p1,q1,rfl,rfl,rfl,h1,r1⟩:=trodAll_cons r0
 obtain ⟨v2,vs2,d2,ds2,p2,q2,rfl,rfl,rfl,h2,r2⟩:=trodAll_cons r1
 obtain ⟨v3,vs3,d3,ds3,p3,q3,rfl,rfl,rfl,h3,r3⟩:=trodAll_cons r2
 obtain ⟨rfl,rfl,rfl⟩:=trodAll_nil r3
 obtain rfl:args=#[v0,v1,v2,v3]:=by cases args;simp_all
 obtain ⟨rfl,rfl⟩:=trodVars_none hV
 have k0:=h0
 have lt0:∀ x ∈ p0,x.block<W.heap.size:=by obtain ⟨m,hm⟩:=k0;exact DataW.trod_lt m _ _ _ hm
 obtain ⟨vA0,vB0,vC0,p0,rfl,w0⟩:=open_prog (hval 0 26 v0 rfl rfl) h0
 obtain ⟨a1,rfl,rfl,rfl,w1⟩:=open_int Tryz.underlying3 (hval 1 3 v1 rfl rfl) h1
 obtain ⟨a2,len2,cap2,rfl⟩:=okWide_slice Tryz.underlying51 (hval 2 51 v2 rfl rfl)
 have k2:=h2
 have lt2:∀ x ∈ p2,x.block<W.heap.size:=by obtain ⟨m,hm⟩:=k2;exact DataW.trod_lt m _ _ _ hm
 have w2:=in2_of k2
 have k3:=h3
 have lt3:∀ x ∈ p3,x.block<W.heap.size:=by obtain ⟨m,hm⟩:=k3;exact DataW.trod_lt m _ _ _ hm
 obtain ⟨f3,rfl,w3⟩:=open_en (hval 3 39 v3 rfl rfl) h3
 clear hA0 hval0
 refine (walk  a1 a2 len2 cap2 f3 W w0 w1 w2 w3).mono fun e W' ⟨he,bel⟩=>?_
 subst he
 exact ⟨_,rfl,_,_,_,[],_,[],hW',trodAll_mk1 (shut_bool Tryz.underlying4 _),(trodAll_cons_mk (Below.trod laidOut (by kernel_rfl) (of_decide_eq_true (by kernel_rfl)) k0 bel lt0) (trodAll_cons_mk (shut_int Tryz.underlying3 w1) (trodAll_cons_mk (Below.trod laidOut (by kernel_rfl) (of_decide_eq_true (by kernel_rfl)) k2 bel lt2) (trodAll_cons_mk (Below.trod laidOut (by kernel_rfl) (of_decide_eq_true (by kernel_rfl)) k3 bel lt3) trodAll_mk0)))),rfl,bel.frame _,fun h=>by cases h⟩
theorem over:Rows.replayNextRow.holds Tryz.pinned (OpenSpec.ofChange Rows.replayNextSpec):=
 OpenClaim.holds_of_wide 4 Tryz.f4 rfl rfl rfl rfl rfl rfl rfl ⟨rfl,rfl,rfl,rfl,rfl⟩ rfl rfl rfl rfl rfl (by kernel_rfl) Tryz.func4 (by kernel_rfl)
  (of_decide_eq_true (by kernel_rfl)) (by unfold Func.isWrapper;first | (rw [if_pos (by decide +kernel)];kernel_rfl) | (rw [if_neg (by decide +kernel)];exact ⟨rfl,rfl⟩))
  (fun os started H enc _=>lifted os started H enc)
theorem proved:Rows.ReplayNextSaid:=over
#print axioms proved
end Go.Proofs.YtnfbncgfpmcpnaaGreat.replayNext
