/-
  ModelValues: its walks, part W7.
-/
import Derived.Test.YtnfbncgfpmcpnaaGreatW06
set_option maxRecDepth 100000
set_option maxHeartbeats 12800000
namespace Go.Proofs.YtnfbncgfpmcpnaaGreat.Mdl
open Go.ChangeShapes Go.WideShapes Go.ChangeAt Go.RowKit
open Ent (En I64b)
theorem cI64:Tryz.prog.cellsOf 2=1:=by kernel_rfl
theorem cU8:Tryz.prog.cellsOf 5=1:=by kernel_rfl
theorem u8_range {z:Int} (h:(Lit.int .u8 z).wf=true):0<=z/\z<256:=by
 simp only [Lit.wf,Bool.and_eq_true,decide_eq_true_eq] at h
 have e1:IntKind.min .u8=0:=by decide
 have e2:IntKind.max .u8=255:=by decide
 omega
theorem u64_range {z:Int} (h:(Lit.int .u64 z).wf=true):0<=z/\z<18446744073709551616:=by
 simp only [Lit.wf,Bool.and_eq_true,decide_eq_true_eq] at h
 have e1:IntKind.min .u64=0:=by decide
 have e2:IntKind.max .u64=18446744073709551615:=by decide
 omega
theorem i64_range {z:Int} (h:(Lit.int .i64 z).wf=true):I64b z:=by
 simp only [Lit.wf,Bool.and_eq_true,decide_eq_true_eq] at h
 have e1:IntKind.min .i64 = -9223372036854775808:=by decide
 have e2:IntKind.max .i64=9223372036854775807:=by decide
 exact ⟨by omega,by omega⟩
theorem u16_range' {z:Int} (h:(Lit.int .u16 z).wf=true):0<=z/\z<65536:=by
 simp only [Lit.wf,Bool.and_eq_true,decide_eq_true_eq] at h
 have e1:IntKind.min .u16=0:=by decide
 have e2:IntKind.max .u16=65535:=by decide
 omega
theorem lt16 {i:Nat} (h:i<16):i=0 \/ i=1 \/ i=2 \/ i=3 \/ i=4 \/ i=5 \/ i=6 \/ i=7 \/ i=8 \/ i=9 \/ i=10 \/ i=11 \/ i=12 \/ i=13 \/ i=14 \/ i=15:=by omega
theorem stRow_of_in {w:World} {a:Option Addr} {len cap:Nat} (h:len=0 \/ ∃ (b off:Nat) (f:Nat->Int × Bool × Bool × Int × Int × Int × Int × Int × Int × Int × Int × Int × Int × Bool × Int × Int),a=some ⟨b,off,none⟩/\b<w.heap.size/\∀ j,j<len->w.cell? ⟨b,off+j * 16,none⟩=some (.int .u16 (f j).1)/\w.cell? ⟨b,off+j * 16+1,none⟩=some (.bool (f j).2.1)/\w.cell? ⟨b,off+j * 16+2,none⟩=some (.bool (f j).2.2.1)/\w.cell? ⟨b,off+j * 16+3,none⟩=some (.int .i64 (f j).2.2.2.1)/\w.cell? ⟨b,off+j * 16+4,none⟩=some (.int .u8 (f j).2.2.2.2.1)/\w.cell? ⟨b,off+j * 16+5,none⟩=some (.int .i64 (f j).2.2.2.2.2.1)/\w.cell? ⟨b,off+j * 16+6,none⟩=some (.int .i64 (f j).2.2.2.2.2.2.1)/\w.cell? ⟨b,off+j * 16+7,none⟩=some (.int .i64 (f j).2.2.2.2.2.2.2.1)/\w.cell? ⟨b,off+j * 16+8,none⟩=some (.int .i64 (f j).2.2.2.2.2.2.2.2.1)/\w.cell? ⟨b,off+j * 16+9,none⟩=some (.int .i64 (f j).2.2.2.2.2.2.2.2.2.1)/\w.cell? ⟨b,off+j * 16+10,none⟩=some (.int .i64 (f j).2.2.2.2.2.2.2.2.2.2.1)/\w.cell? ⟨b,off+j * 16+11,none⟩=some (.int .i64 (f j).2.2.2.2.2.2.2.2.2.2.2.1)/\w.cell? ⟨b,off+j * 16+12,none⟩=some (.int .i64 (f j).2.2.2.2.2.2.2.2.2.2.2.2.1)/\w.cell? ⟨b,off+j * 16+13,none⟩=some (.bool (f j).2.2.2.2.2.2.2.2.2.2.2.2.2.1)/\w.cell? ⟨b,off+j * 16+14,none⟩=some (.int .i64 (f j).2.2.2.2.2.2.2.2.2.2.2.2.2.2.1)/\w.cell? ⟨b,off+j * 16+15,none⟩=some (.int .u64 (f j).2.2.2.2.2.2.2.2.2.2.2.2.2.2.2)/\(Lit.int .u16 (f j).1).wf=true/\True/\True/\(Lit.int .i64 (f j).2.2.2.1).wf=true/\(Lit.int .u8 (f j).2.2.2.2.1).wf=true/\(Lit.int .i64 (f j).2.2.2.2.2.1).wf=true/\(Lit.int .i64 (f j).2.2.2.2.2.2.1).wf=true/\(Lit.int .i64 (f j).2.2.2.2.2.2.2.1).wf=true/\(Lit.int .i64 (f j).2.2.2.2.2.2.2.2.1).wf=true/\(Lit.int .i64 (f j).2.2.2.2.2.2.2.2.2.1).wf=true/\(Lit.int .i64 (f j).2.2.2.2.2.2.2.2.2.2.1).wf=true/\(Lit.int .i64 (f j).2.2.2.2.2.2.2.2.2.2.2.1).wf=true/\(Lit.int .i64 (f j).2.2.2.2.2.2.2.2.2.2.2.2.1).wf=true/\True/\(Lit.int .i64 (f j).2.2.2.2.2.2.2.2.2.2.2.2.2.2.1).wf=true/\(Lit.int .u64 (f j).2.2.2.2.2.2.2.2.2.2.2.2.2.2.2).wf=true) :
  ∃ l:List Stp,StRow w (.slice a len cap) l/\l.length=len:=by
 rcases h with rfl | ⟨b,off,f,rfl,hb,hf⟩
 ·exact ⟨[],⟨_,_,rfl,.inl rfl⟩,rfl⟩
 ·refine ⟨(List.range len).map fun j=>(⟨(f j).1.toNat,(f j).2.1,(f j).2.2.1,⟨(f j).2.2.2.1,(f j).2.2.2.2.1.toNat,(f j).2.2.2.2.2.1,(f j).2.2.2.2.2.2.1,(f j).2.2.2.2.2.2.2.1,(f j).2.2.2.2.2.2.2.2.1,(f j).2.2.2.2.2.2.2.2.2.1,(f j).2.2.2.2.2.2.2.2.2.2.1,(f j).2.2.2.2.2.2.2.2.2.2.2.1,(f j).2.2.2.2.2.2.2.2.2.2.2.2.1,(f j).2.2.2.2.2.2.2.2.2.2.2.2.2.1,(f j).2.2.2.2.2.2.2.2.2.2.2.2.2.2.1,(f j).2.2.2.2.2.2.2.2.2.2.2.2.2.2.2.toNat⟩⟩:Stp),⟨some ⟨b,off,none⟩,cap,by simp,.inr ⟨b,off,rfl,hb,?_⟩⟩,by simp⟩
  intro k s hk
  have hlt:k<len:=by have:=(List.getElem?_eq_some_iff.1 hk).1;simpa using this
  rw [List.getElem?_map,List.getElem?_range hlt,Option.map_some,Option.some.injEq] at hk
  subst hk
  obtain ⟨c0,c1,c2,c3,c4,c5,c6,c7,c8,c9,c10,c11,c12,c13,c14,c15,w0,-, -, w3,w4,w5,w6,w7,w8,w9,w10,w11,w12,-, w14,w15⟩:=hf k hlt
  have r0:=u16_range' w0
  have r1:=u8_range w4
  have r12:=u64_range w15
  refine ⟨⟨by simp only;omega,i64_range w3,by simp only;omega,i64_range w5,i64_range w6,i64_range w7,i64_range w8,i64_range w9,i64_range w10,i64_range w11,i64_range w12,i64_range w14,by simp only;omega⟩,?_⟩
  intro i u hi
  have hi16:i<16:=by have:=(List.getElem?_eq_some_iff.1 hi).1;simpa [stpL] using this
  have g0:(((f k).1.toNat:Nat):Int)=(f k).1:=Int.toNat_of_nonneg r0.1
  have g1:(((f k).2.2.2.2.1.toNat:Nat):Int)=(f k).2.2.2.2.1:=Int.toNat_of_nonneg r1.1
  have g12:(((f k).2.2.2.2.2.2.2.2.2.2.2.2.2.2.2.toNat:Nat):Int)=(f k).2.2.2.2.2.2.2.2.2.2.2.2.2.2.2:=Int.toNat_of_nonneg r12.1
  rcases lt16 hi16 with rfl | rfl | rfl | rfl | rfl | rfl | rfl | rfl | rfl | rfl | rfl | rfl | rfl | rfl | rfl | rfl
  all_goals
   simp only [stpL,List.getElem?_cons_zero,List.getElem?_cons_succ,Option.some.injEq,g0,g1,g12] at hi
   subst hi
   assumption
end Go.Proofs.YtnfbncgfpmcpnaaGreat.Mdl
namespace Go.Proofs.YtnfbncgfpmcpnaaGreat
open Go.ChangeShapes Go.WideShapes Go.ChangeAt Go.RowKit Go.Deep
theorem cIns:Tryz.prog.cellsOf 95=5:=by kernel_rfl
theorem cCase:Tryz.prog.cellsOf 169=4:=by kernel_rfl
theorem cSite:Tryz.prog.cellsOf 117=2:=by kernel_rfl
theorem cPrg:Tryz.prog.cellsOf 26=3:=by kernel_rfl
theorem cInt:Tryz.prog.cellsOf 3=1:=by kernel_rfl
theorem cI64:Tryz.prog.cellsOf 2=1:=by kernel_rfl
theorem cU8:Tryz.prog.cellsOf 5=1:=by kernel_rfl
theorem cBool:Tryz.prog.cellsOf 4=1:=by kernel_rfl
theorem cInts:Tryz.prog.cellsOf 22=1:=by kernel_rfl
theorem cCode:Tryz.prog.cellsOf 96=1:=by kernel_rfl
theorem cCases:Tryz.prog.cellsOf 115=1:=by kernel_rfl
theorem cCodes:Tryz.prog.cellsOf 23=1:=by kernel_rfl
theorem cSites:Tryz.prog.cellsOf 24=1:=by kernel_rfl
theorem u8_range {z:Int} (h:(Lit.int .u8 z).wf=true):0<=z/\z<256:=by
 simp only [Lit.wf,Bool.and_eq_true,decide_eq_true_eq] at h
 have e1:IntKind.min .u8=0:=by decide
 have e2:IntKind.max .u8=255:=by decide
 omega
theorem i64_range {z:Int} (h:(Lit.int .i64 z).wf=true):I64b z:=by
 simp only [Lit.wf,Bool.and_eq_true,decide_eq_true_eq] at h
 have e1:IntKind.min .i64 = -9223372036854775808:=by decide
 have e2:IntKind.max .i64=9223372036854775807:=by decide
 exact ⟨by omega,by omega⟩
theorem five {α:Type} {l:List α} (h:l.length=5):∃ a b c d e,l = [a,b,c,d,e]:=by
 match l,h with
 | [a,b,c,d,e],_=>exact ⟨a,b,c,d,e,rfl⟩
theorem four {α:Type} {l:List α} (h:l.length=4):∃ a b c d,l = [a,b,c,d]:=by
 match l,h with
 | [a,b,c,d],_=>exact ⟨a,b,c,d,rfl⟩
theorem three {α:Type} {l:List α} (h:l.length=3):∃ a b c,l = [a,b,c]:=by
 match l,h with
 | [a,b,c],_=>exact ⟨a,b,c,rfl⟩
theorem two {α:Type} {l:List α} (h:l.length=2):∃ a b,l = [a,b]:=by
 match l,h with
 | [a,b],_=>exact ⟨a,b,rfl⟩
theorem single {α:Type} {l:List α} (h:l.length=1):∃ a,l = [a]:=by
 match l,h with
 | [a],_=>exact ⟨a,rfl⟩
section
variable {H:Type} {enc:TypeId × Value->H} {W:World} {n:Nat} {cs:List Value} {x:DataW H × List MemPlace}
theorem open_in (hcs:cs.length=5) (h:DataW.trod enc Tryz.prog W 0 (fun _=>true) true n 95 cs=some x):∃ x:In,x.ok/\cs=In.cellsL x:=by
 have hs:=DataW.trod_struct Tryz.underlying95 h
 rw [cIns] at hs
 obtain ⟨xs,m,_,_,_,hl,hf⟩:=hs
 obtain ⟨v0,v1,v2,v3,v4,rfl⟩:=five hcs
 obtain ⟨y0,y1,y2,y3,y4,rfl⟩:=five (show xs.length=5 from hl)
 have k0:DataW.trod enc Tryz.prog W 0 (fun _=>true) true m 5 (List.take (Tryz.prog.cellsOf 5) [v0,v1,v2,v3,v4])=some y0:=hf 0 _ rfl
 rw [cU8,List.take_succ_cons,List.take_zero] at k0
 have k1:DataW.trod enc Tryz.prog W 0 (fun _=>true) true m 3 (List.take (Tryz.prog.cellsOf 3) [v1,v2,v3,v4])=some y1:=hf 1 _ rfl
 rw [cInt,List.take_succ_cons,List.take_zero] at k1
 have k2:DataW.trod enc Tryz.prog W 0 (fun _=>true) true m 3 (List.take (Tryz.prog.cellsOf 3) [v2,v3,v4])=some y2:=hf 2 _ rfl
 rw [cInt,List.take_succ_cons,List.take_zero] at k2
 have k3:DataW.trod enc Tryz.prog W 0 (fun _=>true) true m 3 (List.take (Tryz.prog.cellsOf 3) [v3,v4])=some y3:=hf 3 _ rfl
 rw [cInt,List.take_succ_cons,List.take_zero] at k3
 have k4:DataW.trod enc Tryz.prog W 0 (fun _=>true) true m 2 (List.take (Tryz.prog.cellsOf 2) [v4])=some y4:=hf 4 _ rfl
 rw [cI64,List.take_succ_cons,List.take_zero] at k4
 clear hf h hl hcs
 obtain ⟨c0,e0,_,u0⟩:=DataW.trod_int Tryz.underlying5 k0
 obtain ⟨c1,e1,_,u1⟩:=DataW.trod_int Tryz.underlying3 k1
 obtain ⟨c2,e2,_,u2⟩:=DataW.trod_int Tryz.underlying3 k2
 obtain ⟨c3,e3,_,u3⟩:=DataW.trod_int Tryz.underlying3 k3
 obtain ⟨c4,e4,_,u4⟩:=DataW.trod_int Tryz.underlying2 k4
 simp only [List.cons.injEq,and_true] at e0 e1 e2 e3 e4
 subst e0 e1 e2 e3 e4
 have r0:=u8_range u0
 refine ⟨⟨c0.toNat,c1,c2,c3,c4⟩,⟨by simp only;omega,i64_range u1,i64_range u2,i64_range u3,i64_range u4⟩,?_⟩
 simp only [In.cellsL]
 rw [Int.toNat_of_nonneg r0.1]
theorem open_case (hcs:cs.length=4) (h:DataW.trod enc Tryz.prog W 0 (fun _=>true) true n 169 cs=some x):∃ x:Cas,x.ok/\cs=Cas.cellsL x:=by
 have hs:=DataW.trod_struct Tryz.underlying169 h
 rw [cCase] at hs
 obtain ⟨xs,m,_,_,_,hl,hf⟩:=hs
 obtain ⟨v0,v1,v2,v3,rfl⟩:=four hcs
 obtain ⟨y0,y1,y2,y3,rfl⟩:=four (show xs.length=4 from hl)
 have k0:DataW.trod enc Tryz.prog W 0 (fun _=>true) true m 4 (List.take (Tryz.prog.cellsOf 4) [v0,v1,v2,v3])=some y0:=hf 0 _ rfl
 rw [cBool,List.take_succ_cons,List.take_zero] at k0
 have k1:DataW.trod enc Tryz.prog W 0 (fun _=>true) true m 3 (List.take (Tryz.prog.cellsOf 3) [v1,v2,v3])=some y1:=hf 1 _ rfl
 rw [cInt,List.take_succ_cons,List.take_zero] at k1
 have k2:DataW.trod enc Tryz.prog W 0 (fun _=>true) true m 3 (List.take (Tryz.prog.cellsOf 3) [v2,v3])=some y2:=hf 2 _ rfl
 rw [cInt,List.take_succ_cons,List.take_zero] at k2
 have k3:DataW.trod enc Tryz.prog W 0 (fun _=>true) true m 3 (List.take (Tryz.prog.cellsOf 3) [v3])=some y3:=hf 3 _ rfl
 rw [cInt,List.take_succ_cons,List.take_zero] at k3
 clear hf h hl hcs
 obtain ⟨c0,e0,_⟩:=DataW.trod_bool Tryz.underlying4 k0
 obtain ⟨c1,e1,_,u1⟩:=DataW.trod_int Tryz.underlying3 k1
 obtain ⟨c2,e2,_,u2⟩:=DataW.trod_int Tryz.underlying3 k2
 obtain ⟨c3,e3,_,u3⟩:=DataW.trod_int Tryz.underlying3 k3
 simp only [List.cons.injEq,and_true] at e0 e1 e2 e3
 subst e0 e1 e2 e3
 exact ⟨⟨c0,c1,c2,c3⟩,⟨i64_range u1,i64_range u2,i64_range u3⟩,rfl⟩
theorem open_row {α:Type} {sl T:TypeId} {s:Nat} (hu:Tryz.prog.underlying sl=some (.slice T)) (hc:Tryz.prog.cellsOf T=s) (hs:0<s) {f:α->List Value} (hlen:∀ q,(f q).length=s) {R:α->Prop}
  (hel:∀ (n:Nat) (cs:List Value) (x:DataW H × List MemPlace),cs.length=s->DataW.trod enc Tryz.prog W 0 (fun _=>true) true n T cs=some x->∃ q,R q/\cs=f q) {v:Value} (h:DataW.trod enc Tryz.prog W 0 (fun _=>true) true n sl [v]=some x) :
  ∃ qs:List α,Flat 0 W.heap.size W s qs.length v (qs.flatMap f)/\∀ q ∈ qs,R q:=by
 rcases open_slice hu h with ⟨hcs,_⟩ | ⟨a,len,c,m,k,D,Pl,hcs,_,hl,hm,hmm,_,hx⟩
 ·simp at hcs
  subst hcs
  exact ⟨[],⟨by simp,none,0,rfl,.inl rfl⟩,by simp⟩
 ·simp at hcs
  subst hcs
  by_cases h0:len=0
  ·subst h0
   exact ⟨[],⟨by simp,some a,c,rfl,.inl rfl⟩,by simp⟩
  have hlm:len<=m:=by rw [hmm];split <;> omega
  rw [hc] at hx
  have key:∀ j,j<len->∃ q:α,R q/\∀ i u,(f q)[i]?=some u->W.cell? ((a.add (j * s)).add i)=some u:=fun j hj=>by
   obtain ⟨cs,h1,h2⟩:=hx j (by omega)
   obtain ⟨_,hl',hat⟩:=World.cells?_some h1
   obtain ⟨q,hR,rfl⟩:=hel _ _ _ hl' h2
   exact ⟨q,hR,fun i u hu=>(hat i (by have:=(List.getElem?_eq_some_iff.1 hu).1;omega)).trans hu⟩
  haveI:Inhabited α:=⟨Classical.choose (key 0 (by omega))⟩
  have key2:∃ g:Nat->α,∀ j,j<len->R (g j)/\∀ i u,(f (g j))[i]?=some u->W.cell? ((a.add (j * s)).add i)=some u:=choose_lt key
  obtain ⟨g,hg⟩:=key2
  obtain ⟨b,off,spot⟩:=a
  have hc0:=(hg 0 (by omega)).2 0 _ (List.getElem?_eq_getElem (by rw [hlen];exact hs))
  have hspot:spot=none:=by simpa [Addr.add] using World.cell?_spot hc0
  subst hspot
  have ad:∀ o j,(Addr.mk b o none).add j=⟨b,o+j,none⟩:=fun o j=>by
   by_cases hj:j=0
   ·subst hj;simp [Addr.add]
   ·simp [Addr.add,hj]
  have hbl:=World.block_lt_of_cell? W _ hc0
  rw [ad,ad] at hbl
  refine ⟨(List.range len).map g,⟨by rw [flat_len f s hlen],some ⟨b,off,none⟩,c,by simp,.inr ⟨b,off,rfl,Nat.zero_le _,hbl,fun j u hu=>?_⟩⟩,fun q hq=>?_⟩
  ·have hj:j<len * s:=by have:=(List.getElem?_eq_some_iff.1 hu).1;rw [flat_len f s hlen] at this;simpa using this
   have e:j=j / s * s+j % s:=by rw [Nat.mul_comm];exact (Nat.div_add_mod j s).symm
   have hd:j / s<len:=Nat.div_lt_of_lt_mul (by rw [Nat.mul_comm];exact hj)
   rw [e,flat_get f s hlen _ _ _ (Nat.mod_lt j hs),List.getElem?_map,List.getElem?_range hd] at hu
   have:=(hg _ hd).2 _ u hu
   rw [ad,ad] at this
   rw [show off+j=off+j / s * s+j % s by omega]
   exact this
  ·obtain ⟨j,hj,rfl⟩:=List.mem_map.1 hq
   exact (hg j (List.mem_range.1 hj)).1
theorem open_code {v:Value} (h:DataW.trod enc Tryz.prog W 0 (fun _=>true) true n 96 [v]=some x):∃ l,CodeAt 0 W.heap.size W v l:=
 open_row Tryz.underlying96 cIns (by decide) (f := In.cellsL) (fun _ => rfl) (R := fun x => x.ok) (fun _ _ _ hl h => open_in hl h) h
theorem open_cases {v:Value} (h:DataW.trod enc Tryz.prog W 0 (fun _=>true) true n 115 [v]=some x):∃ l,CasesAt 0 W.heap.size W v l:=
 open_row Tryz.underlying115 cCase (by decide) (f := Cas.cellsL) (fun _ => rfl) (R := fun x => x.ok) (fun _ _ _ hl h => open_case hl h) h
theorem flat_single {α:Type} (g:α->Value) (l:List α):(l.flatMap fun q=>[g q])=l.map g:=by
 induction l with
 | nil=>rfl
 | cons a t ih=>simp [ih]
theorem open_ints {v:Value} (h:DataW.trod enc Tryz.prog W 0 (fun _=>true) true n 22 [v]=some x):∃ l,IntsAt 0 W.heap.size W v l:=by
 obtain ⟨l,h1,h2⟩:=open_row Tryz.underlying22 cInt (by decide) (f:=fun z:Int=>[Value.int .i64 z]) (fun _=>rfl) (R:=I64b) (fun _ cs _ hl h=>by
  obtain ⟨z,rfl,_,hz⟩:=DataW.trod_int Tryz.underlying3 h
  exact ⟨z,i64_range hz,rfl⟩) h
 rw [flat_single] at h1
 exact ⟨l,h1,h2⟩
theorem open_codes {v:Value} (h:DataW.trod enc Tryz.prog W 0 (fun _=>true) true n 23 [v]=some x):∃ l,CodesAt 0 W.heap.size W v l:=by
 obtain ⟨l,h1,h2⟩:=open_row Tryz.underlying23 cCode (by decide) (f:=fun q:List In × Value=>[q.2]) (fun _=>rfl) (R:=fun q=>CodeAt 0 W.heap.size W q.2 q.1) (fun _ cs _ hl h=>by
  obtain ⟨u,rfl⟩:=single hl
  obtain ⟨l,hl⟩:=open_code h
  exact ⟨(l,u),hl,rfl⟩) h
 rw [flat_single] at h1
 refine ⟨l.map (·.1),l.map (·.2),by rw [List.length_map];exact h1,fun k u x hu hx=>?_⟩
 rw [List.getElem?_map] at hu hx
 cases hk:l[k]? with
 | none=>rw [hk] at hu;cases hu
 | some q=>
  rw [hk] at hu hx
  simp only [Option.map_some,Option.some.injEq] at hu hx
  subst hu hx
  exact h2 q (List.mem_of_getElem? hk)
theorem zip_maps {α β γ:Type} (f:α->β) (g:α->γ) (l:List α):(l.map f).zip (l.map g)=l.map fun q=>(f q,g q):=by
 induction l with
 | nil=>rfl
 | cons a t ih=>simp [ih]
theorem open_sites {v:Value} (h:DataW.trod enc Tryz.prog W 0 (fun _=>true) true n 24 [v]=some x):∃ l,SitesAt 0 W.heap.size W v l:=by
 obtain ⟨l,h1,h2⟩:=open_row Tryz.underlying24 cSite (by decide) (f:=fun q:Sit × Value=>[q.2,Value.bool q.1.d]) (fun _=>rfl) (R:=fun q=>CasesAt 0 W.heap.size W q.2 q.1.cs) (fun _ cs _ hl h=>by
  have hs:=DataW.trod_struct Tryz.underlying117 h
  rw [cSite] at hs
  obtain ⟨xs,m,_,_,_,hl',hf⟩:=hs
  obtain ⟨u0,u1,rfl⟩:=two hl
  obtain ⟨y0,y1,rfl⟩:=two (show xs.length=2 from hl')
  have k0:DataW.trod enc Tryz.prog W 0 (fun _=>true) true m 115 (List.take (Tryz.prog.cellsOf 115) [u0,u1])=some y0:=hf 0 _ rfl
  rw [cCases,List.take_succ_cons,List.take_zero] at k0
  have k1:DataW.trod enc Tryz.prog W 0 (fun _=>true) true m 4 (List.take (Tryz.prog.cellsOf 4) [u1])=some y1:=hf 1 _ rfl
  rw [cBool,List.take_succ_cons,List.take_zero] at k1
  obtain ⟨c1,e1,_⟩:=DataW.trod_bool Tryz.underlying4 k1
  simp only [List.cons.injEq,and_true] at e1
  subst e1
  obtain ⟨l,hl⟩:=open_cases k0
  exact ⟨(⟨l,c1⟩,u0),hl,rfl⟩) h
 refine ⟨l.map (·.1),l.map (·.2),by simp,?_,fun k u x hu hx=>?_⟩
 ·rw [List.length_map,siteCells,zip_maps,List.flatMap_map]
  exact h1
 ·rw [List.getElem?_map] at hu hx
  cases hk:l[k]? with
  | none=>rw [hk] at hu;cases hu
  | some q=>
   rw [hk] at hu hx
   simp only [Option.map_some,Option.some.injEq] at hu hx
   subst hu hx
   exact h2 q (List.mem_of_getElem? hk)
end
theorem open_prog {H:Type} {enc:TypeId × Value->H} {W:World} {base:Nat} {v:Value} {d:DataW H} {ps:List MemPlace} (hv:Value.okWide Tryz.prog W .any base 26 v)
  (h:DataW.Trod enc Tryz.prog W 0 (fun _=>true) true 26 v d ps):∃ v1 v2 v3 p,v=.agg #[v1,v2,v3]/\PrgAt 0 W.heap.size W v1 v2 v3 p:=by
 have hs:=okWide_struct Tryz.underlying26 hv
 rw [cPrg] at hs
 obtain ⟨cs,rfl,hcs⟩:=hs
 obtain ⟨n,h⟩:=h
 obtain ⟨l⟩:=cs
 have h':DataW.trod enc Tryz.prog W 0 (fun _=>true) true n 26 l=some (d,ps):=by simpa [Value.cells] using h
 have hs:=DataW.trod_struct Tryz.underlying26 h'
 rw [cPrg] at hs
 obtain ⟨xs,m,_,_,_,hl,hf⟩:=hs
 obtain ⟨v0,v1,v2,rfl⟩:=three (show l.length=3 by simpa using hcs)
 obtain ⟨y0,y1,y2,rfl⟩:=three (show xs.length=3 from hl)
 have k0:DataW.trod enc Tryz.prog W 0 (fun _=>true) true m 22 (List.take (Tryz.prog.cellsOf 22) [v0,v1,v2])=some y0:=hf 0 _ rfl
 rw [cInts,List.take_succ_cons,List.take_zero] at k0
 have k1:DataW.trod enc Tryz.prog W 0 (fun _=>true) true m 23 (List.take (Tryz.prog.cellsOf 23) [v1,v2])=some y1:=hf 1 _ rfl
 rw [cCodes,List.take_succ_cons,List.take_zero] at k1
 have k2:DataW.trod enc Tryz.prog W 0 (fun _=>true) true m 24 (List.take (Tryz.prog.cellsOf 24) [v2])=some y2:=hf 2 _ rfl
 rw [cSites,List.take_succ_cons,List.take_zero] at k2
 obtain ⟨q0,p0⟩:=open_ints k0
 obtain ⟨q1,p1⟩:=open_codes k1
 obtain ⟨q2,p2⟩:=open_sites k2
 exact ⟨v0,v1,v2,⟨q0,q1,q2⟩,rfl,⟨Nat.le_refl _,p0,p1,p2⟩⟩
end Go.Proofs.YtnfbncgfpmcpnaaGreat
