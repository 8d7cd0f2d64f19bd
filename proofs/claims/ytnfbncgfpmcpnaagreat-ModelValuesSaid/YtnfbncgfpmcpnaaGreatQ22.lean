/-
  ReplayNext: its walks, part 22.
-/
import Derived.Test.YtnfbncgfpmcpnaaGreatQ21
set_option maxRecDepth 100000
set_option maxHeartbeats 12800000
namespace Go.Proofs.YtnfbncgfpmcpnaaGreat.Mdl
open Go.RowKit Go.Shelf
open Ent (En)
open Mch (Wt Gt whatK putL Chn Frm Fw Fl grown_below below1 below_nx owns_slice' boxed_below)
attribute [local go_sem] Oper.semAt_some
theorem rows11 {α:Type} (x0 x1 x2 x3 x4 x5 x6 x7 x8 x9 x10 a0 a1 a2 a3 a4 a5 a6 a7 a8 a9 a10:α):((((((((((((#[x0,x1,x2,x3,x4,x5,x6,x7,x8,x9,x10]:Array α).setIfInBounds 0 a0).setIfInBounds 1 a1).setIfInBounds 2 a2).setIfInBounds 3 a3).setIfInBounds 4 a4).setIfInBounds 5 a5).setIfInBounds 6 a6).setIfInBounds 7 a7).setIfInBounds 8 a8).setIfInBounds 9 a9).setIfInBounds 10 a10)=#[a0,a1,a2,a3,a4,a5,a6,a7,a8,a9,a10]:=by simp
theorem sto11 {W:World} {B:Nat} {t:TypeId} {x0 x1 x2 x3 x4 x5 x6 x7 x8 x9 x10:Value} (h:Blk W B t #[x0,x1,x2,x3,x4,x5,x6,x7,x8,x9,x10]) (a0 a1 a2 a3 a4 a5 a6 a7 a8 a9 a10:Value) :
  Blk (((((((((((W.setCell ⟨B,0,none⟩ (a0)).setCell ⟨B,1,none⟩ (a1)).setCell ⟨B,2,none⟩ (a2)).setCell ⟨B,3,none⟩ (a3)).setCell ⟨B,4,none⟩ (a4)).setCell ⟨B,5,none⟩ (a5)).setCell ⟨B,6,none⟩ (a6)).setCell ⟨B,7,none⟩ (a7)).setCell ⟨B,8,none⟩ (a8)).setCell ⟨B,9,none⟩ (a9)).setCell ⟨B,10,none⟩ (a10)) B t #[a0,a1,a2,a3,a4,a5,a6,a7,a8,a9,a10]/\But [B] W (((((((((((W.setCell ⟨B,0,none⟩ (a0)).setCell ⟨B,1,none⟩ (a1)).setCell ⟨B,2,none⟩ (a2)).setCell ⟨B,3,none⟩ (a3)).setCell ⟨B,4,none⟩ (a4)).setCell ⟨B,5,none⟩ (a5)).setCell ⟨B,6,none⟩ (a6)).setCell ⟨B,7,none⟩ (a7)).setCell ⟨B,8,none⟩ (a8)).setCell ⟨B,9,none⟩ (a9)).setCell ⟨B,10,none⟩ (a10)):=by
 have hm:B ∈ [B]:=by simp
 refine ⟨?_,((((((((((((But.refl [B] W).set (.inl hm) _).set (.inl hm) _).set (.inl hm) _).set (.inl hm) _).set (.inl hm) _).set (.inl hm) _).set (.inl hm) _).set (.inl hm) _).set (.inl hm) _).set (.inl hm) _).set (.inl hm) _)⟩
 rw [<- rows11 x0 x1 x2 x3 x4 x5 x6 x7 x8 x9 x10 a0 a1 a2 a3 a4 a5 a6 a7 a8 a9 a10]
 exact (((((((((((h.set 0 a0).set 1 a1).set 2 a2).set 3 a3).set 4 a4).set 5 a5).set 6 a6).set 7 a7).set 8 a8).set 9 a9).set 10 a10)
structure Tkr (W:World) (n:Nat) (t:Int) (x:Pla) (b:Bool):Prop where
 tb:Boxed W n 3 (.int .i64 t)
 it:PlAt W (n+1) x
 is:Boxed W (n+2) 4 (.bool b)
theorem Tkr.below {W W':World} {n:Nat} {t:Int} {x:Pla} {b:Bool} (h:Tkr W n t x b) (hb:Below W.heap.size W W'):Tkr W' n t x b:=⟨boxed_below h.tb hb,h.it.later hb h.it.lt,boxed_below h.is hb⟩
def setTk (W:World) (n:Nat) (y:Pla) (c:Bool):World:=(((((((((((W.setCell ⟨(n+1),0,none⟩ (.int .u8 (y.s:Int))).setCell ⟨(n+1),1,none⟩ (.int .i64 y.f.c)).setCell ⟨(n+1),2,none⟩ (.int .i64 y.f.p)).setCell ⟨(n+1),3,none⟩ (.int .i64 y.f.r0)).setCell ⟨(n+1),4,none⟩ (.int .i64 y.f.r1)).setCell ⟨(n+1),5,none⟩ (.int .i64 y.f.r2)).setCell ⟨(n+1),6,none⟩ (.int .i64 y.f.r3)).setCell ⟨(n+1),7,none⟩ (.int .i64 y.f.r4)).setCell ⟨(n+1),8,none⟩ (.int .i64 y.f.r5)).setCell ⟨(n+1),9,none⟩ (.int .i64 y.f.r6)).setCell ⟨(n+1),10,none⟩ (.int .i64 y.f.r7)).setCell ⟨n+2,0,none⟩ (.bool c)
theorem setTk_but (W:World) (n:Nat) (y:Pla) (c:Bool):But [n+1,n+2] W (setTk W n y c):=by
 have h1:n+1 ∈ [n+1,n+2]:=by simp
 have h2:n+2 ∈ [n+1,n+2]:=by simp
 exact ((((((((((((But.refl [n+1,n+2] W).set (p:=⟨n+1,0,none⟩) (.inl h1) _).set (p:=⟨n+1,1,none⟩) (.inl h1) _).set (p:=⟨n+1,2,none⟩) (.inl h1) _).set (p:=⟨n+1,3,none⟩) (.inl h1) _).set (p:=⟨n+1,4,none⟩) (.inl h1) _).set (p:=⟨n+1,5,none⟩) (.inl h1) _).set (p:=⟨n+1,6,none⟩) (.inl h1) _).set (p:=⟨n+1,7,none⟩) (.inl h1) _).set (p:=⟨n+1,8,none⟩) (.inl h1) _).set (p:=⟨n+1,9,none⟩) (.inl h1) _).set (p:=⟨n+1,10,none⟩) (.inl h1) _).set (p:=⟨n+2,0,none⟩) (.inl h2) _
theorem Tkr.set {W:World} {n:Nat} {t:Int} {x:Pla} {b:Bool} (h:Tkr W n t x b) (y:Pla) (c:Bool):Tkr (setTk W n y c) n t y c:=by
 have hb:=setTk_but W n y c
 obtain ⟨h1,h2⟩:=sto11 h.it (.int .u8 (y.s:Int)) (.int .i64 y.f.c) (.int .i64 y.f.p) (.int .i64 y.f.r0) (.int .i64 y.f.r1) (.int .i64 y.f.r2) (.int .i64 y.f.r3) (.int .i64 y.f.r4) (.int .i64 y.f.r5) (.int .i64 y.f.r6) (.int .i64 y.f.r7)
 refine ⟨hb.boxed h.tb (by simp),?_,?_⟩
 ·exact h1.beside (p:=⟨n+2,0,none⟩) (by simp) _
 ·have h3:Boxed (((((((((((W.setCell ⟨(n+1),0,none⟩ (.int .u8 (y.s:Int))).setCell ⟨(n+1),1,none⟩ (.int .i64 y.f.c)).setCell ⟨(n+1),2,none⟩ (.int .i64 y.f.p)).setCell ⟨(n+1),3,none⟩ (.int .i64 y.f.r0)).setCell ⟨(n+1),4,none⟩ (.int .i64 y.f.r1)).setCell ⟨(n+1),5,none⟩ (.int .i64 y.f.r2)).setCell ⟨(n+1),6,none⟩ (.int .i64 y.f.r3)).setCell ⟨(n+1),7,none⟩ (.int .i64 y.f.r4)).setCell ⟨(n+1),8,none⟩ (.int .i64 y.f.r5)).setCell ⟨(n+1),9,none⟩ (.int .i64 y.f.r6)).setCell ⟨(n+1),10,none⟩ (.int .i64 y.f.r7)) (n+2) 4 (.bool b):=h2.boxed h.is (by simp)
  exact h3.set _
theorem setTk_below {W w0:World} {m n:Nat} (hb:Below m w0 W) (hm:m<=n) (hw:m<=w0.heap.size) (y:Pla) (c:Bool):Below m w0 (setTk W n y c):=
 hb.trans ((setTk_but W n y c).below (Nat.le_trans hw hb.size) (by simp;omega))
theorem setTk_others (W:World) (n:Nat) (y:Pla) (c:Bool):KeepsOthers W (setTk W n y c):=by
 unfold setTk
 exact ((((((((((((KeepsOthers.setCell W ⟨n+1,0,none⟩ _).trans (KeepsOthers.setCell _ ⟨n+1,1,none⟩ _)).trans (KeepsOthers.setCell _ ⟨n+1,2,none⟩ _)).trans (KeepsOthers.setCell _ ⟨n+1,3,none⟩ _)).trans (KeepsOthers.setCell _ ⟨n+1,4,none⟩ _)).trans (KeepsOthers.setCell _ ⟨n+1,5,none⟩ _)).trans (KeepsOthers.setCell _ ⟨n+1,6,none⟩ _)).trans (KeepsOthers.setCell _ ⟨n+1,7,none⟩ _)).trans (KeepsOthers.setCell _ ⟨n+1,8,none⟩ _)).trans (KeepsOthers.setCell _ ⟨n+1,9,none⟩ _)).trans (KeepsOthers.setCell _ ⟨n+1,10,none⟩ _)).trans (KeepsOthers.setCell _ ⟨n+2,0,none⟩ _))
theorem plAt_abides {β:Type} (B:Nat) (f:β->Pla) (m:Nat):OwnFrom m (fun (s:β) W=>PlAt W B (f s)):=fun s A W' row hs hg hr=>
 (hg.block B hs.lt (fun e=>by
  obtain ⟨_,o,ho,hn⟩:=hr B e.symm
  rw [show A.heap[B]?=_ from hs] at ho
  cases ho
  cases hn)).trans hs
theorem tkr_abides {β:Type} (n:Nat) (t:Int) (f:β->Pla) (b:Bool) (m:Nat):OwnFrom m (fun (s:β) W=>Tkr W n t (f s) b):=fun s W W' row hs hg hr=>
 ⟨Mch.boxed_abides n 3 (fun _:β=>.int .i64 t) m s W W' row hs.tb hg hr,plAt_abides (n+1) f m s W W' row hs.it hg hr,Mch.boxed_abides (n+2) 4 (fun _:β=>.bool b) m s W W' row hs.is hg hr⟩
theorem task_end (F0:Value) (w W:World) (D:Nat) (hD:w.heap.size+2<D) (t:Int) (x:Pla) (b:Bool) (t0 t1 t2 t6 t7 t8 t9 t10 t11 t12 t13 t14 t15 t16:Value)
  (hF:Tkr W w.heap.size t x b) (hB:Below w.heap.size w W) (hK:W.heap[D]?=some (.deferred (some [])))
  (HE:Hid (Value.tuple #[plaV x,.bool b]=F0)) :
  bodyPostM Fence.wide 4 Tryz.prog Tryz.f20 (fun e w'=>e=.returned F0/\Below w.heap.size w w') .ret
   { tmps:=#[t0,t1,t2,.pointer (some ⟨w.heap.size,0,none⟩),.pointer (some ⟨w.heap.size+1,0,none⟩),.pointer (some ⟨w.heap.size+2,0,none⟩),t6,t7,t8,t9,t10,t11,t12,t13,t14,t15,t16],defers:=[{ target:=Target.collected D,args:=#[] }] } W:=by
 refine ⟨by simp,.inl ⟨_,_,rfl,run_takeDeferred hK,?_⟩⟩
 have hg:=grownBy_putObj' W D (.deferred none)
 have hr:∀ r,some D=some r->∃ o,W.heap[r]?=some o/\o.isCells=false:=fun r e=>by cases e;exact ⟨_,hK,rfl⟩
 have a1:=cell_kept hF.is.cell hg hr
 obtain ⟨c0,c1,c2,c3,c4,c5,c6,c7,c8,c9,c10⟩:=pla_cells hF.it

 have d0:=cell_kept c0 hg hr
 have d1:=cell_kept c1 hg hr
 have d2:=cell_kept c2 hg hr
 have d3:=cell_kept c3 hg hr
 have d4:=cell_kept c4 hg hr
 have d5:=cell_kept c5 hg hr
 have d6:=cell_kept c6 hg hr
 have d7:=cell_kept c7 hg hr
 have d8:=cell_kept c8 hg hr
 have d9:=cell_kept c9 hg hr
 have d10:=cell_kept c10 hg hr
 refine ⟨.tuple #[plaV x,.bool b],?_,by rw [HE.out],hB.trans (belowK_b (w:=w) (Nat.le_refl _) _ D _ _ (by omega) hK rfl rfl)⟩
 simp [results,Tryz.f20,go_sem,a1,d0,d1,d2,d3,d4,d5,d6,d7,d8,d9,d10]
theorem task_found {T:List Pla} {pre:List (Nat × Pla)} {x:Nat × Pla} {t:Int} (h:pre ++ [x] <+: enumT T) (ht:(x.1:Int)=t):0<=t/\T[t.toNat]?=some x.2:=by
 obtain ⟨r,hr⟩:=h
 have h1:(enumT T)[pre.length]?=some x:=by rw [<- hr];simp
 rw [enumT_at] at h1
 cases hT:T[pre.length]? with
 | none=>rw [hT] at h1;cases h1
 | some y=>
  rw [hT] at h1
  simp only [Option.map_some,Option.some.injEq] at h1
  subst h1
  simp only at ht
  subst ht
  exact ⟨by omega,by rw [Int.toNat_natCast];exact hT⟩
theorem task_not {T:List Pla} {t:Int} (h:∀ x ∈ enumT T,(x.1:Int) ≠ t) (h0:0<=t):T[t.toNat]?=none:=by
 cases hT:T[t.toNat]? with
 | none=>rfl
 | some y=>
  refine absurd ?_ (h (t.toNat,y) (List.mem_of_getElem? (i:=t.toNat) (by rw [enumT_at,hT];rfl)))
  simp only
  omega
theorem task_any {o:Nat->Nat} {B:Nat} {M:Mod} (t:Int) (w:World) (h:Md w o B M) (hl:M.T.length<=1000) :
  Calls Tryz.prog 20 #[ptrV B,.int .i64 t] w fun e w'=>e=.returned (.tuple #[plaV ((M.task t).getD Pla.zero),.bool (M.task t).isSome])/\Below w.heap.size w w':=by
 obtain ⟨lo,hi,v1,v2,v3,vT,vC,Cs,h⟩:=h
 have hcell:=h.tk
 have hrow:=h.tasks
 obtain ⟨T,hT⟩:∃ T,T=M.T:=⟨_,rfl⟩
 obtain ⟨F0,hF0⟩:∃ F0,F0=Value.tuple #[plaV ((M.task t).getD Pla.zero),.bool (M.task t).isSome]:=⟨_,rfl⟩
 have HF:Hid (F0=Value.tuple #[plaV ((if 0<=t then T[t.toNat]? else none).getD Pla.zero),.bool (if 0<=t then T[t.toNat]? else none).isSome]):=Lib.hid (by rw [hF0,hT];rfl)
 rw [<- hF0]
 rw [<- hT] at hrow hl
 clear hF0 hT h
 obtain ⟨w2,hw2⟩:∃ w2,w2=((w.alloc (.cells #[.int .i64 t] 3)).alloc (.cells (plaA Pla.zero) 63)).alloc (.cells #[.bool false] 4):=⟨_,rfl⟩
 have hF2:Tkr w2 w.heap.size t Pla.zero false:=by
  rw [hw2]
  have h1:=blk_new (w.alloc (.cells #[.int .i64 t] 3)) 63 (plaA Pla.zero)
  have h2:=Boxed.new ((w.alloc (.cells #[.int .i64 t] 3)).alloc (.cells (plaA Pla.zero) 63)) 4 (.bool false)
  rw [World.size_alloc] at h1 h2
  rw [World.size_alloc] at h2
  exact ⟨((Boxed.new w _ _).alloc _).alloc _,h1.alloc _,h2⟩
 have hB2:Below w.heap.size w w2:=by rw [hw2];exact below3 w _ _ _
 obtain ⟨w4,hw4⟩:∃ w4,w4=w2.alloc (.cells #[ptrV B] 30):=⟨_,rfl⟩
 have hb24:Below w2.heap.size w2 w4:=by rw [hw4];exact below1 w2 _
 have hc4:Boxed w4 w2.heap.size 30 (ptrV B):=by rw [hw4];exact Boxed.new w2 _ _
 have hB4:=below_nx hB2 hb24 (Nat.le_refl _)
 have hF4:=hF2.below hb24
 have hcell4:=World.grownBy.cell (grown_below hB4) hcell (by simp)
 have hrow4:=hrow.kept (grown_below hB4) (by cases vT.ownBlock <;> simp)
 have hsz:w.heap.size+2<w4.heap.size:=hF4.is.lt
 have hra:=all_any (some ⟨B,0,none⟩) w2
 rw [<- hw4] at hra
 refine (callsIn_wide (n:=4)).1 ?_
 refine callsIn_of_wp_marks Tryz.func20 rfl trivial ?_ rfl
 simp only [Tryz.ntmps20,List.size_toArray,List.length_cons,List.length_nil,Nat.reduceAdd,Nat.reduceSub,Array.replicate_succ,Array.replicate_zero,List.push_toArray,List.append_toArray,List.nil_append,List.cons_append]
 clear hcell hrow hF2
 refine wpIn_wide.2 ?_
 go_wp2_with fail
 rw [show (#[.int .u8 0,.int .i64 0,.int .i64 0,.int .i64 0,.int .i64 0,.int .i64 0,.int .i64 0,.int .i64 0,.int .i64 0,.int .i64 0,.int .i64 0]:Array Value)=plaA Pla.zero from rfl, <- hw2]
 clear hw2
 refine hra.mono ?_
 rintro e w4 ⟨rfl,rfl⟩
 go_wp2_with fail
 rw [<- hw4]
 clear hra hw4
 refine (wpIn_wide (n:=4)).1 ?_
 refine wpIn_rangeFunc_ownH rfl (by omega) (gf:=87) (lb:=#[.pointer (some ⟨w2.heap.size,0,none⟩)]) rfl trivial (enters_of Tryz.func87 (by kernel_rfl) rfl)
  (all_stops hc4 hcell4 hrow4 hl (Below.refl _ _)) (fun h k=>h.trans k) (fun W l o o' hl ho hc hw=>belowK_b (Nat.le_refl _) W l o o' hl ho hc hw) (Below.refl _ _) (fun _=>rfl)
  (fun pre W=>Below w4.heap.size w4 W/\Hid (∀ x ∈ pre,(x.1:Int) ≠ t))
  (fun c pre W=>∃ y:Pla,Tkr W w.heap.size t y true/\Below w.heap.size w W/\c=.ret/\Hid (∃ p k,pre=p ++ [(k,y)]/\((k:Nat):Int)=t))
  (OwnFrom.and (ownFrom_below (Nat.le_refl _) (Nat.le_refl _)) (fun _ _ _ _ h _ _=>h))
  (fun c s W W' row ⟨y,hy,hb,r⟩ hg hr=>⟨y,tkr_abides w.heap.size t (fun _:Unit=>y) true _ () W W' row hy hg hr,ownFrom_below (β:=Unit) (Nat.le_refl _) hB4.size () W W' row hb hg hr,r⟩)
  ⟨Below.refl _ _,Lib.hid (by simp)⟩
  (fun x a' W=>∃ X,a' = { tmps:=#[ptrV B,.int .i64 t,undef,.pointer (some ⟨w.heap.size,0,none⟩),.pointer (some ⟨w.heap.size+1,0,none⟩),.pointer (some ⟨w.heap.size+2,0,none⟩),.int .i64 (x.1:Int),.pointer (some ⟨X,0,none⟩),ptrV B,.func (.func 87) #[] #[.pointer (some ⟨w2.heap.size,0,none⟩)],.int .i64 (x.1:Int),plaV x.2,undef,undef,undef,undef,undef],defers:=[] }/\PlAt W X x.2/\w4.heap.size<=X) ?abides ?assign ?body ?done ?stop
 case abides=>
  intro x a' u W W' row hs hg hr
  obtain ⟨X,h1,h2,h3⟩:=hs
  exact ⟨X,h1,plAt_abides X (fun _:Unit=>x.2) _ () W W' row h2 hg hr,h3⟩
 case assign=>
  rintro l pre ⟨j,x⟩ W K ⟨hB,HN⟩ hK
  simp only [encT] at hK ⊢
  gi_wp2
  exact hK _ _ ((KeepsOthers.alloc W _).from _) ((below1 W _).mono hB.size) ⟨Mch.Below.al hB hB.size _,HN⟩ ⟨_,rfl,blk_new W _ _,hB.size⟩
 case body=>
  rintro l pre ⟨j,x⟩ a' W hl2 hr ⟨hB,HN⟩ ⟨X,rfl,hX,hXl⟩ hlt
  have hF:=hF4.below hB
  have hBw:=below_nx hB4 hB (Nat.le_refl _)
  have tc:=hF.tb.cell
  obtain ⟨c0,c1,c2,c3,c4,c5,c6,c7,c8,c9,c10⟩:=pla_cells hX
  obtain ⟨k0,k1,k2,k3,k4,k5,k6,k7,k8,k9,k10⟩:=pla_cells hF.it
  have k11:=hF.is.cell
  have f0:=hF.it.frozen
  have f1:=hF.is.frozen
  have hn0:X ≠ w.heap.size+1:=by omega
  have hn1:X ≠ w.heap.size+2:=by omega
  simp only
  by_cases hj:(j:Int)=t
  ·have t0:((j:Int) == t)=true:=beq_iff_eq.2 hj
   have HX:Hid (∃ p k,pre ++ [(j,x)]=p ++ [(k,x)]/\((k:Nat):Int)=t):=Lib.hid ⟨pre,j,rfl,hj⟩
   have E1:=hF.set x true
   have E2:=setTk_below hBw (Nat.le_refl _) (Nat.le_refl _) x true
   have E3:=(setTk_others W w.heap.size x true).from w4.heap.size
   clear hj
   gi_wp2
   exact ⟨E3,x,E1,E2,rfl,HX⟩
  ·have t0:((j:Int) == t)=false:=beq_eq_false_iff_ne.2 hj
   have HN2:Hid (∀ y ∈ pre ++ [(j,x)],((y:Nat × Pla).1:Int) ≠ t):=Lib.hid (fun y hy=>by
    rcases List.mem_append.1 hy with hy | hy
    ·exact HN.out y hy
    ·obtain rfl:=List.mem_singleton.1 hy;exact hj)
   clear hj
   gi_wp2
   exact ⟨KeepsFrom.refl _ _,Below.refl _ _,hB,Lib.hid (fun a b hab=>HN2.out (a,b) hab)⟩
 case done=>
  rintro D ys W hD hys ⟨hB,HN⟩ hK
  have HE:Hid (Value.tuple #[plaV Pla.zero,.bool false]=F0):=Lib.hid (by
   rw [HF.out]
   by_cases h0:0<=t
   ·rw [if_pos h0,task_not (by rw [<- show ys=enumT T from hys];exact HN.out) h0];rfl
   ·rw [if_neg h0];rfl)
  clear hys HF
  have hF:=hF4.below hB
  have hBw:=below_nx hB4 hB (Nat.le_refl _)
  obtain ⟨k0,k1,k2,k3,k4,k5,k6,k7,k8,k9,k10⟩:=pla_cells hF.it
  have k11:=hF.is.cell
  have f0:=hF.it.frozen
  have f1:=hF.is.frozen
  have E1:=hF.set Pla.zero false
  have E2:=setTk_below hBw (Nat.le_refl _) (Nat.le_refl _) Pla.zero false
  have E3:=(setTk_others W w.heap.size Pla.zero false).same D _ hK rfl
  go_wp2_with fail
  exact task_end F0 w _ D (by omega) t Pla.zero false _ _ _ _ _ _ _ _ _ _ _ _ _ _ E1 E2 E3 HE
 case stop=>
  rintro D c pre W hD hpre ⟨y,hF,hB,rfl,HX⟩ hK
  have HE:Hid (Value.tuple #[plaV y,.bool true]=F0):=Lib.hid (by
   obtain ⟨p,k,rfl,hk⟩:=HX.out
   obtain ⟨h0,h1⟩:=task_found hpre hk
   rw [HF.out,if_pos h0,h1];rfl)
  clear hpre HX HF
  gi_wp2
  exact task_end F0 w W D (by omega) t y true _ _ _ _ _ _ _ _ _ _ _ _ _ _ hF hB hK HE
open Go.RowKit Go.Shelf
open Ent (En)
open Mch (Wt Gt whatK putL Chn Frm Fw Fl grown_below below1 below_nx owns_slice' boxed_below)
attribute [local go_sem] Oper.semAt_some
theorem tasks_any {o:Nat->Nat} {B:Nat} {M:Mod} (w:World) (h:Md w o B M) (hl:M.T.length<=1000) :
  Calls Tryz.prog 21 #[ptrV B] w fun e w'=>e=.returned (.int .i64 (M.T.length:Int))/\Below w.heap.size w w':=by
 obtain ⟨lo,hi,v1,v2,v3,vT,vC,Cs,h⟩:=h
 have hcell:=h.tk
 have hrow:=h.tasks
 obtain ⟨T,hT⟩:∃ T,T=M.T:=⟨_,rfl⟩
 rw [<- hT] at hrow hl ⊢
 clear hT h
 obtain ⟨w2,hw2⟩:∃ w2,w2=w.alloc (.cells #[.int .i64 0] 3):=⟨_,rfl⟩
 have hn2:Boxed w2 w.heap.size 3 (.int .i64 0):=by rw [hw2];exact Boxed.new w _ _
 have hB2:Below w.heap.size w w2:=by rw [hw2];exact below1 w _
 obtain ⟨w4,hw4⟩:∃ w4,w4=w2.alloc (.cells #[ptrV B] 30):=⟨_,rfl⟩
 have hb24:Below w2.heap.size w2 w4:=by rw [hw4];exact below1 w2 _
 have hc4:Boxed w4 w2.heap.size 30 (ptrV B):=by rw [hw4];exact Boxed.new w2 _ _
 have hB4:=below_nx hB2 hb24 (Nat.le_refl _)
 have hn4:=boxed_below hn2 hb24
 have hsz:w.heap.size<w4.heap.size:=hn4.lt
 have hra:=all_any (some ⟨B,0,none⟩) w2
 rw [<- hw4] at hra
 refine (callsIn_wide (n:=4)).1 ?_
 refine callsIn_of_wp_marks Tryz.func21 rfl trivial ?_ rfl
 simp only [Tryz.ntmps21,List.size_toArray,List.length_cons,List.length_nil,Nat.reduceAdd,Nat.reduceSub,Array.replicate_succ,Array.replicate_zero,List.push_toArray,List.append_toArray,List.nil_append,List.cons_append]
 clear hn2
 refine wpIn_wide.2 ?_
 go_wp2_with fail
 rw [<- hw2]
 clear hw2
 refine hra.mono ?_
 rintro e w4 ⟨rfl,rfl⟩
 go_wp2_with fail
 rw [<- hw4]
 clear hra hw4
 refine (wpIn_wide (n:=4)).1 ?_
 refine wpIn_rangeFunc_ownH rfl (by omega) (gf:=87) (lb:=#[.pointer (some ⟨w2.heap.size,0,none⟩)]) rfl trivial (enters_of Tryz.func87 (by kernel_rfl) rfl)
  (all_stops hc4 hcell hrow hl hB4) (fun h k=>h.trans k) (fun W l o o' hl ho hc hw=>belowK_b (by omega) W l o o' hl ho hc hw) (Below.refl _ _) (fun _=>rfl)
  (fun pre W=>Boxed W w.heap.size 3 (.int .i64 (pre.length:Int))/\Below w.heap.size w W/\pre.length<=1000)
  (fun _ _ _=>False)
  (OwnFrom.and (Mch.boxed_abides w.heap.size 3 (fun pre:List (Nat × Pla)=>.int .i64 (pre.length:Int)) _) (OwnFrom.and (ownFrom_below (Nat.le_refl _) hB4.size) (fun _ _ _ _ h _ _=>h)))
  (fun _ _ _ _ _ hs _ _=>hs)
  ⟨hn4,hB4,by simp⟩
  (fun x a' W=>a' = { tmps:=#[ptrV B,undef,.pointer (some ⟨w.heap.size,0,none⟩),ptrV B,.func (.func 87) #[] #[.pointer (some ⟨w2.heap.size,0,none⟩)],.int .i64 (x.1:Int),plaV x.2,undef,undef,undef],defers:=[] }) ?abides ?assign ?body ?done ?stop
 case abides=>
  intro x a' u W W' row hs hg hr
  exact hs
 case assign=>
  rintro l pre ⟨j,x⟩ W K ⟨hn,hB,hl2⟩ hK
  simp only [encT] at hK ⊢
  gi_wp2
  exact hK _ _ (KeepsFrom.refl _ _) (Below.refl _ _) ⟨hn,hB,hl2⟩ (by simp)
 case body=>
  rintro l pre ⟨j,x⟩ a' W hl2 hr ⟨hn,hB,hpl⟩ rfl hlt
  have nc:=hn.cell
  have nf:=hn.frozen
  have hw:wrap64 ((pre.length:Int)+1)=(pre.length:Int)+1:=by have:=IntKind.wrap_i64 ((pre.length:Int)+1);unfold wrap64;omega
  have E1:=hn.set (.int .i64 ((pre.length:Int)+1))
  have E2:=hB.setCell (p:=⟨w.heap.size,0,none⟩) (Nat.le_refl _) (.int .i64 ((pre.length:Int)+1))
  have E3:=(KeepsOthers.setCell W ⟨w.heap.size,0,none⟩ (.int .i64 ((pre.length:Int)+1))).from w4.heap.size
  have E4:=(Below.refl w.heap.size W).setCell (p:=⟨w.heap.size,0,none⟩) (Nat.le_refl _) (.int .i64 ((pre.length:Int)+1))
  have hlen:(pre ++ [(j,x)]).length<=1000:=by simp;omega
  gi_wp2
  exact ⟨E3,E4,by simpa using E1,E2,by simpa using hlen⟩
 case done=>
  rintro D ys W hD hys ⟨hn,hB,hl2⟩ hK
  have HL:Hid ((ys.length:Int)=(T.length:Int)):=Lib.hid (by rw [show ys=enumT T from hys,enumT_len])
  clear hys
  have nc:=hn.cell
  have nf:=hn.frozen
  have E1:=hn.set (.int .i64 (ys.length:Int))
  have E2:=hB.setCell (p:=⟨w.heap.size,0,none⟩) (Nat.le_refl _) (.int .i64 (ys.length:Int))
  have E3:=(KeepsOthers.setCell W ⟨w.heap.size,0,none⟩ (.int .i64 (ys.length:Int))).same D _ hK rfl
  go_wp2_with fail
  generalize W.setCell ⟨w.heap.size,0,none⟩ (.int .i64 (ys.length:Int))=W1 at E1 E2 E3 ⊢
  refine ⟨by simp,.inl ⟨_,_,rfl,run_takeDeferred E3,?_⟩⟩
  have hc5:=cell_kept E1.cell (grownBy_putObj' _ D (.deferred none)) (fun r e=>by cases e;exact ⟨_,E3,rfl⟩)
  refine ⟨.int .i64 (ys.length:Int),?_,by rw [HL.out],E2.trans (belowK_b (w:=w) (Nat.le_refl _) _ D _ _ (by omega) E3 rfl rfl)⟩
  simp [results,Tryz.f21,go_sem,hc5]
 case stop=>
  rintro D c pre W _ _ h _
  exact h.elim
theorem chan_any {o:Nat->Nat} {B:Nat} {M:Mod} (i:Nat) (w:World) (h:Md w o B M) (hiC:i<M.C.length) (hS:(M.ch i).S.length<=900) (hR:(M.ch i).R.length<=900) :
  Calls Tryz.prog 10 #[ptrV B,.int .i64 (i:Int)] w fun e w'=>∃ D,e=.returned (ptrV D)/\Chn w' (fun k=>w.heap.size<=k) D (M.ch i).m (M.ch i).cl (M.ch i).buf (M.ch i).S (M.ch i).R/\Below w.heap.size w w':=by
 obtain ⟨lo,hi,v1,v2,v3,vT,vC,Cs,h⟩:=h
 obtain ⟨C,g,cap,hC,rfl,hc,hch⟩:=h.chan hiC
 have hcell:=h.cn
 have hlen:i<Cs.length:=(List.getElem?_eq_some_iff.1 hC).1
 have q0:(0:Int)<=(i:Int):=by omega
 have q1 : ¬ (i:Int)<0:=by omega
 have q2:(i:Int)<(Cs.length:Int):=by omega
 have q3 : ¬ (Cs.length:Int)<=(i:Int):=by omega
 have q4:decide ((i:Int)<0)=false:=by simp
 have q5:decide ((Cs.length:Int)<=(i:Int))=false:=by simp;omega
 have hcp:=Mch.ccopy_any w hch (by omega) (by omega)
 clear h hch hC
 go_enter Tryz.func10,Tryz.ntmps10
 go_wp2_with fail
 refine hcp.mono ?_
 rintro e w' ⟨D,rfl,hD,hb⟩
 go_wp2_with fail
 go_ret
 exact ⟨D,rfl,hD,hb⟩
open Go.RowKit
open Mch (grown_below below1 below_nx owns_slice' boxed_below)
def standDefer (E:Nat):List Deferred:=[{ target:=Target.fn (.func 116) #[.pointer (some ⟨E,0,none⟩)],args:=#[] }]
theorem stand_dies (w w1:World) (T:Array Value) (k x0:Int) (f:Fra) (h4:T[4]?.getD undef=.pointer (some ⟨w.heap.size,0,none⟩)) (h5:T[5]?.getD undef=.pointer (some ⟨w.heap.size+1,0,none⟩))
  (hB:Below w.heap.size w w1) (hF:FrAt w1 w.heap.size f) (hE:Boxed w1 (w.heap.size+1) 31 (.int .i64 x0)) :
  bodyPostD Tryz.prog Tryz.f81 (fun e w'=>e=.returned (.tuple #[fraV f,.int .i64 k])/\Below w.heap.size w w') (.panic [{ v:=.iface 68 (.agg #[.int .i64 k]),recovered:=false }]) { tmps:=T,defers:=standDefer (w.heap.size+1) } w1:=by
 refine leaves_cons (f:=116) (args:=#[.pointer (some ⟨w.heap.size+1,0,none⟩)]) (by simp) (by simp [go_sem]) ?_
 refine (stand_caught (w.heap.size+1) k [] w1 x0 hE).mono ?_
 rintro e' u' w'' ⟨rfl,rfl,hE',hbt⟩
 have q:=hE'.cell
 obtain ⟨c0,c1,c2,c3,c4,c5,c6,c7,c8,c9⟩:=fra_cells (but_on hF hbt (by simp))
 have hbb:Below w.heap.size w w'':=hB.trans (hbt.below hB.size (by simp))
 simp [Leaves,settle,results,Tryz.f81,go_sem,h4,h5,q,c0,c1,c2,c3,c4,c5,c6,c7,c8,c9,hbb]
theorem stand_ends (w w1:World) (T:Array Value) (k:Int) (f:Fra) (h4:T[4]?.getD undef=.pointer (some ⟨w.heap.size,0,none⟩)) (h5:T[5]?.getD undef=.pointer (some ⟨w.heap.size+1,0,none⟩))
  (hB:Below w.heap.size w w1) (hF:FrAt w1 w.heap.size f) (hE:Boxed w1 (w.heap.size+1) 31 (.int .i64 k)) :
  bodyPostD Tryz.prog Tryz.f81 (fun e w'=>e=.returned (.tuple #[fraV f,.int .i64 k])/\Below w.heap.size w w') .ret { tmps:=T,defers:=standDefer (w.heap.size+1) } w1:=by
 refine leaves_cons (f:=116) (args:=#[.pointer (some ⟨w.heap.size+1,0,none⟩)]) (by simp) (by simp [go_sem]) ?_
 refine (stand_idle (w.heap.size+1) w1).mono ?_
 rintro e' u' w'' ⟨rfl,rfl,hbt⟩
 have q:=(boxed_below hE hbt).cell
 obtain ⟨c0,c1,c2,c3,c4,c5,c6,c7,c8,c9⟩:=fra_cells (hF.later hbt hF.lt)
 have hbb:Below w.heap.size w w'':=below_next hB hbt (Nat.le_refl _)
 simp [Leaves,settle,results,Tryz.f81,go_sem,h4,h5,q,c0,c1,c2,c3,c4,c5,c6,c7,c8,c9,hbb]
theorem stand_none {o:Nat->Nat} {B:Nat} {M:Mod} (t:Int) (w:World) (h:Md w o B M) (hl:M.T.length<=1000) (hn:∀ x,M.task t=some x->x.s ≠ 1) :
  Calls Tryz.prog 81 #[ptrV B,.int .i64 t] w fun e w'=>e=.returned (.tuple #[fraV Fra.zero,.int .i64 3])/\Below w.heap.size w w':=by
 obtain ⟨w2,hw2⟩:∃ w2,w2=(w.alloc (.cells (fraA Fra.zero) 61)).alloc (.cells #[.int .i64 0] 31):=⟨_,rfl⟩
 have hB2:Below w.heap.size w w2:=by rw [hw2];exact below2 w _ _
 have hF2:FrAt w2 w.heap.size Fra.zero:=by rw [hw2];exact (blk_new w _ _).alloc _
 have hE2:Boxed w2 (w.heap.size+1) 31 (.int .i64 0):=by
  have h1:=Boxed.new (w.alloc (.cells (fraA Fra.zero) 61)) 31 (.int .i64 0)
  rw [World.size_alloc] at h1
  rw [hw2];exact h1
 have htk:=task_any t w2 (h.below hB2) hl
 obtain ⟨y,hy⟩:∃ y,y=(M.task t).getD Pla.zero:=⟨_,rfl⟩
 obtain ⟨b,hb⟩:∃ b,b=(M.task t).isSome:=⟨_,rfl⟩
 have hys:b=true->y.s ≠ 1:=fun e=>by
  cases hx:M.task t with
  | none=>rw [hb,hx] at e;cases e
  | some x=>rw [hy,hx];exact hn x hx
 rw [<- hy, <- hb] at htk
 have hmf:∀ (fn:Fn) (first cap:Array Value) (w:World),(Instr.makeFunc fn first cap).run Tryz.prog w=.ok (.func fn first cap) w:=fun _ _ _ _=>rfl
 clear hy hb h hn
 go_enter_defers Tryz.func81,Tryz.ntmps81
 go_wp2_with fail
 rw [show (#[.int .i64 0,.int .i64 0,.int .i64 0,.int .i64 0,.int .i64 0,.int .i64 0,.int .i64 0,.int .i64 0,.int .i64 0,.int .i64 0]:Array Value)=fraA Fra.zero from rfl, <- hw2]
 clear hw2
 refine (mneed_ok 1 w2).mono ?_
 rintro e w2 ⟨rfl,rfl⟩
 go_wp2_with fail
 refine htk.mono ?_
 rintro e w3 ⟨rfl,hb3⟩
 obtain ⟨w4,hw4⟩:∃ w4,w4=w3.alloc (.cells (plaA y) 63):=⟨_,rfl⟩
 have hb4:Below w2.heap.size w2 w4:=by rw [hw4];exact Mch.Below.al hb3 hb3.size _
 have hX:PlAt w4 w3.heap.size y:=by rw [hw4];exact blk_new w3 _ _
 have c0:=(pla_cells hX).1
 have hF4:=hF2.later hb4 hF2.lt
 have hE4:=boxed_below hE2 hb4
 have hB4:=below_nx hB2 hb4 (Nat.le_refl _)
 have hwe:w4=w3.alloc (.cells #[.int .u8 (y.s:Int),.int .i64 y.f.c,.int .i64 y.f.p,.int .i64 y.f.r0,.int .i64 y.f.r1,.int .i64 y.f.r2,.int .i64 y.f.r3,.int .i64 y.f.r4,.int .i64 y.f.r5,.int .i64 y.f.r6,.int .i64 y.f.r7] 63):=hw4
 rw [hw4] at c0
 have HW:=Lib.hid hw4
 clear hw4 hwe htk hF2 hE2 hb3 hb4 hX
 cases b with
 | true=>
  have hn1:((y.s:Int) == 1)=false:=by have:=hys rfl;simp;omega
  clear hys
  go_wp2_with fail
  rw [<- HW.out]
  refine (mneed_bad 3 w4).mono ?_
  rintro e w4 ⟨rfl,rfl⟩
  go_wp2_with fail
  exact stand_dies w _ _ 3 0 Fra.zero rfl rfl hB4 hF4 hE4
 | false=>
  clear hys
  go_wp2_with fail
  rw [<- HW.out]
  refine (mneed_bad 3 w4).mono ?_
  rintro e w4 ⟨rfl,rfl⟩
  go_wp2_with fail
  exact stand_dies w _ _ 3 0 Fra.zero rfl rfl hB4 hF4 hE4
theorem stand_runs {o:Nat->Nat} {B:Nat} {M:Mod} (t:Int) (w:World) (h:Md w o B M) (hl:M.T.length<=1000) (hm:checkW M.p=none) (hs:Small M.p) {y:Pla} (hy:M.task t=some y) (h1:y.s=1) {g:Fra} {q k:Int} (hr:runT M.p y.f 65536=(g,q,k)) :
  Calls Tryz.prog 81 #[ptrV B,.int .i64 t] w fun e w'=>e=.returned (.tuple #[fraV g,.int .i64 k])/\Below w.heap.size w w':=by
 obtain ⟨w2,hw2⟩:∃ w2,w2=(w.alloc (.cells (fraA Fra.zero) 61)).alloc (.cells #[.int .i64 0] 31):=⟨_,rfl⟩
 have hB2:Below w.heap.size w w2:=by rw [hw2];exact below2 w _ _
 have hF2:FrAt w2 w.heap.size Fra.zero:=by rw [hw2];exact (blk_new w _ _).alloc _
 have hE2:Boxed w2 (w.heap.size+1) 31 (.int .i64 0):=by
  have h1:=Boxed.new (w.alloc (.cells (fraA Fra.zero) 61)) 31 (.int .i64 0)
  rw [World.size_alloc] at h1
  rw [hw2];exact h1
 have htk:=task_any t w2 (h.below hB2) hl
 rw [hy] at htk
 simp only [Option.getD_some,Option.isSome_some] at htk
 have hn1:((y.s:Int) == 1)=true:=by rw [h1];rfl
 have HR:=Lib.hid hr
 have hmf:∀ (fn:Fn) (first cap:Array Value) (w:World),(Instr.makeFunc fn first cap).run Tryz.prog w=.ok (.func fn first cap) w:=fun _ _ _ _=>rfl
 clear hy hr h1
 go_enter_defers Tryz.func81,Tryz.ntmps81
 go_wp2_with fail
 rw [show (#[.int .i64 0,.int .i64 0,.int .i64 0,.int .i64 0,.int .i64 0,.int .i64 0,.int .i64 0,.int .i64 0,.int .i64 0,.int .i64 0]:Array Value)=fraA Fra.zero from rfl, <- hw2]
 clear hw2
 refine (mneed_ok 1 w2).mono ?_
 rintro e w2 ⟨rfl,rfl⟩
 go_wp2_with fail
 refine htk.mono ?_
 rintro e w3 ⟨rfl,hb3⟩
 obtain ⟨w4,hw4⟩:∃ w4,w4=w3.alloc (.cells (plaA y) 63):=⟨_,rfl⟩
 have hb4:Below w2.heap.size w2 w4:=by rw [hw4];exact Mch.Below.al hb3 hb3.size _
 have hX:PlAt w4 w3.heap.size y:=by rw [hw4];exact blk_new w3 _ _
 have c0:=(pla_cells hX).1
 have hF4:=hF2.later hb4 hF2.lt
 have hE4:=boxed_below hE2 hb4
 have hB4:=below_nx hB2 hb4 (Nat.le_refl _)
 obtain ⟨lo,hi,v1,v2,v3,vT,vC,Cs,hM⟩:=h.below hB4
 rw [hw4] at c0
 have HW:=Lib.hid hw4
 clear hw4 htk hF2 hE2 hb3 hb4 h
 go_wp2_with fail
 rw [<- HW.out] at c0 ⊢
 clear HW
 refine (mneed_ok 3 w4).mono ?_
 rintro e w4 ⟨rfl,rfl⟩
 have m0:=hM.p1
 have m1:=hM.p2
 have m2:=hM.p3
 obtain ⟨x0,x1,x2,x3,x4,x5,x6,x7,x8,x9,x10⟩:=pla_cells hX
 have hrun:=run_any w4.drew hM.drew.prog hs hm y.f 65536
 rw [HR.out] at hrun
 have hkF:∀ W,Below w4.drew.heap.size w4.drew W->FrAt W w.heap.size Fra.zero:=fun W hb=>Blk.later (show Blk w4.drew w.heap.size _ _ from hF4) hb hF4.lt

 have d0:w4.drew.cell? ⟨B,0,none⟩=_:=m0
 have d1:w4.drew.cell? ⟨B,1,none⟩=_:=m1
 have d2:w4.drew.cell? ⟨B,2,none⟩=_:=m2
 have y1:w4.drew.cell? ⟨w3.heap.size,1,none⟩=_:=x1
 have y2:w4.drew.cell? ⟨w3.heap.size,2,none⟩=_:=x2
 have y3:w4.drew.cell? ⟨w3.heap.size,3,none⟩=_:=x3
 have y4:w4.drew.cell? ⟨w3.heap.size,4,none⟩=_:=x4
 have y5:w4.drew.cell? ⟨w3.heap.size,5,none⟩=_:=x5
 have y6:w4.drew.cell? ⟨w3.heap.size,6,none⟩=_:=x6
 have y7:w4.drew.cell? ⟨w3.heap.size,7,none⟩=_:=x7
 have y8:w4.drew.cell? ⟨w3.heap.size,8,none⟩=_:=x8
 have y9:w4.drew.cell? ⟨w3.heap.size,9,none⟩=_:=x9
 have y10:w4.drew.cell? ⟨w3.heap.size,10,none⟩=_:=x10
 go_wp2_with fail
 go_cut [4,5,8,9] from 27 to 37 (fun fv ev nv kv W=>fv=.pointer (some ⟨w.heap.size,0,none⟩)/\ev=.pointer (some ⟨w.heap.size+1,0,none⟩)/\kv=.int .i64 k/\FrAt W w.heap.size g/\Boxed W (w.heap.size+1) 31 (.int .i64 0)/\Below w.heap.size w W)
 case first=>
  refine Mch.wp_onlyN ?_
  go_region_with (go_at_call 117;with_reducible refine hrun.mono ?_;rintro e w5 ⟨rfl,hb5⟩;have hF5:=hkF w5 hb5;obtain ⟨z0,z1,z2,z3,z4,z5,z6,z7,z8,z9⟩:=fra_cells hF5;have zf:=hF5.frozen)
  all_goals simp only [Mch.onlyN]
  all_goals go_wp2_with fail
  all_goals go_meet
  all_goals obtain ⟨E1,E2⟩:=sto10 hF5 (.int .i64 g.c) (.int .i64 g.p) (.int .i64 g.r0) (.int .i64 g.r1) (.int .i64 g.r2) (.int .i64 g.r3) (.int .i64 g.r4) (.int .i64 g.r5) (.int .i64 g.r6) (.int .i64 g.r7)
  all_goals have hE5:Boxed w5 (w.heap.size+1) 31 (.int .i64 0):=boxed_below (show Boxed w4.drew (w.heap.size+1) _ _ from hE4) hb5
  all_goals have hB5:Below w.heap.size w w5:=hB4.drew.trans (hb5.mono (show w.heap.size<=w4.heap.size from hB4.size))
  all_goals exact ⟨rfl,rfl,rfl,E1,E2.boxed hE5 (by simp),hB5.trans (E2.below hB5.size (by simp))⟩
 case rest=>
  obtain ⟨rfl,rfl,rfl,hF,hE,hB⟩:=hcut
  clear hrun hkF HR hM hX m0 m1 m2 x0 x1 x2 x3 x4 x5 x6 x7 x8 x9 x10 d0 d1 d2 y1 y2 y3 y4 y5 y6 y7 y8 y9 y10 c0
  by_cases hk:k=0
  ·subst hk
   obtain ⟨z0,z1,z2,z3,z4,z5,z6,z7,z8,z9⟩:=fra_cells hF
   have zf:=hF.frozen
   have ec:=hE.cell
   have ef:=hE.frozen
   obtain ⟨E1,E2⟩:=sto10 hF (.int .i64 g.c) (.int .i64 g.p) (.int .i64 g.r0) (.int .i64 g.r1) (.int .i64 g.r2) (.int .i64 g.r3) (.int .i64 g.r4) (.int .i64 g.r5) (.int .i64 g.r6) (.int .i64 g.r7)
   have hE2:=(E2.boxed hE (by simp)).set (.int .i64 0)
   have hF2:=E1.beside (p:=⟨w.heap.size+1,0,none⟩) (by simp) (.int .i64 0)
   have hB2':=(hB.trans (E2.below hB.size (by simp))).setCell (p:=⟨w.heap.size+1,0,none⟩) (by simp) (.int .i64 0)
   go_wp2_with fail
   refine (mneed_ok 0 wc).mono ?_
   rintro e wc ⟨rfl,rfl⟩
   go_wp2_with fail
   exact stand_ends w _ _ 0 g rfl rfl hB2' hF2 hE2
  ·have hk':(k == 0)=false:=by simpa using hk
   clear hk
   go_wp2_with fail
   refine (mneed_bad k wc).mono ?_
   rintro e wc ⟨rfl,rfl⟩
   go_wp2_with fail
   exact stand_dies w wc _ k 0 g rfl rfl hB hF hE
theorem stand_any {o:Nat->Nat} {B:Nat} {M:Mod} (t:Int) (w:World) (h:Md w o B M) (hl:M.T.length<=1000) (hm:checkW M.p=none) (hs:Small M.p) :
  Calls Tryz.prog 81 #[ptrV B,.int .i64 t] w fun e w'=>e=.returned (.tuple #[fraV (M.stand t).1,.int .i64 (M.stand t).2])/\Below w.heap.size w w':=by
 unfold Mod.stand
 cases hy:M.task t with
 | none=>exact stand_none t w h hl (fun x hx=>by rw [hy] at hx;cases hx)
 | some y=>
  by_cases h1:y.s=1
  ·simp only [h1,if_true]
   exact stand_runs t w h hl hm hs hy h1 rfl
  ·simp only [h1,if_false]
   exact stand_none t w h hl (fun x hx=>by rw [hy] at hx;cases hx;exact h1)
open Go.RowKit
open Mch (Chn Frm Fw Fl)
theorem owns_set {W:World} {b:Nat} {e:TypeId} {s n:Nat} {v:Value} {xs:List Value} {g:Nat} (h:W.ownsRow b e s v n xs) (hv:v.ownBlock=some g) (k:Nat) (u:Value) :
  (W.setCell ⟨g,k,none⟩ u).ownsRow b e s v n (xs.set k u):=by
 obtain ⟨hl,h⟩:=h
 refine ⟨by rw [List.length_set];exact hl,?_⟩
 rcases h with ⟨rfl,_⟩ | ⟨g',cap,cur,rfl,hg,hb,h1,h2,h3,h4⟩
 ·simp [Value.ownBlock] at hv
 ·obtain rfl:g'=g:=by simpa [Value.ownBlock] using hv
  refine .inr ⟨g',cap,cur.setIfInBounds k u,rfl,hg,heap_set_same u hb,h1,h2,by simpa using h3,?_⟩
  rw [<- h4,Array.toList_setIfInBounds,List.take_set]
def putFrom (W:World) (g:Nat):Nat->List Value->World
 | _,[]=>W
 | k,c::cs=>putFrom (W.setCell ⟨g,k,none⟩ c) g (k+1) cs
def setFrom {β:Type}:List β->Nat->List β->List β
 | xs,_,[]=>xs
 | xs,k,c::cs=>setFrom (xs.set k c) (k+1) cs
theorem setFrom_eq {β:Type} (cs:List β):∀ (xs:List β) (k:Nat),k+cs.length<=xs.length->setFrom xs k cs=xs.take k ++ cs ++ xs.drop (k+cs.length):=by
 induction cs with
 | nil=>intro xs k _;simp [setFrom]
 | cons c cs ih=>
  intro xs k h
  rw [List.length_cons] at h
  rw [setFrom,ih _ _ (by rw [List.length_set];omega),List.length_cons]
  have h1:(xs.set k c).take (k+1)=xs.take k ++ [c]:=by
   rw [List.take_add_one,List.getElem?_set_self (by omega),List.take_set_of_le (Nat.le_refl _)];rfl
  have h2:(xs.set k c).drop (k+1+cs.length)=xs.drop (k+(cs.length+1)):=by
   rw [List.drop_set_of_lt (by omega)];congr 1;omega
  rw [h1,h2]
  simp
theorem owns_putFrom {b:Nat} {e:TypeId} {s n:Nat} {v:Value} {g:Nat} (hv:v.ownBlock=some g) (cs:List Value):∀ {W:World} {xs:List Value} (k:Nat),W.ownsRow b e s v n xs->
  (putFrom W g k cs).ownsRow b e s v n (setFrom xs k cs):=by
 induction cs with
 | nil=>intro W xs k h;exact h
 | cons c cs ih=>intro W xs k h;exact ih _ (owns_set h hv k c)
theorem putFrom_frm {g:Nat} {F:Nat->Prop} (hF:F g) (cs:List Value):∀ (W:World) (k:Nat),Frm F W (putFrom W g k cs):=by
 induction cs with
 | nil=>intro W k;exact Frm.refl _ _
 | cons c cs ih=>intro W k;exact Mch.Frm.trans_new (Mch.Frm.set (p:=⟨g,k,none⟩) W c hF) (ih _ _) (fun i hi=>.inl hi)
theorem flat_set {α:Type} (f:α->List Value) (n:Nat) (hf:∀ x,(f x).length=n) (x:α):∀ (l:List α) (i:Nat),i<l.length->(l.set i x).flatMap f=setFrom (l.flatMap f) (i * n) (f x):=by
 intro l i hi
 rw [setFrom_eq _ _ _ (by rw [flat_len f n hf,hf];have:=Nat.mul_le_mul_right n hi;rw [Nat.succ_mul] at this;exact this)]
 induction l generalizing i with
 | nil=>simp at hi
 | cons y t ih=>
  cases i with
  | zero=>
   simp only [List.set_cons_zero,List.flatMap_cons,Nat.zero_mul,List.take_zero,List.nil_append,Nat.zero_add]
   rw [List.drop_append_of_le_length (by rw [hf,hf];exact Nat.le_refl _),List.drop_of_length_le (by rw [hf,hf];exact Nat.le_refl _),List.nil_append]
  | succ i=>
   have hi':i<t.length:=by simpa using hi
   simp only [List.set_cons_succ,List.flatMap_cons]
   have e1:(f y ++ List.flatMap f t).take ((i+1) * n)=f y ++ (List.flatMap f t).take (i * n):=by
    rw [List.take_append,List.take_of_length_le (by rw [hf,Nat.succ_mul];omega),hf,Nat.succ_mul,Nat.add_sub_cancel]
   have e2:(f y ++ List.flatMap f t).drop ((i+1) * n+(f x).length)=(List.flatMap f t).drop (i * n+(f x).length):=by
    rw [List.drop_append,List.drop_of_length_le (by rw [hf,hf,Nat.succ_mul];omega),hf,hf,Nat.succ_mul,List.nil_append]
    congr 1;omega
   rw [ih i hi',e1,e2]
   simp
end Go.Proofs.YtnfbncgfpmcpnaaGreat.Mdl
