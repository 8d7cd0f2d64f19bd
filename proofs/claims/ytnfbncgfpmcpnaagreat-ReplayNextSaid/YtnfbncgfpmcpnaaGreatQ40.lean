/-
  ReplayNext: its walks, part 40.
-/
import Derived.Test.YtnfbncgfpmcpnaaGreatQ39
set_option maxRecDepth 100000
set_option maxHeartbeats 12800000
namespace Go.Proofs.YtnfbncgfpmcpnaaGreat.Mdl
open Go.RowKit Go.Shelf Go.Maps
open Ent (En EnRow okB)
open Mch (Frm below1 below_nx)
attribute [local go_sem] Oper.semAt_some
def lockE:Value->Option (DataW Value × List MemPlace):=fun v=>some (.held v,[])
theorem lockKey:keyOf Tryz.prog 3 (.int .i64 0)=some (.int .i64 0):=keyOf_int_mk Tryz.underlying3 (by
 have e1:IntKind.i64.min = -9223372036854775808:=rfl
 have e2:IntKind.i64.max=9223372036854775807:=rfl
 simp [Lit.wf,e1,e2])
theorem lockKeyed:Keyed Tryz.prog 3:=int_keyed Tryz.underlying3
def lockZ:Value:=.agg #[.int .u64 0,.slice none 0 0]
theorem lockZE (w:World):(zeroValue 201).run Tryz.prog w=.ok lockZ w:=by kernel_rfl
def EmptyAt (W:World) (M:Nat):Prop:=W.heap[M]?=some (.map #[] 0)
theorem EmptyAt.look {W:World} {M:Nat} (h:EmptyAt W M):(Instr.lookup 149 (.map (some M)) (.int .i64 0) true).run Tryz.prog W=.ok (.tuple #[lockZ,.bool false]) W:=by
 have hm:W.ownsMap Tryz.prog 3 lockE M 0 (.map []):=by
  obtain ⟨es,clock,h1,r⟩:=World.ownsMap_made W Tryz.prog 3 lockE
  have h2:=World.alloc_heap_new W (.map #[] 0)
  rw [h2] at h1
  simp only [Option.some.injEq,Obj.map.injEq] at h1
  obtain ⟨rfl,rfl⟩:=h1
  exact ⟨_,_,h,r⟩
 obtain ⟨v,ps,hrun,hv⟩:=hm.look_ok lockKeyed Tryz.underlying149 (lockZE W) (show lockE lockZ=some (.held lockZ,[]) from rfl) lockKey
 have h1:Maps.has (DataW.map []:DataW Value) (.int .i64 0)=false:=rfl
 have h2:(DataW.map []:DataW Value).atKey (.int .i64 0) (.held lockZ)=.held lockZ:=rfl
 simp only [lockE,Option.some.injEq,Prod.mk.injEq] at hv
 rw [h2] at hv
 have h3:v=lockZ:=by have:=hv.1;cases this;rfl
 rw [hrun,h1,h3]
theorem untrue_one (P:Nat) (a b:Value) (w:World) (h:Blk w P 151 #[a,b,.int .i64 1]) :
  Calls Tryz.prog 115 #[ptrV P,.int .i64 0] w fun e w'=>e=.returned (.tuple #[])/\w'=w.setCell ⟨P,2,none⟩ (.int .i64 0):=by
 have c2:w.cell? ⟨P,2,none⟩=some (.int .i64 1):=h.cell rfl
 have f2:=h.frozen 2
 go_enter Tryz.func115,Tryz.ntmps115
 go_wp2_with fail
 go_end0
 exact ⟨rfl,rfl⟩
def PollPost (w:World) (P:Nat) (e:Ending) (w':World):Prop:=e=.returned (.tuple #[])/\∃ w1,Below w.heap.size w w1/\w'=w1.setCell ⟨P,2,none⟩ (.int .i64 0)
theorem poll_one {w0:World} {o:Nat->Nat} {R A P M:Nat} (w:World) (hR:RnAt w0 o R A one0 w) (hP:Blk w P 151 #[ptrV R,.map (some M),.int .i64 1]) (hM:EmptyAt w M) :
  Calls Tryz.prog 78 #[ptrV P,.agg #[.int .i64 0,.int .u8 25,.int .i64 0,.int .i64 0,.int .i64 0,.int .i64 0,.int .i64 0,.int .i64 0,.int .i64 0,.int .i64 0,.bool false,.int .i64 0,.int .u64 0]] w (PollPost w P):=by
 obtain ⟨w1,hw1⟩:∃ w1,w1=w.alloc (.cells #[.int .i64 0,.int .u8 25,.int .i64 0,.int .i64 0,.int .i64 0,.int .i64 0,.int .i64 0,.int .i64 0,.int .i64 0,.int .i64 0,.bool false,.int .i64 0,.int .u64 0] 39):=⟨_,rfl⟩
 have hB1:Below w.heap.size w w1:=by rw [hw1];exact below1 w _
 have hX1:Blk w1 w.heap.size 39 #[.int .i64 0,.int .u8 25,.int .i64 0,.int .i64 0,.int .i64 0,.int .i64 0,.int .i64 0,.int .i64 0,.int .i64 0,.int .i64 0,.bool false,.int .i64 0,.int .u64 0]:=by rw [hw1];exact blk_new w _ _
 have hR1:=hR.below hB1
 have hP1:=hP.on hB1
 have hM1:EmptyAt w1 M:=(hB1.block M (Array.getElem?_eq_some_iff.1 hM).1).trans hM
 obtain ⟨X,hX⟩:∃ X,X=w.heap.size:=⟨_,rfl⟩
 have hS:∀ W':World,Below w1.drew.heap.size w1.drew W'->W'.cell? ⟨P,0,none⟩=some (ptrV R)/\W'.cell? ⟨R,0,none⟩=some (ptrV A)/\W'.cell? ⟨w.heap.size,3,none⟩=some (.int .i64 0):=fun W' hW'=>⟨(Blk.on (Blk.drew hP1) hW').cell rfl,(Blk.on (Blk.drew hR1.blk) hW').cell rfl,(Blk.on (Blk.drew hX1) hW').cell rfl⟩
 have hS0:=hS w1.drew (Below.refl _ _)
 have hbd:Below w1.heap.size w1 w1.drew:=(Below.refl _ _).drew
 have htk:=fun (W:World) (hW:Below w1.drew.heap.size w1.drew W)=>task_any 0 W ((hR1.below (Below.refl _ _).drew).run.md.below hW) (by rw [one_st];decide)
 obtain ⟨T,hT⟩:∃ T,T=(one0.M.task 0).getD Pla.zero:=⟨_,rfl⟩
 simp only [one_tk, <- hT] at htk
 clear hT
 go_enter Tryz.func78,Tryz.ntmps78
 go_upto_region 1 with fail
 rw [<- hw1, <- hX]
 rw [<- hX] at hX1 hS hS0
 clear hw1 hX
 refine wp_region_held_drew (S:=fun W'=>W'.cell? ⟨P,0,none⟩=some (ptrV R)/\W'.cell? ⟨R,0,none⟩=some (ptrV A)/\W'.cell? ⟨X,3,none⟩=some (.int .i64 0)) (by kernel_rfl) hS0 (fun hHeld=>?_)
 obtain ⟨wd,hwd⟩:∃ wd,wd=w1.drew:=⟨_,rfl⟩
 rw [<- hwd] at hS hS0 hbd htk hHeld ⊢
 clear hwd hS0
 refine takeD (i:=0) (d:=some 9) (v:=ptrV P) (by kernel_rfl) (by kernel_rfl) (by kernel_rfl) (by kernel_rfl) (fun _ _ _ h=>h) (fun oi h=>?_) hHeld ?_
 ·simp only [uA,uZ,Option.some.injEq] at h
  subst h
  refine Or.inl ⟨by rfl,fun w' hSw=>?_⟩
  obtain ⟨x0,x1,x2⟩:=hSw
  go_simp
 try simp only [Act.put,tA,tZ,tS]
 refine takeD (i:=1) (d:=some 10) (v:=ptrV P) (by kernel_rfl) (by kernel_rfl) (by kernel_rfl) (by kernel_rfl) (fun _ _ _ h=>h) (fun oi h=>?_) hHeld ?_
 ·simp only [uA,uS,uZ,Option.some.injEq] at h
  subst h
  refine Or.inl ⟨by rfl,fun w' hSw=>?_⟩
  obtain ⟨x0,x1,x2⟩:=hSw
  go_simp
 try simp only [Act.put,tA,tZ,tS]
 refine takeD (i:=2) (d:=some 11) (v:=.pointer (some ⟨P,0,none⟩)) (by kernel_rfl) (by kernel_rfl) (by kernel_rfl) (by kernel_rfl) (fun _ _ _ h=>h) (fun oi h=>?_) hHeld ?_
 ·simp only [uA,uS,uZ,Option.some.injEq] at h
  subst h
  refine Or.inl ⟨by rfl,fun w' hSw=>?_⟩
  obtain ⟨x0,x1,x2⟩:=hSw
  go_simp
 try simp only [Act.put,tA,tZ,tS]
 refine takeD (i:=3) (d:=some 12) (v:=ptrV R) (by kernel_rfl) (by kernel_rfl) (by kernel_rfl) (by kernel_rfl) (fun _ _ _ h=>h) (fun oi h=>?_) hHeld ?_
 ·simp only [uA,uS,uZ,Option.some.injEq] at h
  subst h
  refine Or.inl ⟨by rfl,fun w' hSw=>?_⟩
  obtain ⟨x0,x1,x2⟩:=hSw
  go_simp
 try simp only [Act.put,tA,tZ,tS]
 refine takeD (i:=4) (d:=some 13) (v:=ptrV R) (by kernel_rfl) (by kernel_rfl) (by kernel_rfl) (by kernel_rfl) (fun _ _ _ h=>h) (fun oi h=>?_) hHeld ?_
 ·simp only [uA,uS,uZ,Option.some.injEq] at h
  subst h
  refine Or.inl ⟨by rfl,fun w' hSw=>?_⟩
  obtain ⟨x0,x1,x2⟩:=hSw
  go_simp
 try simp only [Act.put,tA,tZ,tS]
 refine takeD (i:=5) (d:=some 14) (v:=.pointer (some ⟨R,0,none⟩)) (by kernel_rfl) (by kernel_rfl) (by kernel_rfl) (by kernel_rfl) (fun _ _ _ h=>h) (fun oi h=>?_) hHeld ?_
 ·simp only [uA,uS,uZ,Option.some.injEq] at h
  subst h
  refine Or.inl ⟨by rfl,fun w' hSw=>?_⟩
  obtain ⟨x0,x1,x2⟩:=hSw
  go_simp
 try simp only [Act.put,tA,tZ,tS]
 refine takeD (i:=6) (d:=some 15) (v:=ptrV A) (by kernel_rfl) (by kernel_rfl) (by kernel_rfl) (by kernel_rfl) (fun _ _ _ h=>h) (fun oi h=>?_) hHeld ?_
 ·simp only [uA,uS,uZ,Option.some.injEq] at h
  subst h
  refine Or.inl ⟨by rfl,fun w' hSw=>?_⟩
  obtain ⟨x0,x1,x2⟩:=hSw
  go_simp
 try simp only [Act.put,tA,tZ,tS]
 refine takeD (i:=7) (d:=some 16) (v:=.pointer (some ⟨X,3,none⟩)) (by kernel_rfl) (by kernel_rfl) (by kernel_rfl) (by kernel_rfl) (fun _ _ _ h=>h) (fun oi h=>?_) hHeld ?_
 ·simp only [uA,uS,uZ,Option.some.injEq] at h
  subst h
  refine Or.inl ⟨by rfl,fun w' hSw=>?_⟩
  obtain ⟨x0,x1,x2⟩:=hSw
  go_simp
 try simp only [Act.put,tA,tZ,tS]
 refine takeD (i:=8) (d:=some 17) (v:=.int .i64 0) (by kernel_rfl) (by kernel_rfl) (by kernel_rfl) (by kernel_rfl) (fun _ _ _ h=>h) (fun oi h=>?_) hHeld ?_
 ·simp only [uA,uS,uZ,Option.some.injEq] at h
  subst h
  refine Or.inl ⟨by rfl,fun w' hSw=>?_⟩
  obtain ⟨x0,x1,x2⟩:=hSw
  go_simp
 try simp only [Act.put,tA,tZ,tS]
 refine wpAnyH_ready (rs:=[9,13]) (by kernel_rfl) (by simp) ?_
 refine AllReadyH.cons rfl (fun K hKK=>?_) (AllReadyH.cons rfl (fun K hKK=>?_) AllReadyH.nil)
 ·skip
  go_simp
  refine (htk _ (Below.refl _ _)).mono ?_
  rintro e W2 ⟨rfl,hb2⟩
  refine hKK.out _ _ (hS _ (hb2)) (fun hHeld=>?_)
  clear hKK K
  try simp only [Act.put,tA,tZ,tS]
  refine takeD (i:=10) (d:=some 8) (v:=.tuple #[plaV T,.bool true]) (by kernel_rfl) (by kernel_rfl) (by kernel_rfl) (by kernel_rfl) (fun _ _ _ h=>h) (fun oi h=>?_) hHeld ?_
  ·simp only [uA,uS,uZ,Option.some.injEq] at h
   subst h
   refine Or.inl ⟨by rfl,fun w' hSw=>?_⟩
   obtain ⟨x0,x1,x2⟩:=hSw
   go_simp
  try simp only [Act.put,tA,tZ,tS]
  refine takeD (i:=11) (d:=some 19) (v:=plaV T) (by kernel_rfl) (by kernel_rfl) (by kernel_rfl) (by kernel_rfl) (fun _ _ _ h=>h) (fun oi h=>?_) hHeld ?_
  ·simp only [uA,uS,uZ,Option.some.injEq] at h
   subst h
   refine Or.inl ⟨by rfl,fun w' hSw=>?_⟩
   obtain ⟨x0,x1,x2⟩:=hSw
   go_simp
  try simp only [Act.put,tA,tZ,tS]
  refine takeD (i:=12) (d:=some 20) (v:=.bool true) (by kernel_rfl) (by kernel_rfl) (by kernel_rfl) (by kernel_rfl) (fun _ _ _ h=>h) (fun oi h=>?_) hHeld ?_
  ·simp only [uA,uS,uZ,Option.some.injEq] at h
   subst h
   refine Or.inl ⟨by rfl,fun w' hSw=>?_⟩
   obtain ⟨x0,x1,x2⟩:=hSw
   go_simp
  try simp only [Act.put,tA,tZ,tS]
  refine wpAnyH_ready (rs:=[13]) (by kernel_rfl) (by simp) ?_
  refine AllReadyH.cons rfl (fun K hKK=>?_) AllReadyH.nil
  go_simp
  obtain ⟨W5,hW5⟩:∃ W5,W5=W2.alloc (.cells #[.int .u8 0,.int .i64 0,.int .i64 0,.int .i64 0,.int .i64 0,.int .i64 0,.int .i64 0,.int .i64 0,.int .i64 0,.int .i64 0,.int .i64 0] 63):=⟨_,rfl⟩
  have hb5:Below wd.heap.size wd W5:=by rw [hW5];exact below_nx hb2 (below1 W2 _) (Nat.le_refl _)
  have hZ5:Blk W5 W2.heap.size 63 #[.int .u8 0,.int .i64 0,.int .i64 0,.int .i64 0,.int .i64 0,.int .i64 0,.int .i64 0,.int .i64 0,.int .i64 0,.int .i64 0,.int .i64 0]:=by rw [hW5];exact blk_new W2 _ _
  obtain ⟨B4,hB4e⟩:∃ B,B=W2.heap.size:=⟨_,rfl⟩
  have hB4:wd.heap.size<=B4:=by rw [hB4e];exact hb2.size
  rw [<- hW5, <- hB4e]
  rw [<- hB4e] at hZ5
  clear hW5 hB4e
  refine hKK.out _ _ (hS _ (hb5)) (fun hHeld=>?_)
  clear hKK K
  try simp only [Act.put,tA,tZ,tS]
  have z0:W5.cell? ⟨B4,0,none⟩=some (.int .u8 0):=hZ5.cell rfl
  have z1:W5.cell? ⟨B4,1,none⟩=some (.int .i64 0):=hZ5.cell rfl
  have z2:W5.cell? ⟨B4,2,none⟩=some (.int .i64 0):=hZ5.cell rfl
  have z3:W5.cell? ⟨B4,3,none⟩=some (.int .i64 0):=hZ5.cell rfl
  have z4:W5.cell? ⟨B4,4,none⟩=some (.int .i64 0):=hZ5.cell rfl
  have z5:W5.cell? ⟨B4,5,none⟩=some (.int .i64 0):=hZ5.cell rfl
  have z6:W5.cell? ⟨B4,6,none⟩=some (.int .i64 0):=hZ5.cell rfl
  have z7:W5.cell? ⟨B4,7,none⟩=some (.int .i64 0):=hZ5.cell rfl
  have z8:W5.cell? ⟨B4,8,none⟩=some (.int .i64 0):=hZ5.cell rfl
  have z9:W5.cell? ⟨B4,9,none⟩=some (.int .i64 0):=hZ5.cell rfl
  have z10:W5.cell? ⟨B4,10,none⟩=some (.int .i64 0):=hZ5.cell rfl
  have fz:=fun k=>hZ5.frozen k
  refine wpAnyH_ready (rs:=[14]) (by kernel_rfl) (by simp) ?_
  refine AllReadyH.cons rfl (fun K hKK=>?_) AllReadyH.nil
  go_simp
  have hF9:Frm (fun j=>j=B4) W5 (((((((((((W5.setCell ⟨B4,0,none⟩ (.int .u8 (T.s:Int))).setCell ⟨B4,1,none⟩ (.int .i64 T.f.c)).setCell ⟨B4,2,none⟩ (.int .i64 T.f.p)).setCell ⟨B4,3,none⟩ (.int .i64 T.f.r0)).setCell ⟨B4,4,none⟩ (.int .i64 T.f.r1)).setCell ⟨B4,5,none⟩ (.int .i64 T.f.r2)).setCell ⟨B4,6,none⟩ (.int .i64 T.f.r3)).setCell ⟨B4,7,none⟩ (.int .i64 T.f.r4)).setCell ⟨B4,8,none⟩ (.int .i64 T.f.r5)).setCell ⟨B4,9,none⟩ (.int .i64 T.f.r6)).setCell ⟨B4,10,none⟩ (.int .i64 T.f.r7)):=((((((((((Mch.Frm.set (F:=fun j=>j=B4) (p:=⟨B4,0,none⟩) W5 _ rfl).trans_new (Mch.Frm.set (F:=fun j=>j=B4) (p:=⟨B4,1,none⟩) _ _ rfl) (fun i hi=>.inl hi)).trans_new (Mch.Frm.set (F:=fun j=>j=B4) (p:=⟨B4,2,none⟩) _ _ rfl) (fun i hi=>.inl hi)).trans_new (Mch.Frm.set (F:=fun j=>j=B4) (p:=⟨B4,3,none⟩) _ _ rfl) (fun i hi=>.inl hi)).trans_new (Mch.Frm.set (F:=fun j=>j=B4) (p:=⟨B4,4,none⟩) _ _ rfl) (fun i hi=>.inl hi)).trans_new (Mch.Frm.set (F:=fun j=>j=B4) (p:=⟨B4,5,none⟩) _ _ rfl) (fun i hi=>.inl hi)).trans_new (Mch.Frm.set (F:=fun j=>j=B4) (p:=⟨B4,6,none⟩) _ _ rfl) (fun i hi=>.inl hi)).trans_new (Mch.Frm.set (F:=fun j=>j=B4) (p:=⟨B4,7,none⟩) _ _ rfl) (fun i hi=>.inl hi)).trans_new (Mch.Frm.set (F:=fun j=>j=B4) (p:=⟨B4,8,none⟩) _ _ rfl) (fun i hi=>.inl hi)).trans_new (Mch.Frm.set (F:=fun j=>j=B4) (p:=⟨B4,9,none⟩) _ _ rfl) (fun i hi=>.inl hi)).trans_new (Mch.Frm.set (F:=fun j=>j=B4) (p:=⟨B4,10,none⟩) _ _ rfl) (fun i hi=>.inl hi)
  have hb9:=frm_low hb5 hF9 (fun j e=>by rw [e];exact hB4)
  generalize ((((((((((W5.setCell ⟨B4,0,none⟩ (.int .u8 (T.s:Int))).setCell ⟨B4,1,none⟩ (.int .i64 T.f.c)).setCell ⟨B4,2,none⟩ (.int .i64 T.f.p)).setCell ⟨B4,3,none⟩ (.int .i64 T.f.r0)).setCell ⟨B4,4,none⟩ (.int .i64 T.f.r1)).setCell ⟨B4,5,none⟩ (.int .i64 T.f.r2)).setCell ⟨B4,6,none⟩ (.int .i64 T.f.r3)).setCell ⟨B4,7,none⟩ (.int .i64 T.f.r4)).setCell ⟨B4,8,none⟩ (.int .i64 T.f.r5)).setCell ⟨B4,9,none⟩ (.int .i64 T.f.r6)).setCell ⟨B4,10,none⟩ (.int .i64 T.f.r7)=W9 at hF9 hb9 ⊢
  refine hKK.out _ _ (hS _ hb9) (fun hHeld=>?_)
  clear hKK K z0 z1 z2 z3 z4 z5 z6 z7 z8 z9 z10 fz
  try simp only [Act.put,tA,tZ,tS]
  refine takeD (i:=15) (d:=some 5) (v:=.bool true) (by kernel_rfl) (by kernel_rfl) (by kernel_rfl) (by kernel_rfl) (fun _ _ _ h=>h) (fun oi h=>?_) hHeld ?_
  ·simp only [uA,uS,uZ,Option.some.injEq] at h
   subst h
   refine Or.inl ⟨by rfl,fun w' hSw=>?_⟩
   obtain ⟨x0,x1,x2⟩:=hSw
   go_simp
  try simp only [Act.put,tA,tZ,tS]
  refine wpAnyH_done (by kernel_rfl) ?_ _
  have hbW:=below_nx hbd hb9 (Nat.le_refl _)
  have hP9:=hP1.on hbW
  have hX9:=hX1.on hbW
  have hR9:=hR1.below hbW
  have hM9:EmptyAt W9 M:=(hbW.block M (Array.getElem?_eq_some_iff.1 hM1).1).trans hM1
  have hwW:=below_nx hB1 hbW (Nat.le_refl _)
  clear hS hHeld hb9 hF9
  go_wp2_with fail
  have hS2:∀ W':World,Below W9.drew.heap.size W9.drew W'->W'.cell? ⟨P,1,none⟩=some (.map (some M))/\W'.cell? ⟨X,3,none⟩=some (.int .i64 0)/\EmptyAt W' M:=fun W' hW'=>⟨(Blk.on (Blk.drew hP9) hW').cell rfl,(Blk.on (Blk.drew hX9) hW').cell rfl,(hW'.block M (Array.getElem?_eq_some_iff.1 hM9).1).trans hM9⟩
  have hS20:=hS2 W9.drew (Below.refl _ _)
  have hbd9:Below W9.heap.size W9 W9.drew:=(Below.refl _ _).drew
  refine wp_region_held_drew (S:=fun W'=>W'.cell? ⟨P,1,none⟩=some (.map (some M))/\W'.cell? ⟨X,3,none⟩=some (.int .i64 0)/\EmptyAt W' M) (by kernel_rfl) hS20 (fun hHeld=>?_)
  obtain ⟨we,hwe⟩:∃ we,we=W9.drew:=⟨_,rfl⟩
  rw [<- hwe] at hS2 hS20 hbd9 hHeld ⊢
  clear hwe hS20
  refine takeD (i:=0) (d:=some 22) (v:=ptrV P) (by kernel_rfl) (by kernel_rfl) (by kernel_rfl) (by kernel_rfl) (fun _ _ _ h=>h) (fun oi h=>?_) hHeld ?_
  ·simp only [uA,uZ,Option.some.injEq] at h
   subst h
   refine Or.inl ⟨by rfl,fun w' hSw=>?_⟩
   obtain ⟨x0,x1,x2⟩:=hSw
   go_simp
  try simp only [Act.put,tA,tZ,tS]
  refine takeD (i:=1) (d:=some 23) (v:=ptrV P) (by kernel_rfl) (by kernel_rfl) (by kernel_rfl) (by kernel_rfl) (fun _ _ _ h=>h) (fun oi h=>?_) hHeld ?_
  ·simp only [uA,uS,uZ,Option.some.injEq] at h
   subst h
   refine Or.inl ⟨by rfl,fun w' hSw=>?_⟩
   obtain ⟨x0,x1,x2⟩:=hSw
   go_simp
  try simp only [Act.put,tA,tZ,tS]
  refine takeD (i:=2) (d:=some 24) (v:=.pointer (some ⟨P,1,none⟩)) (by kernel_rfl) (by kernel_rfl) (by kernel_rfl) (by kernel_rfl) (fun _ _ _ h=>h) (fun oi h=>?_) hHeld ?_
  ·simp only [uA,uS,uZ,Option.some.injEq] at h
   subst h
   refine Or.inl ⟨by rfl,fun w' hSw=>?_⟩
   obtain ⟨x0,x1,x2⟩:=hSw
   go_simp
  try simp only [Act.put,tA,tZ,tS]
  refine takeD (i:=3) (d:=some 25) (v:=.map (some M)) (by kernel_rfl) (by kernel_rfl) (by kernel_rfl) (by kernel_rfl) (fun _ _ _ h=>h) (fun oi h=>?_) hHeld ?_
  ·simp only [uA,uS,uZ,Option.some.injEq] at h
   subst h
   refine Or.inl ⟨by rfl,fun w' hSw=>?_⟩
   obtain ⟨x0,x1,x2⟩:=hSw
   go_simp
  try simp only [Act.put,tA,tZ,tS]
  refine takeD (i:=4) (d:=some 26) (v:=.pointer (some ⟨X,3,none⟩)) (by kernel_rfl) (by kernel_rfl) (by kernel_rfl) (by kernel_rfl) (fun _ _ _ h=>h) (fun oi h=>?_) hHeld ?_
  ·simp only [uA,uS,uZ,Option.some.injEq] at h
   subst h
   refine Or.inl ⟨by rfl,fun w' hSw=>?_⟩
   obtain ⟨x0,x1,x2⟩:=hSw
   go_simp
  try simp only [Act.put,tA,tZ,tS]
  refine takeD (i:=5) (d:=some 27) (v:=.int .i64 0) (by kernel_rfl) (by kernel_rfl) (by kernel_rfl) (by kernel_rfl) (fun _ _ _ h=>h) (fun oi h=>?_) hHeld ?_
  ·simp only [uA,uS,uZ,Option.some.injEq] at h
   subst h
   refine Or.inl ⟨by rfl,fun w' hSw=>?_⟩
   obtain ⟨x0,x1,x2⟩:=hSw
   go_simp
  try simp only [Act.put,tA,tZ,tS]
  refine takeD (i:=6) (d:=some 28) (v:=.tuple #[.agg #[.int .u64 0,.slice none 0 0],.bool false]) (by kernel_rfl) (by kernel_rfl) (by kernel_rfl) (by kernel_rfl) (fun _ _ _ h=>h) (fun oi h=>?_) hHeld ?_
  ·simp only [uA,uS,uZ,Option.some.injEq] at h
   subst h
   refine Or.inl ⟨by rfl,fun w' hSw=>?_⟩
   obtain ⟨x0,x1,x2⟩:=hSw
   have hl:=x2.look
   unfold lockZ at hl
   go_simp
  try simp only [Act.put,tA,tZ,tS]
  refine takeD (i:=7) (d:=some 21) (v:=.tuple #[.agg #[.int .u64 0,.slice none 0 0],.bool false]) (by kernel_rfl) (by kernel_rfl) (by kernel_rfl) (by kernel_rfl) (fun _ _ _ h=>h) (fun oi h=>?_) hHeld ?_
  ·simp only [uA,uS,uZ,Option.some.injEq] at h
   subst h
   refine Or.inl ⟨by rfl,fun w' hSw=>?_⟩
   obtain ⟨x0,x1,x2⟩:=hSw
   go_simp
  try simp only [Act.put,tA,tZ,tS]
  refine takeD (i:=8) (d:=some 29) (v:=.agg #[.int .u64 0,.slice none 0 0]) (by kernel_rfl) (by kernel_rfl) (by kernel_rfl) (by kernel_rfl) (fun _ _ _ h=>h) (fun oi h=>?_) hHeld ?_
  ·simp only [uA,uS,uZ,Option.some.injEq] at h
   subst h
   refine Or.inl ⟨by rfl,fun w' hSw=>?_⟩
   obtain ⟨x0,x1,x2⟩:=hSw
   go_simp
  try simp only [Act.put,tA,tZ,tS]
  refine takeD (i:=9) (d:=some 30) (v:=.bool false) (by kernel_rfl) (by kernel_rfl) (by kernel_rfl) (by kernel_rfl) (fun _ _ _ h=>h) (fun oi h=>?_) hHeld ?_
  ·simp only [uA,uS,uZ,Option.some.injEq] at h
   subst h
   refine Or.inl ⟨by rfl,fun w' hSw=>?_⟩
   obtain ⟨x0,x1,x2⟩:=hSw
   go_simp
  try simp only [Act.put,tA,tZ,tS]
  refine wpAnyH_ready (rs:=[10]) (by kernel_rfl) (by simp) ?_
  refine AllReadyH.cons rfl (fun K hKK=>?_) AllReadyH.nil
  go_simp
  obtain ⟨WA,hWA⟩:∃ WA,WA=we.alloc (.cells #[.int .u64 0,.slice none 0 0] 201):=⟨_,rfl⟩
  have hbA:Below we.heap.size we WA:=by rw [hWA];exact below1 we _
  have hZA:Blk WA we.heap.size 201 #[.int .u64 0,.slice none 0 0]:=by rw [hWA];exact blk_new we _ _
  obtain ⟨B6,hB6e⟩:∃ B,B=we.heap.size:=⟨_,rfl⟩
  have hB6:we.heap.size<=B6:=by rw [hB6e];exact Nat.le_refl _
  rw [<- hWA, <- hB6e]
  rw [<- hB6e] at hZA
  clear hWA hB6e
  refine hKK.out _ _ (hS2 _ (hbA)) (fun hHeld=>?_)
  clear hKK K
  try simp only [Act.put,tA,tZ,tS]
  have z0:WA.cell? ⟨B6,0,none⟩=some (.int .u64 0):=hZA.cell rfl
  have z1:WA.cell? ⟨B6,1,none⟩=some (.slice none 0 0):=hZA.cell rfl
  have fz:=fun k=>hZA.frozen k
  refine wpAnyH_ready (rs:=[11]) (by kernel_rfl) (by simp) ?_
  refine AllReadyH.cons rfl (fun K hKK=>?_) AllReadyH.nil
  go_simp
  have hFA:Frm (fun j=>j=B6) WA ((WA.setCell ⟨B6,0,none⟩ (.int .u64 0)).setCell ⟨B6,1,none⟩ (.slice none 0 0)):=(Mch.Frm.set (F:=fun j=>j=B6) (p:=⟨B6,0,none⟩) WA _ rfl).trans_new (Mch.Frm.set (F:=fun j=>j=B6) (p:=⟨B6,1,none⟩) _ _ rfl) (fun i hi=>.inl hi)
  have hb12:=frm_low hbA hFA (fun j e=>by rw [e];exact hB6)
  generalize (WA.setCell ⟨B6,0,none⟩ (.int .u64 0)).setCell ⟨B6,1,none⟩ (.slice none 0 0)=W12 at hFA hb12 ⊢
  refine hKK.out _ _ (hS2 _ (hb12)) (fun hHeld=>?_)
  clear hKK K
  try simp only [Act.put,tA,tZ,tS]
  clear z0 z1 fz
  refine takeD (i:=12) (d:=some 7) (v:=.bool false) (by kernel_rfl) (by kernel_rfl) (by kernel_rfl) (by kernel_rfl) (fun _ _ _ h=>h) (fun oi h=>?_) hHeld ?_
  ·simp only [uA,uS,uZ,Option.some.injEq] at h
   subst h
   refine Or.inl ⟨by rfl,fun w' hSw=>?_⟩
   obtain ⟨x0,x1,x2⟩:=hSw
   go_simp
  try simp only [Act.put,tA,tZ,tS]
  refine wpAnyH_done (by kernel_rfl) ?_ _
  have hb912:=below_nx hbd9 hb12 (Nat.le_refl _)
  have hP12:=hP9.on hb912
  have hR12:=hR9.below hb912
  have cP:W12.cell? ⟨P,0,none⟩=some (ptrV R):=hP12.cell rfl
  have cR:W12.cell? ⟨R,1,none⟩=some (.int .i64 0):=hR12.blk.cell rfl
  have hun:=untrue_one P _ _ W12 hP12
  have hwL:=below_nx hwW hb912 (Nat.le_refl _)
  clear hS2 hHeld hb12 hFA
  go_wp2_with fail
  refine hun.mono ?_
  rintro e W13 ⟨rfl,rfl⟩
  go_wp2_with fail
  refine bodyPost_ret (results_none rfl _ _ _) rfl ?_
  exact ⟨rfl,W12,hwL,rfl⟩
 ·skip
  go_simp
  obtain ⟨W4,hW4⟩:∃ W4,W4=wd.alloc (.cells #[.int .u8 0,.int .i64 0,.int .i64 0,.int .i64 0,.int .i64 0,.int .i64 0,.int .i64 0,.int .i64 0,.int .i64 0,.int .i64 0,.int .i64 0] 63):=⟨_,rfl⟩
  have hb4:Below wd.heap.size wd W4:=by rw [hW4];exact below1 wd _
  have hZ4:Blk W4 wd.heap.size 63 #[.int .u8 0,.int .i64 0,.int .i64 0,.int .i64 0,.int .i64 0,.int .i64 0,.int .i64 0,.int .i64 0,.int .i64 0,.int .i64 0,.int .i64 0]:=by rw [hW4];exact blk_new wd _ _
  obtain ⟨B4,hB4e⟩:∃ B,B=wd.heap.size:=⟨_,rfl⟩
  have hB4:wd.heap.size<=B4:=by rw [hB4e];exact Nat.le_refl _
  rw [<- hW4, <- hB4e]
  rw [<- hB4e] at hZ4
  clear hW4 hB4e
  refine hKK.out _ _ (hS _ (hb4)) (fun hHeld=>?_)
  clear hKK K
  try simp only [Act.put,tA,tZ,tS]
  refine wpAnyH_ready (rs:=[9]) (by kernel_rfl) (by simp) ?_
  refine AllReadyH.cons rfl (fun K hKK=>?_) AllReadyH.nil
  go_simp
  refine (htk _ hb4).mono ?_
  rintro e W5 ⟨rfl,hb45⟩
  have hb5:=below_nx hb4 hb45 (Nat.le_refl _)
  have hZ5:=hZ4.on hb45
  refine hKK.out _ _ (hS _ (hb5)) (fun hHeld=>?_)
  clear hKK K
  try simp only [Act.put,tA,tZ,tS]
  refine takeD (i:=10) (d:=some 8) (v:=.tuple #[plaV T,.bool true]) (by kernel_rfl) (by kernel_rfl) (by kernel_rfl) (by kernel_rfl) (fun _ _ _ h=>h) (fun oi h=>?_) hHeld ?_
  ·simp only [uA,uS,uZ,Option.some.injEq] at h
   subst h
   refine Or.inl ⟨by rfl,fun w' hSw=>?_⟩
   obtain ⟨x0,x1,x2⟩:=hSw
   go_simp
  try simp only [Act.put,tA,tZ,tS]
  refine takeD (i:=11) (d:=some 19) (v:=plaV T) (by kernel_rfl) (by kernel_rfl) (by kernel_rfl) (by kernel_rfl) (fun _ _ _ h=>h) (fun oi h=>?_) hHeld ?_
  ·simp only [uA,uS,uZ,Option.some.injEq] at h
   subst h
   refine Or.inl ⟨by rfl,fun w' hSw=>?_⟩
   obtain ⟨x0,x1,x2⟩:=hSw
   go_simp
  try simp only [Act.put,tA,tZ,tS]
  refine takeD (i:=12) (d:=some 20) (v:=.bool true) (by kernel_rfl) (by kernel_rfl) (by kernel_rfl) (by kernel_rfl) (fun _ _ _ h=>h) (fun oi h=>?_) hHeld ?_
  ·simp only [uA,uS,uZ,Option.some.injEq] at h
   subst h
   refine Or.inl ⟨by rfl,fun w' hSw=>?_⟩
   obtain ⟨x0,x1,x2⟩:=hSw
   go_simp
  try simp only [Act.put,tA,tZ,tS]
  have z0:W5.cell? ⟨B4,0,none⟩=some (.int .u8 0):=hZ5.cell rfl
  have z1:W5.cell? ⟨B4,1,none⟩=some (.int .i64 0):=hZ5.cell rfl
  have z2:W5.cell? ⟨B4,2,none⟩=some (.int .i64 0):=hZ5.cell rfl
  have z3:W5.cell? ⟨B4,3,none⟩=some (.int .i64 0):=hZ5.cell rfl
  have z4:W5.cell? ⟨B4,4,none⟩=some (.int .i64 0):=hZ5.cell rfl
  have z5:W5.cell? ⟨B4,5,none⟩=some (.int .i64 0):=hZ5.cell rfl
  have z6:W5.cell? ⟨B4,6,none⟩=some (.int .i64 0):=hZ5.cell rfl
  have z7:W5.cell? ⟨B4,7,none⟩=some (.int .i64 0):=hZ5.cell rfl
  have z8:W5.cell? ⟨B4,8,none⟩=some (.int .i64 0):=hZ5.cell rfl
  have z9:W5.cell? ⟨B4,9,none⟩=some (.int .i64 0):=hZ5.cell rfl
  have z10:W5.cell? ⟨B4,10,none⟩=some (.int .i64 0):=hZ5.cell rfl
  have fz:=fun k=>hZ5.frozen k
  refine wpAnyH_ready (rs:=[14]) (by kernel_rfl) (by simp) ?_
  refine AllReadyH.cons rfl (fun K hKK=>?_) AllReadyH.nil
  go_simp
  have hF9:Frm (fun j=>j=B4) W5 (((((((((((W5.setCell ⟨B4,0,none⟩ (.int .u8 (T.s:Int))).setCell ⟨B4,1,none⟩ (.int .i64 T.f.c)).setCell ⟨B4,2,none⟩ (.int .i64 T.f.p)).setCell ⟨B4,3,none⟩ (.int .i64 T.f.r0)).setCell ⟨B4,4,none⟩ (.int .i64 T.f.r1)).setCell ⟨B4,5,none⟩ (.int .i64 T.f.r2)).setCell ⟨B4,6,none⟩ (.int .i64 T.f.r3)).setCell ⟨B4,7,none⟩ (.int .i64 T.f.r4)).setCell ⟨B4,8,none⟩ (.int .i64 T.f.r5)).setCell ⟨B4,9,none⟩ (.int .i64 T.f.r6)).setCell ⟨B4,10,none⟩ (.int .i64 T.f.r7)):=((((((((((Mch.Frm.set (F:=fun j=>j=B4) (p:=⟨B4,0,none⟩) W5 _ rfl).trans_new (Mch.Frm.set (F:=fun j=>j=B4) (p:=⟨B4,1,none⟩) _ _ rfl) (fun i hi=>.inl hi)).trans_new (Mch.Frm.set (F:=fun j=>j=B4) (p:=⟨B4,2,none⟩) _ _ rfl) (fun i hi=>.inl hi)).trans_new (Mch.Frm.set (F:=fun j=>j=B4) (p:=⟨B4,3,none⟩) _ _ rfl) (fun i hi=>.inl hi)).trans_new (Mch.Frm.set (F:=fun j=>j=B4) (p:=⟨B4,4,none⟩) _ _ rfl) (fun i hi=>.inl hi)).trans_new (Mch.Frm.set (F:=fun j=>j=B4) (p:=⟨B4,5,none⟩) _ _ rfl) (fun i hi=>.inl hi)).trans_new (Mch.Frm.set (F:=fun j=>j=B4) (p:=⟨B4,6,none⟩) _ _ rfl) (fun i hi=>.inl hi)).trans_new (Mch.Frm.set (F:=fun j=>j=B4) (p:=⟨B4,7,none⟩) _ _ rfl) (fun i hi=>.inl hi)).trans_new (Mch.Frm.set (F:=fun j=>j=B4) (p:=⟨B4,8,none⟩) _ _ rfl) (fun i hi=>.inl hi)).trans_new (Mch.Frm.set (F:=fun j=>j=B4) (p:=⟨B4,9,none⟩) _ _ rfl) (fun i hi=>.inl hi)).trans_new (Mch.Frm.set (F:=fun j=>j=B4) (p:=⟨B4,10,none⟩) _ _ rfl) (fun i hi=>.inl hi)
  have hb9:=frm_low hb5 hF9 (fun j e=>by rw [e];exact hB4)
  generalize ((((((((((W5.setCell ⟨B4,0,none⟩ (.int .u8 (T.s:Int))).setCell ⟨B4,1,none⟩ (.int .i64 T.f.c)).setCell ⟨B4,2,none⟩ (.int .i64 T.f.p)).setCell ⟨B4,3,none⟩ (.int .i64 T.f.r0)).setCell ⟨B4,4,none⟩ (.int .i64 T.f.r1)).setCell ⟨B4,5,none⟩ (.int .i64 T.f.r2)).setCell ⟨B4,6,none⟩ (.int .i64 T.f.r3)).setCell ⟨B4,7,none⟩ (.int .i64 T.f.r4)).setCell ⟨B4,8,none⟩ (.int .i64 T.f.r5)).setCell ⟨B4,9,none⟩ (.int .i64 T.f.r6)).setCell ⟨B4,10,none⟩ (.int .i64 T.f.r7)=W9 at hF9 hb9 ⊢
  refine hKK.out _ _ (hS _ hb9) (fun hHeld=>?_)
  clear hKK K z0 z1 z2 z3 z4 z5 z6 z7 z8 z9 z10 fz
  try simp only [Act.put,tA,tZ,tS]
  refine takeD (i:=15) (d:=some 5) (v:=.bool true) (by kernel_rfl) (by kernel_rfl) (by kernel_rfl) (by kernel_rfl) (fun _ _ _ h=>h) (fun oi h=>?_) hHeld ?_
  ·simp only [uA,uS,uZ,Option.some.injEq] at h
   subst h
   refine Or.inl ⟨by rfl,fun w' hSw=>?_⟩
   obtain ⟨x0,x1,x2⟩:=hSw
   go_simp
  try simp only [Act.put,tA,tZ,tS]
  refine wpAnyH_done (by kernel_rfl) ?_ _
  have hbW:=below_nx hbd hb9 (Nat.le_refl _)
  have hP9:=hP1.on hbW
  have hX9:=hX1.on hbW
  have hR9:=hR1.below hbW
  have hM9:EmptyAt W9 M:=(hbW.block M (Array.getElem?_eq_some_iff.1 hM1).1).trans hM1
  have hwW:=below_nx hB1 hbW (Nat.le_refl _)
  clear hS hHeld hb9 hF9
  go_wp2_with fail
  have hS2:∀ W':World,Below W9.drew.heap.size W9.drew W'->W'.cell? ⟨P,1,none⟩=some (.map (some M))/\W'.cell? ⟨X,3,none⟩=some (.int .i64 0)/\EmptyAt W' M:=fun W' hW'=>⟨(Blk.on (Blk.drew hP9) hW').cell rfl,(Blk.on (Blk.drew hX9) hW').cell rfl,(hW'.block M (Array.getElem?_eq_some_iff.1 hM9).1).trans hM9⟩
  have hS20:=hS2 W9.drew (Below.refl _ _)
  have hbd9:Below W9.heap.size W9 W9.drew:=(Below.refl _ _).drew
  refine wp_region_held_drew (S:=fun W'=>W'.cell? ⟨P,1,none⟩=some (.map (some M))/\W'.cell? ⟨X,3,none⟩=some (.int .i64 0)/\EmptyAt W' M) (by kernel_rfl) hS20 (fun hHeld=>?_)
  obtain ⟨we,hwe⟩:∃ we,we=W9.drew:=⟨_,rfl⟩
  rw [<- hwe] at hS2 hS20 hbd9 hHeld ⊢
  clear hwe hS20
  refine takeD (i:=0) (d:=some 22) (v:=ptrV P) (by kernel_rfl) (by kernel_rfl) (by kernel_rfl) (by kernel_rfl) (fun _ _ _ h=>h) (fun oi h=>?_) hHeld ?_
  ·simp only [uA,uZ,Option.some.injEq] at h
   subst h
   refine Or.inl ⟨by rfl,fun w' hSw=>?_⟩
   obtain ⟨x0,x1,x2⟩:=hSw
   go_simp
  try simp only [Act.put,tA,tZ,tS]
  refine takeD (i:=1) (d:=some 23) (v:=ptrV P) (by kernel_rfl) (by kernel_rfl) (by kernel_rfl) (by kernel_rfl) (fun _ _ _ h=>h) (fun oi h=>?_) hHeld ?_
  ·simp only [uA,uS,uZ,Option.some.injEq] at h
   subst h
   refine Or.inl ⟨by rfl,fun w' hSw=>?_⟩
   obtain ⟨x0,x1,x2⟩:=hSw
   go_simp
  try simp only [Act.put,tA,tZ,tS]
  refine takeD (i:=2) (d:=some 24) (v:=.pointer (some ⟨P,1,none⟩)) (by kernel_rfl) (by kernel_rfl) (by kernel_rfl) (by kernel_rfl) (fun _ _ _ h=>h) (fun oi h=>?_) hHeld ?_
  ·simp only [uA,uS,uZ,Option.some.injEq] at h
   subst h
   refine Or.inl ⟨by rfl,fun w' hSw=>?_⟩
   obtain ⟨x0,x1,x2⟩:=hSw
   go_simp
  try simp only [Act.put,tA,tZ,tS]
  refine takeD (i:=3) (d:=some 25) (v:=.map (some M)) (by kernel_rfl) (by kernel_rfl) (by kernel_rfl) (by kernel_rfl) (fun _ _ _ h=>h) (fun oi h=>?_) hHeld ?_
  ·simp only [uA,uS,uZ,Option.some.injEq] at h
   subst h
   refine Or.inl ⟨by rfl,fun w' hSw=>?_⟩
   obtain ⟨x0,x1,x2⟩:=hSw
   go_simp
  try simp only [Act.put,tA,tZ,tS]
  refine takeD (i:=4) (d:=some 26) (v:=.pointer (some ⟨X,3,none⟩)) (by kernel_rfl) (by kernel_rfl) (by kernel_rfl) (by kernel_rfl) (fun _ _ _ h=>h) (fun oi h=>?_) hHeld ?_
  ·simp only [uA,uS,uZ,Option.some.injEq] at h
   subst h
   refine Or.inl ⟨by rfl,fun w' hSw=>?_⟩
   obtain ⟨x0,x1,x2⟩:=hSw
   go_simp
  try simp only [Act.put,tA,tZ,tS]
  refine takeD (i:=5) (d:=some 27) (v:=.int .i64 0) (by kernel_rfl) (by kernel_rfl) (by kernel_rfl) (by kernel_rfl) (fun _ _ _ h=>h) (fun oi h=>?_) hHeld ?_
  ·simp only [uA,uS,uZ,Option.some.injEq] at h
   subst h
   refine Or.inl ⟨by rfl,fun w' hSw=>?_⟩
   obtain ⟨x0,x1,x2⟩:=hSw
   go_simp
  try simp only [Act.put,tA,tZ,tS]
  refine takeD (i:=6) (d:=some 28) (v:=.tuple #[.agg #[.int .u64 0,.slice none 0 0],.bool false]) (by kernel_rfl) (by kernel_rfl) (by kernel_rfl) (by kernel_rfl) (fun _ _ _ h=>h) (fun oi h=>?_) hHeld ?_
  ·simp only [uA,uS,uZ,Option.some.injEq] at h
   subst h
   refine Or.inl ⟨by rfl,fun w' hSw=>?_⟩
   obtain ⟨x0,x1,x2⟩:=hSw
   have hl:=x2.look
   unfold lockZ at hl
   go_simp
  try simp only [Act.put,tA,tZ,tS]
  refine takeD (i:=7) (d:=some 21) (v:=.tuple #[.agg #[.int .u64 0,.slice none 0 0],.bool false]) (by kernel_rfl) (by kernel_rfl) (by kernel_rfl) (by kernel_rfl) (fun _ _ _ h=>h) (fun oi h=>?_) hHeld ?_
  ·simp only [uA,uS,uZ,Option.some.injEq] at h
   subst h
   refine Or.inl ⟨by rfl,fun w' hSw=>?_⟩
   obtain ⟨x0,x1,x2⟩:=hSw
   go_simp
  try simp only [Act.put,tA,tZ,tS]
  refine takeD (i:=8) (d:=some 29) (v:=.agg #[.int .u64 0,.slice none 0 0]) (by kernel_rfl) (by kernel_rfl) (by kernel_rfl) (by kernel_rfl) (fun _ _ _ h=>h) (fun oi h=>?_) hHeld ?_
  ·simp only [uA,uS,uZ,Option.some.injEq] at h
   subst h
   refine Or.inl ⟨by rfl,fun w' hSw=>?_⟩
   obtain ⟨x0,x1,x2⟩:=hSw
   go_simp
  try simp only [Act.put,tA,tZ,tS]
  refine takeD (i:=9) (d:=some 30) (v:=.bool false) (by kernel_rfl) (by kernel_rfl) (by kernel_rfl) (by kernel_rfl) (fun _ _ _ h=>h) (fun oi h=>?_) hHeld ?_
  ·simp only [uA,uS,uZ,Option.some.injEq] at h
   subst h
   refine Or.inl ⟨by rfl,fun w' hSw=>?_⟩
   obtain ⟨x0,x1,x2⟩:=hSw
   go_simp
  try simp only [Act.put,tA,tZ,tS]
  refine wpAnyH_ready (rs:=[10]) (by kernel_rfl) (by simp) ?_
  refine AllReadyH.cons rfl (fun K hKK=>?_) AllReadyH.nil
  go_simp
  obtain ⟨WA,hWA⟩:∃ WA,WA=we.alloc (.cells #[.int .u64 0,.slice none 0 0] 201):=⟨_,rfl⟩
  have hbA:Below we.heap.size we WA:=by rw [hWA];exact below1 we _
  have hZA:Blk WA we.heap.size 201 #[.int .u64 0,.slice none 0 0]:=by rw [hWA];exact blk_new we _ _
  obtain ⟨B6,hB6e⟩:∃ B,B=we.heap.size:=⟨_,rfl⟩
  have hB6:we.heap.size<=B6:=by rw [hB6e];exact Nat.le_refl _
  rw [<- hWA, <- hB6e]
  rw [<- hB6e] at hZA
  clear hWA hB6e
  refine hKK.out _ _ (hS2 _ (hbA)) (fun hHeld=>?_)
  clear hKK K
  try simp only [Act.put,tA,tZ,tS]
  have z0:WA.cell? ⟨B6,0,none⟩=some (.int .u64 0):=hZA.cell rfl
  have z1:WA.cell? ⟨B6,1,none⟩=some (.slice none 0 0):=hZA.cell rfl
  have fz:=fun k=>hZA.frozen k
  refine wpAnyH_ready (rs:=[11]) (by kernel_rfl) (by simp) ?_
  refine AllReadyH.cons rfl (fun K hKK=>?_) AllReadyH.nil
  go_simp
  have hFA:Frm (fun j=>j=B6) WA ((WA.setCell ⟨B6,0,none⟩ (.int .u64 0)).setCell ⟨B6,1,none⟩ (.slice none 0 0)):=(Mch.Frm.set (F:=fun j=>j=B6) (p:=⟨B6,0,none⟩) WA _ rfl).trans_new (Mch.Frm.set (F:=fun j=>j=B6) (p:=⟨B6,1,none⟩) _ _ rfl) (fun i hi=>.inl hi)
  have hb12:=frm_low hbA hFA (fun j e=>by rw [e];exact hB6)
  generalize (WA.setCell ⟨B6,0,none⟩ (.int .u64 0)).setCell ⟨B6,1,none⟩ (.slice none 0 0)=W12 at hFA hb12 ⊢
  refine hKK.out _ _ (hS2 _ (hb12)) (fun hHeld=>?_)
  clear hKK K
  try simp only [Act.put,tA,tZ,tS]
  clear z0 z1 fz
  refine takeD (i:=12) (d:=some 7) (v:=.bool false) (by kernel_rfl) (by kernel_rfl) (by kernel_rfl) (by kernel_rfl) (fun _ _ _ h=>h) (fun oi h=>?_) hHeld ?_
  ·simp only [uA,uS,uZ,Option.some.injEq] at h
   subst h
   refine Or.inl ⟨by rfl,fun w' hSw=>?_⟩
   obtain ⟨x0,x1,x2⟩:=hSw
   go_simp
  try simp only [Act.put,tA,tZ,tS]
  refine wpAnyH_done (by kernel_rfl) ?_ _
  have hb912:=below_nx hbd9 hb12 (Nat.le_refl _)
  have hP12:=hP9.on hb912
  have hR12:=hR9.below hb912
  have cP:W12.cell? ⟨P,0,none⟩=some (ptrV R):=hP12.cell rfl
  have cR:W12.cell? ⟨R,1,none⟩=some (.int .i64 0):=hR12.blk.cell rfl
  have hun:=untrue_one P _ _ W12 hP12
  have hwL:=below_nx hwW hb912 (Nat.le_refl _)
  clear hS2 hHeld hb12 hFA
  go_wp2_with fail
  refine hun.mono ?_
  rintro e W13 ⟨rfl,rfl⟩
  go_wp2_with fail
  refine bodyPost_ret (results_none rfl _ _ _) rfl ?_
  exact ⟨rfl,W12,hwL,rfl⟩
end Go.Proofs.YtnfbncgfpmcpnaaGreat.Mdl
