/-
  ReplayNext: its walks, part 39.
-/
import Derived.Test.YtnfbncgfpmcpnaaGreatQ38
set_option maxRecDepth 100000
set_option maxHeartbeats 12800000
namespace Go.Proofs.YtnfbncgfpmcpnaaGreat.Mdl
open Go.RowKit Go.Shelf
open Ent (En EnRow okB)
open Mch (Frm below1 below_nx)
attribute [local go_sem] Oper.semAt_some
structure StI (R B6 B8 n:Nat) (s:List En) (o:Nat->Nat) (X:World):Prop where
 all:∃ a c,Blk X B6 99 #[.slice a s.length c]/\(s = []->a=none/\c=0)
 r8:Blk X B8 102 #[ptrV R]
 o6:o B6=0
 o8:o B8=0
 n6:B6 ≠ R
 n8:B8 ≠ R
 l6:B6<n
 l8:B8<n
 sz:n<=X.heap.size
theorem StI.trn {R B6 B8 n:Nat} {s:List En} {o o':Nat->Nat} {X Y:World} (h:StI R B6 B8 n s o X) (ht:Trn R o o' X Y):StI R B6 B8 n s o' Y:=by
 obtain ⟨a,c,h1,h2⟩:=h.all
 exact ⟨⟨a,c,trn_blk ht h1 h.o6 h.n6,h2⟩,trn_blk ht h.r8 h.o8 h.n8,by rw [ht.old _ h1.lt];exact h.o6,by rw [ht.old _ h.r8.lt];exact h.o8,h.n6,h.n8,h.l6,h.l8,Nat.le_trans h.sz ht.frm.size⟩
theorem StI.putObj {R B6 B8 n:Nat} {s:List En} {o:Nat->Nat} {X:World} {l:Nat} {ob:Obj} (h:StI R B6 B8 n s o X) (hl:n<=l):StI R B6 B8 n s o (X.putObj l ob):=by
 obtain ⟨a,c,h1,h2⟩:=h.all
 have:=h.l6
 have:=h.l8
 exact ⟨⟨a,c,(World.putObj_heap_other (by omega)).trans h1,h2⟩,(World.putObj_heap_other (by omega)).trans h.r8,h.o6,h.o8,h.n6,h.n8,h.l6,h.l8,by simpa [World.putObj] using h.sz⟩
theorem one_hd {w0:World} {R A:Nat} {l:List En} {x0:En} {T1 T2:Nat} {sv:Value} {s:List En} {x:En} {o:Nat->Nat} {b:Nat} {X:World} (hl:l = [x0]) (h:HdT w0 R A one0 l T1 T2 sv (s ++ [x]) o b X) :
  s = []/\x=x0/\ThAt w0 o R A one0 T1 T2 sv X:=by
 subst hl
 obtain ⟨k,x',h1,h2⟩:=h
 have hk:=(List.getElem?_eq_some_iff.1 h2.at_).1
 simp only [List.length_singleton] at hk
 obtain rfl:k=0:=by omega
 obtain ⟨h3,h4⟩:=List.append_inj' h1 rfl
 have h5:=h2.at_
 simp only [List.getElem?_cons_zero,Option.some.injEq] at h5
 have h6:=h2.th
 exact ⟨h3,by rw [h5];simpa using h4,h6⟩
theorem keepsFrom_below {n:Nat} {W X:World} (h:Below W.heap.size W X):KeepsFrom n W X:=⟨h.size,fun k _ _ hk _=>(h.block k (Array.getElem?_eq_some_iff.1 hk).1).trans hk⟩
theorem st_close {w W w1 W9:World} {R A B6 B8 n T1 T2 b:Nat} {o:Nat->Nat} {sv:Value} {a:Option Addr} {c:Nat} {x:En} {l:List En} (hI:StI R B6 B8 n [] o W) (hH:HdT w R A one0 l T1 T2 sv ([] ++ [x]) o b W) (hb:Below W.heap.size W w1)
  (hW9:W9=w1.setCell ⟨B6,0,none⟩ (.slice a 1 c)) (h1:B6 ≠ T1) (h2:B6 ≠ T2) (h3:w.heap.size<=B6) :
  KeepsFrom n W W9/\∃ o',(∀ k,k<W.heap.size->o' k=o k)/\StI R B6 B8 n ([] ++ [x]) o' W9/\HdT w R A one0 l T1 T2 sv ([] ++ [x]) o' b W9:=by
 obtain ⟨a0,c0,hA,-⟩:=hI.all
 have hF:Frm (fun k=>k=B6) W W9:=by
  rw [hW9]
  exact Mch.Frm.trans_new (Frm.of_below hb _) (Mch.Frm.set (F:=fun k=>k=B6) (p:=⟨B6,0,none⟩) w1 _ rfl) (fun i hi=>.inl hi)
 have hA9:Blk W9 B6 99 #[.slice a 1 c]:=by
  rw [hW9]
  have:=(hA.on hb).set 0 (.slice a 1 c)
  simpa using this
 refine ⟨?_,o,fun _ _=>rfl,⟨⟨a,c,hA9,fun e=>by simp at e⟩,(hF.block B8 hI.r8.lt (fun e=>?_)).trans hI.r8,hI.o6,hI.o8,hI.n6,hI.n8,hI.l6,hI.l8,Nat.le_trans hI.sz hF.size⟩,?_⟩
 ·rw [hW9]
  exact (keepsFrom_below hb).trans ((KeepsOthers.setCell _ _ _).from _)
 ·have h8:=hI.r8
  rw [e] at h8
  have:=hA.symm.trans h8
  simp only [Option.some.injEq,Obj.cells.injEq] at this
  exact absurd this.2.1 (by decide)
 ·obtain ⟨k,x',hs,hA'⟩:=hH
  refine ⟨k,x',hs,hA'.at_,hA'.sees,hA'.th.aside hF (fun j e=>by rw [e];exact ⟨hI.o6,hI.n6,h1,h2,h3⟩),(hF.block b hA'.xb.lt (fun e=>?_)).trans hA'.xb,hA'.xo,hA'.xn⟩
  have h8:=hA'.xb
  rw [e] at h8
  have:=hA.symm.trans h8
  simp only [Option.some.injEq,Obj.cells.injEq] at this
  exact absurd this.2.1 (by decide)
theorem infoFrm:(Tryz.prog.info? 61).map (fun i=>(i.zero,i.size,i.bytes))=some (some (.agg #[.int .i64 0,.int .i64 0,.int .i64 0,.int .i64 0,.int .i64 0,.int .i64 0,.int .i64 0,.int .i64 0,.int .i64 0,.int .i64 0]),10,80):=by kernel_rfl
section
variable {lo hi:Nat} {v1 v2 v3 sv:Value}
theorem stands_one (w:World) (h:PrgAt lo hi w v1 v2 v3 oneP) (hl:EnRow w sv [eE]) :
  Calls Tryz.prog 38 #[.agg #[v1,v2,v3],.int .i64 1,sv] w fun e w'=>(∃ a c,e=.returned (.tuple #[.slice a 1 c,.int .i64 0]))/\Below w.heap.size w w':=by
 obtain ⟨a,c,rfl⟩:=hl.slice
 obtain ⟨w1,hw1⟩:∃ w1,w1=(w.alloc (.cells #[v1,v2,v3] 26)).alloc (.cells #[.slice none 0 0] 99):=⟨_,rfl⟩
 have hB1:Below w.heap.size w w1:=by rw [hw1];exact below2 w _ _
 have hX1:Blk w1 w.heap.size 26 #[v1,v2,v3]:=by rw [hw1];exact (blk_new w _ _).alloc _
 have hA1:Blk w1 (w.heap.size+1) 99 #[.slice none 0 0]:=by rw [hw1];exact blk_at (by simp)
 have hbg:Calls Tryz.prog 75 #[.agg #[v1,v2,v3],.int .i64 1] w1 (BegPost w1 oneP 1):=begun_ok 1 w1 (h.later hB1) one_small one_chk (by decide) (by decide)
 have x0:w1.cell? ⟨w.heap.size,0,none⟩=some v1:=hX1.cell rfl
 have x1:w1.cell? ⟨w.heap.size,1,none⟩=some v2:=hX1.cell rfl
 have x2:w1.cell? ⟨w.heap.size,2,none⟩=some v3:=hX1.cell rfl
 have hs1:w.heap.size+1<w1.heap.size:=hA1.lt
 clear h hX1
 refine (callsIn_wide (n:=4)).1 ?_
 refine callsIn_of_wp_marks Tryz.func38 rfl trivial ?_ rfl
 simp only [Tryz.ntmps38,List.size_toArray,List.length_cons,List.length_nil,Nat.reduceAdd,Nat.reduceSub,Array.replicate_succ,Array.replicate_zero,List.push_toArray,List.append_toArray,List.nil_append,List.cons_append]
 refine wpIn_wide.2 ?_
 go_upto_region 1 with fail
 rw [<- hw1]
 clear hw1
 go_step3
 go_wp2_with fail
 unfold BegPost at hbg
 refine hbg.mono ?_
 clear hbg x0 x1 x2
 rintro e w2 ⟨R,A,o,rfl,hR2'⟩
 have hR2:=hR2'.rebase hB1
 have hA2:=hA1.on hR2'.run.bel
 have hRlt:=hR2.blk.lt
 have hRlow:=hR2'.low
 have hs2:=hR2'.run.bel.size
 have hoz:o (w.heap.size+1)=0:=by
  by_cases e:o (w.heap.size+1)=0
  ·exact e
  ·have:=hR2'.run.new _ e;omega
 obtain ⟨w3,hw3⟩:∃ w3,w3=w2.alloc (.cells #[ptrV R] 102):=⟨_,rfl⟩
 have hb3:Below w2.heap.size w2 w3:=by rw [hw3];exact below1 w2 _
 have h83:Blk w3 w2.heap.size 102 #[ptrV R]:=by rw [hw3];exact blk_new w2 _ _
 have r8:w3.cell? ⟨w2.heap.size,0,none⟩=some (ptrV R):=h83.cell rfl
 have hs3:w3.heap.size=w2.heap.size+1:=by rw [hw3];exact World.size_alloc _ _
 have hth:=through_any R a 1 c w3
 obtain ⟨w4,hw4⟩:∃ w4,w4=(w3.alloc (.cells #[ptrV R] 102)).alloc (.cells #[.slice a 1 c] 51):=⟨_,rfl⟩
 have hb4:Below w3.heap.size w3 w4:=by rw [hw4];exact below2 w3 _ _
 have hb24:=below_nx hb3 hb4 (Nat.le_refl _)
 have hT4:ThAt w o R A one0 (w2.heap.size+1+1) (w2.heap.size+1) (.slice a 1 c) w4:=
  ⟨hR2.below hb24,by rw [hw4, <- hs3];exact blk_at (by simp),by rw [hw4, <- hs3];exact (blk_new w3 _ _).alloc _,hR2.run.md.off (by omega),hR2.run.md.off (by omega),by omega,by omega⟩
 have hs4:w4.heap.size=w3.heap.size+1+1:=by rw [hw4];simp
 have hI4:StI R (w.heap.size+1) w2.heap.size w4.heap.size [] o w4:=
  ⟨⟨none,0,hA2.on hb24,fun _=>⟨rfl,rfl⟩⟩,h83.on hb4,hoz,hR2.run.md.off (Nat.le_refl _),by omega,by omega,by omega,by omega,Nat.le_refl _⟩
 rw [<- hw4] at hth
 clear hR2' hA1 hA2 hb3 hb4 hb24 h83 hB1
 go_wp2_with fail
 rw [<- hw3]
 clear hw3
 go_step3
 go_wp2_with fail
 refine hth.mono ?_
 clear hth r8
 rintro e w4 ⟨rfl,rfl⟩
 go_wp2_with fail
 rw [<- hw4]
 clear hw4
 have hlow:∀ k,o k ≠ 0->k<w4.heap.size:=fun k hk=>by
  by_cases e:k<w4.heap.size
  ·exact e
  ·exact absurd (hT4.rn.run.md.off (Nat.le_of_not_lt e)) hk
 refine (wpIn_wide (n:=4)).1 ?_
 refine range_turn rfl (by omega) (gf:=110) (lb:=#[.pointer (some ⟨w2.heap.size+1+1,0,none⟩),.pointer (some ⟨w2.heap.size+1,0,none⟩)]) rfl trivial (enters_of Tryz.func110 (by kernel_rfl) rfl)
  (through1_turn hT4 hl (by decide) (Nat.zero_le 1000) (fun x hx=>by rw [List.mem_singleton] at hx;rw [hx];exact eE_ok)) hT4.rn.blk.lt hlow (fun _=>rfl) (StI R (w.heap.size+1) w2.heap.size w4.heap.size) (fun s o1 X o2 Y h ht=>h.trn ht) (fun s o1 X l ob h hl1 ho=>h.putObj hl1) ?HO ?FO hI4
  (fun x a' X=>∃ Xb,a' = { tmps:=#[.agg #[v1,v2,v3],.int .i64 1,.slice a 1 c,.pointer (some ⟨w.heap.size,0,none⟩),undef,undef,.pointer (some ⟨w.heap.size+1,0,none⟩),.int .i64 0,.pointer (some ⟨w2.heap.size,0,none⟩),.pointer (some ⟨Xb,0,none⟩),undef,undef,.agg #[v1,v2,v3],.int .i64 1,ptrV R,ptrV R,.slice a 1 c,.func (.func 110) #[] #[.pointer (some ⟨w2.heap.size+1+1,0,none⟩),.pointer (some ⟨w2.heap.size+1,0,none⟩)],.agg #[.int .i64 x.a,.int .u8 (x.k:Int),.int .i64 x.w,.int .i64 x.t,.int .i64 x.p,.int .i64 x.c,.int .i64 x.b,.int .i64 x.q,.int .i64 x.v,.int .i64 x.u,.bool x.o,.int .i64 x.e,.int .u64 (x.s:Int)],undef,undef,undef,undef,undef,undef,undef,undef,undef,undef,undef,undef,undef,undef,undef,undef,undef,undef,undef,undef,undef,undef,undef,undef,undef,undef,undef],defers:=[] }/\Blk X Xb 39 (enA x)/\w4.heap.size<=Xb) ?Ax ?assign ?body ?done
 case HO=>
  rintro s o1 b X l1 ob oc ⟨k,x,hs1,hA⟩ hw ho hl1 hc1
  exact ⟨k,x,hs1,hA.at_,hA.sees,hA.th.putObj (by omega) ho hl1 hc1,putobj_blk hA.xb hl1 hc1,hA.xo,hA.xn⟩
 case FO=>
  rintro s o1 X l1 ob oc ⟨hT,hk⟩ hw ho hl1 hc1
  exact ⟨hT.putObj (by omega) ho hl1 hc1,hk⟩
 case Ax=>
  rintro x a' X l1 ob oc ⟨Xb,rfl,hX,hXl⟩ hl1 hc1
  exact ⟨Xb,rfl,putobj_blk hX hl1 hc1,hXl⟩
 case assign=>
  rintro l1 s x o1 b W K hI ⟨k,x',hs,hA⟩ hK
  have hWs:w4.heap.size<=W.heap.size:=hI.sz
  gi_wp2
  exact hK _ _ (below1 W _) (hI.trn (Trn.of_below (below1 W _))) ⟨k,x',hs,hA.at_,hA.sees,hA.th.below (below1 W _),hA.xb.on (below1 W _),hA.xo,hA.xn⟩ ⟨W.heap.size,rfl,blk_new W _ _,hWs⟩
 case body=>
  rintro l1 s x a' o1 b W hI hH ⟨Xb,rfl,hX,hXl⟩
  obtain ⟨rfl,rfl,hT⟩:=one_hd rfl hH
  have hst:=stood_end W
  have hX':Blk W Xb 39 #[.int .i64 0,.int .u8 10,.int .i64 0,.int .i64 0,.int .i64 0,.int .i64 0,.int .i64 0,.int .i64 0,.int .i64 0,.int .i64 0,.bool false,.int .i64 0,.int .u64 0]:=hX
  have y0:W.cell? ⟨Xb,0,none⟩=some (.int .i64 0):=hX'.cell rfl
  have y1:W.cell? ⟨Xb,1,none⟩=some (.int .u8 10):=hX'.cell rfl
  have y2:W.cell? ⟨Xb,2,none⟩=some (.int .i64 0):=hX'.cell rfl
  have y3:W.cell? ⟨Xb,3,none⟩=some (.int .i64 0):=hX'.cell rfl
  have y4:W.cell? ⟨Xb,4,none⟩=some (.int .i64 0):=hX'.cell rfl
  have y5:W.cell? ⟨Xb,5,none⟩=some (.int .i64 0):=hX'.cell rfl
  have y6:W.cell? ⟨Xb,6,none⟩=some (.int .i64 0):=hX'.cell rfl
  have y7:W.cell? ⟨Xb,7,none⟩=some (.int .i64 0):=hX'.cell rfl
  have y8:W.cell? ⟨Xb,8,none⟩=some (.int .i64 0):=hX'.cell rfl
  have y9:W.cell? ⟨Xb,9,none⟩=some (.int .i64 0):=hX'.cell rfl
  have y10:W.cell? ⟨Xb,10,none⟩=some (.bool false):=hX'.cell rfl
  have y11:W.cell? ⟨Xb,11,none⟩=some (.int .i64 0):=hX'.cell rfl
  have y12:W.cell? ⟨Xb,12,none⟩=some (.int .u64 0):=hX'.cell rfl
  clear hX
  simp only [eE]
  gi_wp2_with (refine ⟨trivial,?_⟩;gi_at_call 80;refine (CallsIn.inRound l1 (callsIn_wide.2 hst)).mono ?_;rintro e W1 ⟨rfl,hb1⟩)
  have hT1:=hT.below hb1
  have hI1:=hI.trn (Trn.of_below hb1)
  have hX1:=hX'.on hb1
  have hXlt:=hX1.lt
  have c8:W1.cell? ⟨w2.heap.size,0,none⟩=some (ptrV R):=hI1.r8.cell rfl
  have cR:W1.cell? ⟨R,0,none⟩=some (ptrV A):=hT1.rn.blk.cell rfl
  have cx:W1.cell? ⟨Xb,3,none⟩=some (.int .i64 0):=hX1.cell rfl
  have hsd0:=fun (W':World) (hW':Below W1.drew.heap.size W1.drew W')=>stand_any 0 W' ((hT1.below (Below.refl _ _).drew).rn.run.md.below hW') (by rw [one_st];decide) one_inv.chk one_inv.small
  obtain ⟨f,hf⟩:∃ f,f=(one0.M.stand 0).1:=⟨_,rfl⟩
  obtain ⟨g,hg⟩:∃ g,g=(one0.M.stand 0).2:=⟨_,rfl⟩
  simp only [<- hf, <- hg] at hsd0
  have hS:∀ W':World,Below W1.drew.heap.size W1.drew W'->W'.cell? ⟨w2.heap.size,0,none⟩=some (ptrV R)/\W'.cell? ⟨R,0,none⟩=some (ptrV A)/\W'.cell? ⟨Xb,3,none⟩=some (.int .i64 0):=fun W' hW'=>⟨(Blk.on (Blk.drew hI1.r8) hW').cell rfl,((hT1.below (Below.refl _ _).drew).rn.blk.on hW').cell rfl,(Blk.on (Blk.drew hX1) hW').cell rfl⟩
  have hS0:=hS W1.drew (Below.refl _ _)
  have hbd:Below W1.heap.size W1 W1.drew:=(Below.refl _ _).drew
  clear hf hg hst y0 y1 y2 y3 y4 y5 y6 y7 y8 y9 y10 y11 y12 c8 cR cx
  refine region_round (S:=fun W'=>W'.cell? ⟨w2.heap.size,0,none⟩=some (ptrV R)/\W'.cell? ⟨R,0,none⟩=some (ptrV A)/\W'.cell? ⟨Xb,3,none⟩=some (.int .i64 0)) (by kernel_rfl) (by kernel_rfl) (fun ⟨_,_,h⟩=>by first | exact absurd h.1 (by simp) | (simp [Exit.then,Exit.inBlock] at h)) hS0 (fun hHeld=>?_)
  obtain ⟨wd,hwd⟩:∃ wd,wd=W1.drew:=⟨_,rfl⟩
  rw [<- hwd] at hsd0 hS hS0 hbd hHeld ⊢
  have hsd:=hsd0
  clear hwd hS0 hsd0
  refine takeD (i:=0) (d:=some 23) (v:=ptrV R) (by kernel_rfl) (by kernel_rfl) (by kernel_rfl) (by kernel_rfl) (fun _ _ _ h=>h) (fun oi h=>?_) hHeld ?_
  ·simp only [uA,uZ,Option.some.injEq] at h
   subst h
   refine Or.inl ⟨by rfl,fun w' hSw=>?_⟩
   obtain ⟨x0,x1,x2⟩:=hSw
   go_simp
  try simp only [Act.put,tA,tZ,tS]
  refine takeD (i:=1) (d:=some 24) (v:=ptrV R) (by kernel_rfl) (by kernel_rfl) (by kernel_rfl) (by kernel_rfl) (fun _ _ _ h=>h) (fun oi h=>?_) hHeld ?_
  ·simp only [uA,uS,uZ,Option.some.injEq] at h
   subst h
   refine Or.inl ⟨by rfl,fun w' hSw=>?_⟩
   obtain ⟨x0,x1,x2⟩:=hSw
   go_simp
  try simp only [Act.put,tA,tZ,tS]
  refine takeD (i:=2) (d:=some 25) (v:=.pointer (some ⟨R,0,none⟩)) (by kernel_rfl) (by kernel_rfl) (by kernel_rfl) (by kernel_rfl) (fun _ _ _ h=>h) (fun oi h=>?_) hHeld ?_
  ·simp only [uA,uS,uZ,Option.some.injEq] at h
   subst h
   refine Or.inl ⟨by rfl,fun w' hSw=>?_⟩
   obtain ⟨x0,x1,x2⟩:=hSw
   go_simp
  try simp only [Act.put,tA,tZ,tS]
  refine takeD (i:=3) (d:=some 26) (v:=ptrV A) (by kernel_rfl) (by kernel_rfl) (by kernel_rfl) (by kernel_rfl) (fun _ _ _ h=>h) (fun oi h=>?_) hHeld ?_
  ·simp only [uA,uS,uZ,Option.some.injEq] at h
   subst h
   refine Or.inl ⟨by rfl,fun w' hSw=>?_⟩
   obtain ⟨x0,x1,x2⟩:=hSw
   go_simp
  try simp only [Act.put,tA,tZ,tS]
  refine takeD (i:=4) (d:=some 27) (v:=.pointer (some ⟨Xb,3,none⟩)) (by kernel_rfl) (by kernel_rfl) (by kernel_rfl) (by kernel_rfl) (fun _ _ _ h=>h) (fun oi h=>?_) hHeld ?_
  ·simp only [uA,uS,uZ,Option.some.injEq] at h
   subst h
   refine Or.inl ⟨by rfl,fun w' hSw=>?_⟩
   obtain ⟨x0,x1,x2⟩:=hSw
   go_simp
  try simp only [Act.put,tA,tZ,tS]
  refine takeD (i:=5) (d:=some 28) (v:=.int .i64 0) (by kernel_rfl) (by kernel_rfl) (by kernel_rfl) (by kernel_rfl) (fun _ _ _ h=>h) (fun oi h=>?_) hHeld ?_
  ·simp only [uA,uS,uZ,Option.some.injEq] at h
   subst h
   refine Or.inl ⟨by rfl,fun w' hSw=>?_⟩
   obtain ⟨x0,x1,x2⟩:=hSw
   go_simp
  try simp only [Act.put,tA,tZ,tS]
  refine wpAnyH_ready (rs:=[6,10]) (by kernel_rfl) (by simp) ?_
  refine AllReadyH.cons rfl (fun K hKK=>?_) (AllReadyH.cons rfl (fun K hKK=>?_) AllReadyH.nil)
  ·skip
   go_simp
   refine (hsd _ (Below.refl _ _)).mono ?_
   rintro e W2 ⟨rfl,hb2⟩
   have hc2:=hb2
   refine hKK.out _ _ (hS _ (hc2)) (fun hHeld=>?_)
   clear hKK K
   try simp only [Act.put,tA,tZ,tS]
   refine takeD (i:=7) (d:=some 22) (v:=.tuple #[fraV f,.int .i64 g]) (by kernel_rfl) (by kernel_rfl) (by kernel_rfl) (by kernel_rfl) (fun _ _ _ h=>h) (fun oi h=>?_) hHeld ?_
   ·simp only [uA,uS,uZ,Option.some.injEq] at h
    subst h
    refine Or.inl ⟨by rfl,fun w' hSw=>?_⟩
    obtain ⟨x0,x1,x2⟩:=hSw
    go_simp
   try simp only [Act.put,tA,tZ,tS]
   refine takeD (i:=8) (d:=some 30) (v:=fraV f) (by kernel_rfl) (by kernel_rfl) (by kernel_rfl) (by kernel_rfl) (fun _ _ _ h=>h) (fun oi h=>?_) hHeld ?_
   ·simp only [uA,uS,uZ,Option.some.injEq] at h
    subst h
    refine Or.inl ⟨by rfl,fun w' hSw=>?_⟩
    obtain ⟨x0,x1,x2⟩:=hSw
    go_simp
   try simp only [Act.put,tA,tZ,tS]
   refine takeD (i:=9) (d:=some 31) (v:=.int .i64 g) (by kernel_rfl) (by kernel_rfl) (by kernel_rfl) (by kernel_rfl) (fun _ _ _ h=>h) (fun oi h=>?_) hHeld ?_
   ·simp only [uA,uS,uZ,Option.some.injEq] at h
    subst h
    refine Or.inl ⟨by rfl,fun w' hSw=>?_⟩
    obtain ⟨x0,x1,x2⟩:=hSw
    go_simp
   try simp only [Act.put,tA,tZ,tS]
   refine wpAnyH_ready (rs:=[10]) (by kernel_rfl) (by simp) ?_
   refine AllReadyH.cons rfl (fun K hKK=>?_) AllReadyH.nil
   go_simp
   obtain ⟨W5,hW5⟩:∃ W5,W5=W2.alloc (.cells #[.int .i64 0,.int .i64 0,.int .i64 0,.int .i64 0,.int .i64 0,.int .i64 0,.int .i64 0,.int .i64 0,.int .i64 0,.int .i64 0] 61):=⟨_,rfl⟩
   have hb5:Below wd.heap.size wd W5:=by rw [hW5];exact below_nx hc2 (below1 W2 _) (Nat.le_refl _)
   have hZ5:Blk W5 W2.heap.size 61 #[.int .i64 0,.int .i64 0,.int .i64 0,.int .i64 0,.int .i64 0,.int .i64 0,.int .i64 0,.int .i64 0,.int .i64 0,.int .i64 0]:=by rw [hW5];exact blk_new W2 _ _
   obtain ⟨B10,hB10e⟩:∃ B,B=W2.heap.size:=⟨_,rfl⟩
   have hB10:wd.heap.size<=B10:=by rw [hB10e];exact hc2.size
   rw [<- hW5, <- hB10e]
   rw [<- hB10e] at hZ5
   clear hW5 hB10e
   refine hKK.out _ _ (hS _ (hb5)) (fun hHeld=>?_)
   clear hKK K
   try simp only [Act.put,tA,tZ,tS]
   have hb5l:=Nat.le_refl wd.heap.size
   have z0:W5.cell? ⟨B10,0,none⟩=some (.int .i64 0):=hZ5.cell rfl
   have z1:W5.cell? ⟨B10,1,none⟩=some (.int .i64 0):=hZ5.cell rfl
   have z2:W5.cell? ⟨B10,2,none⟩=some (.int .i64 0):=hZ5.cell rfl
   have z3:W5.cell? ⟨B10,3,none⟩=some (.int .i64 0):=hZ5.cell rfl
   have z4:W5.cell? ⟨B10,4,none⟩=some (.int .i64 0):=hZ5.cell rfl
   have z5:W5.cell? ⟨B10,5,none⟩=some (.int .i64 0):=hZ5.cell rfl
   have z6:W5.cell? ⟨B10,6,none⟩=some (.int .i64 0):=hZ5.cell rfl
   have z7:W5.cell? ⟨B10,7,none⟩=some (.int .i64 0):=hZ5.cell rfl
   have z8:W5.cell? ⟨B10,8,none⟩=some (.int .i64 0):=hZ5.cell rfl
   have z9:W5.cell? ⟨B10,9,none⟩=some (.int .i64 0):=hZ5.cell rfl
   have fz:=fun k=>hZ5.frozen k
   obtain ⟨hf9,hbut⟩:=sto10 hZ5 (.int .i64 f.c) (.int .i64 f.p) (.int .i64 f.r0) (.int .i64 f.r1) (.int .i64 f.r2) (.int .i64 f.r3) (.int .i64 f.r4) (.int .i64 f.r5) (.int .i64 f.r6) (.int .i64 f.r7)
   refine wpAnyH_ready (rs:=[11]) (by kernel_rfl) (by simp) ?_
   refine AllReadyH.cons rfl (fun K hKK=>?_) AllReadyH.nil
   go_simp
   have hb9:=below_but hb5 hbut hb5l hB10
   refine hKK.out _ _ (hS _ hb9) (fun hHeld=>?_)
   clear hKK K z0 z1 z2 z3 z4 z5 z6 z7 z8 z9 fz
   try simp only [Act.put,tA,tZ,tS]
   refine takeD (i:=12) (d:=some 11) (v:=.int .i64 g) (by kernel_rfl) (by kernel_rfl) (by kernel_rfl) (by kernel_rfl) (fun _ _ _ h=>h) (fun oi h=>?_) hHeld ?_
   ·simp only [uA,uS,uZ,Option.some.injEq] at h
    subst h
    refine Or.inl ⟨by rfl,fun w' hSw=>?_⟩
    obtain ⟨x0,x1,x2⟩:=hSw
    go_simp
   try simp only [Act.put,tA,tZ,tS]
   refine wpAnyH_done (by kernel_rfl) ?_ _
   generalize (((((((((W5.setCell ⟨B10,0,none⟩ (.int .i64 f.c)).setCell ⟨B10,1,none⟩ (.int .i64 f.p)).setCell ⟨B10,2,none⟩ (.int .i64 f.r0)).setCell ⟨B10,3,none⟩ (.int .i64 f.r1)).setCell ⟨B10,4,none⟩ (.int .i64 f.r2)).setCell ⟨B10,5,none⟩ (.int .i64 f.r3)).setCell ⟨B10,6,none⟩ (.int .i64 f.r4)).setCell ⟨B10,7,none⟩ (.int .i64 f.r5)).setCell ⟨B10,8,none⟩ (.int .i64 f.r6)).setCell ⟨B10,9,none⟩ (.int .i64 f.r7)=W9 at hf9 hb9 ⊢
   obtain ⟨i0,hi0,hz0,hz1,hz2⟩:=info_parts infoFrm
   have hb19:=below_nx hbd hb9 (Nat.le_refl _)
   have hI9:=hI1.trn (Trn.of_below hb19)
   obtain ⟨a0,c0,hA9,hnil⟩:=hI9.all
   obtain ⟨rfl,rfl⟩:=hnil rfl
   have hA9':Blk W9 (w.heap.size+1) 99 #[.slice none 0 0]:=hA9
   have ca:W9.cell? ⟨w.heap.size+1,0,none⟩=some (.slice none 0 0):=hA9'.cell rfl
   have hbW9:=below_nx hb1 hb19 (Nat.le_refl _)
   have f0:W9.cell? ⟨B10,0,none⟩=some (.int .i64 f.c):=hf9.cell rfl
   have f1:W9.cell? ⟨B10,1,none⟩=some (.int .i64 f.p):=hf9.cell rfl
   have f2:W9.cell? ⟨B10,2,none⟩=some (.int .i64 f.r0):=hf9.cell rfl
   have f3:W9.cell? ⟨B10,3,none⟩=some (.int .i64 f.r1):=hf9.cell rfl
   have f4:W9.cell? ⟨B10,4,none⟩=some (.int .i64 f.r2):=hf9.cell rfl
   have f5:W9.cell? ⟨B10,5,none⟩=some (.int .i64 f.r3):=hf9.cell rfl
   have f6:W9.cell? ⟨B10,6,none⟩=some (.int .i64 f.r4):=hf9.cell rfl
   have f7:W9.cell? ⟨B10,7,none⟩=some (.int .i64 f.r5):=hf9.cell rfl
   have f8:W9.cell? ⟨B10,8,none⟩=some (.int .i64 f.r6):=hf9.cell rfl
   have f9:W9.cell? ⟨B10,9,none⟩=some (.int .i64 f.r7):=hf9.cell rfl
   have hcl:∀ (j:Nat) (u:Value),([.int .i64 f.c,.int .i64 f.p,.int .i64 f.r0,.int .i64 f.r1,.int .i64 f.r2,.int .i64 f.r3,.int .i64 f.r4,.int .i64 f.r5,.int .i64 f.r6,.int .i64 f.r7]:List Value)[j]?=some u->(W9.alloc (.cells #[.int .i64 f.c,.int .i64 f.p,.int .i64 f.r0,.int .i64 f.r1,.int .i64 f.r2,.int .i64 f.r3,.int .i64 f.r4,.int .i64 f.r5,.int .i64 f.r6,.int .i64 f.r7] 61)).cell? (Addr.add ⟨W9.heap.size,0,none⟩ j)=some u:=fun j u hj=>by
    rw [add0]
    exact Blk.cell (blk_new W9 61 #[.int .i64 f.c,.int .i64 f.p,.int .i64 f.r0,.int .i64 f.r1,.int .i64 f.r2,.int .i64 f.r3,.int .i64 f.r4,.int .i64 f.r5,.int .i64 f.r6,.int .i64 f.r7]) (by simpa using hj)
   clear hI9 hA9 hnil hb9 hbd hS hsd hf9
   gi_wp2_with (gi_at_builtin;refine wpListIn_append_own _ rfl _ _ 99 rfl W9.heap.size 61 i0 (.agg #[.int .i64 0,.int .i64 0,.int .i64 0,.int .i64 0,.int .i64 0,.int .i64 0,.int .i64 0,.int .i64 0,.int .i64 0,.int .i64 0]) 10 80 Tryz.underlying99 hi0 hz0 hz1 hz2 rfl (by decide) _ 0 [] rfl (World.ownsRow_nil _ _ _ _) ⟨W9.heap.size,0,none⟩ 1 1 [.int .i64 f.c,.int .i64 f.p,.int .i64 f.r0,.int .i64 f.r1,.int .i64 f.r2,.int .i64 f.r3,.int .i64 f.r4,.int .i64 f.r5,.int .i64 f.r6,.int .i64 f.r7] rfl rfl hcl (by simp [Value.oneCell']) (by unfold maxLen;omega) (by omega) (by simp) ?_;intro v' w1' hown hgrow _;obtain ⟨g1,p1,rfl⟩:=ownsRow_succ hown;have hb10:=(below1 W9 (.cells #[.int .i64 f.c,.int .i64 f.p,.int .i64 f.r0,.int .i64 f.r1,.int .i64 f.r2,.int .i64 f.r3,.int .i64 f.r4,.int .i64 f.r5,.int .i64 f.r6,.int .i64 f.r7] 61)).trans (grown_below (World.ownsRow_nil _ W9.heap.size 61 10) hgrow (by simp));have ca1:=(hA9'.on hb10).cell (k:=0) rfl;have cf1:=(hA9'.on hb10).frozen 0)
   have hI':=hI
   rw [hs4,hs3] at hI'
   exact st_close hI' hH (below_nx hbW9 hb10 (Nat.le_refl _)) rfl (by omega) (by omega) (by omega)
  ·skip
   go_simp
   obtain ⟨W4,hW4⟩:∃ W4,W4=wd.alloc (.cells #[.int .i64 0,.int .i64 0,.int .i64 0,.int .i64 0,.int .i64 0,.int .i64 0,.int .i64 0,.int .i64 0,.int .i64 0,.int .i64 0] 61):=⟨_,rfl⟩
   have hb4:Below wd.heap.size wd W4:=by rw [hW4];exact below1 wd _
   have hZ4:Blk W4 wd.heap.size 61 #[.int .i64 0,.int .i64 0,.int .i64 0,.int .i64 0,.int .i64 0,.int .i64 0,.int .i64 0,.int .i64 0,.int .i64 0,.int .i64 0]:=by rw [hW4];exact blk_new wd _ _
   obtain ⟨B10,hB10e⟩:∃ B,B=wd.heap.size:=⟨_,rfl⟩
   have hB10:wd.heap.size<=B10:=by rw [hB10e];exact Nat.le_refl _
   rw [<- hW4, <- hB10e]
   rw [<- hB10e] at hZ4
   clear hW4 hB10e
   refine hKK.out _ _ (hS _ (hb4)) (fun hHeld=>?_)
   clear hKK K
   try simp only [Act.put,tA,tZ,tS]
   refine wpAnyH_ready (rs:=[6]) (by kernel_rfl) (by simp) ?_
   refine AllReadyH.cons rfl (fun K hKK=>?_) AllReadyH.nil
   go_simp
   refine (hsd _ hb4).mono ?_
   rintro e W5 ⟨rfl,hb45⟩
   have hb5:=below_nx hb4 hb45 (Nat.le_refl _)
   have hZ5:=hZ4.on hb45
   refine hKK.out _ _ (hS _ (hb5)) (fun hHeld=>?_)
   clear hKK K
   try simp only [Act.put,tA,tZ,tS]
   refine takeD (i:=7) (d:=some 22) (v:=.tuple #[fraV f,.int .i64 g]) (by kernel_rfl) (by kernel_rfl) (by kernel_rfl) (by kernel_rfl) (fun _ _ _ h=>h) (fun oi h=>?_) hHeld ?_
   ·simp only [uA,uS,uZ,Option.some.injEq] at h
    subst h
    refine Or.inl ⟨by rfl,fun w' hSw=>?_⟩
    obtain ⟨x0,x1,x2⟩:=hSw
    go_simp
   try simp only [Act.put,tA,tZ,tS]
   refine takeD (i:=8) (d:=some 30) (v:=fraV f) (by kernel_rfl) (by kernel_rfl) (by kernel_rfl) (by kernel_rfl) (fun _ _ _ h=>h) (fun oi h=>?_) hHeld ?_
   ·simp only [uA,uS,uZ,Option.some.injEq] at h
    subst h
    refine Or.inl ⟨by rfl,fun w' hSw=>?_⟩
    obtain ⟨x0,x1,x2⟩:=hSw
    go_simp
   try simp only [Act.put,tA,tZ,tS]
   refine takeD (i:=9) (d:=some 31) (v:=.int .i64 g) (by kernel_rfl) (by kernel_rfl) (by kernel_rfl) (by kernel_rfl) (fun _ _ _ h=>h) (fun oi h=>?_) hHeld ?_
   ·simp only [uA,uS,uZ,Option.some.injEq] at h
    subst h
    refine Or.inl ⟨by rfl,fun w' hSw=>?_⟩
    obtain ⟨x0,x1,x2⟩:=hSw
    go_simp
   try simp only [Act.put,tA,tZ,tS]
   have hb5l:=Nat.le_refl wd.heap.size
   have z0:W5.cell? ⟨B10,0,none⟩=some (.int .i64 0):=hZ5.cell rfl
   have z1:W5.cell? ⟨B10,1,none⟩=some (.int .i64 0):=hZ5.cell rfl
   have z2:W5.cell? ⟨B10,2,none⟩=some (.int .i64 0):=hZ5.cell rfl
   have z3:W5.cell? ⟨B10,3,none⟩=some (.int .i64 0):=hZ5.cell rfl
   have z4:W5.cell? ⟨B10,4,none⟩=some (.int .i64 0):=hZ5.cell rfl
   have z5:W5.cell? ⟨B10,5,none⟩=some (.int .i64 0):=hZ5.cell rfl
   have z6:W5.cell? ⟨B10,6,none⟩=some (.int .i64 0):=hZ5.cell rfl
   have z7:W5.cell? ⟨B10,7,none⟩=some (.int .i64 0):=hZ5.cell rfl
   have z8:W5.cell? ⟨B10,8,none⟩=some (.int .i64 0):=hZ5.cell rfl
   have z9:W5.cell? ⟨B10,9,none⟩=some (.int .i64 0):=hZ5.cell rfl
   have fz:=fun k=>hZ5.frozen k
   obtain ⟨hf9,hbut⟩:=sto10 hZ5 (.int .i64 f.c) (.int .i64 f.p) (.int .i64 f.r0) (.int .i64 f.r1) (.int .i64 f.r2) (.int .i64 f.r3) (.int .i64 f.r4) (.int .i64 f.r5) (.int .i64 f.r6) (.int .i64 f.r7)
   refine wpAnyH_ready (rs:=[11]) (by kernel_rfl) (by simp) ?_
   refine AllReadyH.cons rfl (fun K hKK=>?_) AllReadyH.nil
   go_simp
   have hb9:=below_but hb5 hbut hb5l hB10
   refine hKK.out _ _ (hS _ hb9) (fun hHeld=>?_)
   clear hKK K z0 z1 z2 z3 z4 z5 z6 z7 z8 z9 fz
   try simp only [Act.put,tA,tZ,tS]
   refine takeD (i:=12) (d:=some 11) (v:=.int .i64 g) (by kernel_rfl) (by kernel_rfl) (by kernel_rfl) (by kernel_rfl) (fun _ _ _ h=>h) (fun oi h=>?_) hHeld ?_
   ·simp only [uA,uS,uZ,Option.some.injEq] at h
    subst h
    refine Or.inl ⟨by rfl,fun w' hSw=>?_⟩
    obtain ⟨x0,x1,x2⟩:=hSw
    go_simp
   try simp only [Act.put,tA,tZ,tS]
   refine wpAnyH_done (by kernel_rfl) ?_ _
   generalize (((((((((W5.setCell ⟨B10,0,none⟩ (.int .i64 f.c)).setCell ⟨B10,1,none⟩ (.int .i64 f.p)).setCell ⟨B10,2,none⟩ (.int .i64 f.r0)).setCell ⟨B10,3,none⟩ (.int .i64 f.r1)).setCell ⟨B10,4,none⟩ (.int .i64 f.r2)).setCell ⟨B10,5,none⟩ (.int .i64 f.r3)).setCell ⟨B10,6,none⟩ (.int .i64 f.r4)).setCell ⟨B10,7,none⟩ (.int .i64 f.r5)).setCell ⟨B10,8,none⟩ (.int .i64 f.r6)).setCell ⟨B10,9,none⟩ (.int .i64 f.r7)=W9 at hf9 hb9 ⊢
   obtain ⟨i0,hi0,hz0,hz1,hz2⟩:=info_parts infoFrm
   have hb19:=below_nx hbd hb9 (Nat.le_refl _)
   have hI9:=hI1.trn (Trn.of_below hb19)
   obtain ⟨a0,c0,hA9,hnil⟩:=hI9.all
   obtain ⟨rfl,rfl⟩:=hnil rfl
   have hA9':Blk W9 (w.heap.size+1) 99 #[.slice none 0 0]:=hA9
   have ca:W9.cell? ⟨w.heap.size+1,0,none⟩=some (.slice none 0 0):=hA9'.cell rfl
   have hbW9:=below_nx hb1 hb19 (Nat.le_refl _)
   have f0:W9.cell? ⟨B10,0,none⟩=some (.int .i64 f.c):=hf9.cell rfl
   have f1:W9.cell? ⟨B10,1,none⟩=some (.int .i64 f.p):=hf9.cell rfl
   have f2:W9.cell? ⟨B10,2,none⟩=some (.int .i64 f.r0):=hf9.cell rfl
   have f3:W9.cell? ⟨B10,3,none⟩=some (.int .i64 f.r1):=hf9.cell rfl
   have f4:W9.cell? ⟨B10,4,none⟩=some (.int .i64 f.r2):=hf9.cell rfl
   have f5:W9.cell? ⟨B10,5,none⟩=some (.int .i64 f.r3):=hf9.cell rfl
   have f6:W9.cell? ⟨B10,6,none⟩=some (.int .i64 f.r4):=hf9.cell rfl
   have f7:W9.cell? ⟨B10,7,none⟩=some (.int .i64 f.r5):=hf9.cell rfl
   have f8:W9.cell? ⟨B10,8,none⟩=some (.int .i64 f.r6):=hf9.cell rfl
   have f9:W9.cell? ⟨B10,9,none⟩=some (.int .i64 f.r7):=hf9.cell rfl
   have hcl:∀ (j:Nat) (u:Value),([.int .i64 f.c,.int .i64 f.p,.int .i64 f.r0,.int .i64 f.r1,.int .i64 f.r2,.int .i64 f.r3,.int .i64 f.r4,.int .i64 f.r5,.int .i64 f.r6,.int .i64 f.r7]:List Value)[j]?=some u->(W9.alloc (.cells #[.int .i64 f.c,.int .i64 f.p,.int .i64 f.r0,.int .i64 f.r1,.int .i64 f.r2,.int .i64 f.r3,.int .i64 f.r4,.int .i64 f.r5,.int .i64 f.r6,.int .i64 f.r7] 61)).cell? (Addr.add ⟨W9.heap.size,0,none⟩ j)=some u:=fun j u hj=>by
    rw [add0]
    exact Blk.cell (blk_new W9 61 #[.int .i64 f.c,.int .i64 f.p,.int .i64 f.r0,.int .i64 f.r1,.int .i64 f.r2,.int .i64 f.r3,.int .i64 f.r4,.int .i64 f.r5,.int .i64 f.r6,.int .i64 f.r7]) (by simpa using hj)
   clear hI9 hA9 hnil hb9 hbd hS hsd hf9
   gi_wp2_with (gi_at_builtin;refine wpListIn_append_own _ rfl _ _ 99 rfl W9.heap.size 61 i0 (.agg #[.int .i64 0,.int .i64 0,.int .i64 0,.int .i64 0,.int .i64 0,.int .i64 0,.int .i64 0,.int .i64 0,.int .i64 0,.int .i64 0]) 10 80 Tryz.underlying99 hi0 hz0 hz1 hz2 rfl (by decide) _ 0 [] rfl (World.ownsRow_nil _ _ _ _) ⟨W9.heap.size,0,none⟩ 1 1 [.int .i64 f.c,.int .i64 f.p,.int .i64 f.r0,.int .i64 f.r1,.int .i64 f.r2,.int .i64 f.r3,.int .i64 f.r4,.int .i64 f.r5,.int .i64 f.r6,.int .i64 f.r7] rfl rfl hcl (by simp [Value.oneCell']) (by unfold maxLen;omega) (by omega) (by simp) ?_;intro v' w1' hown hgrow _;obtain ⟨g1,p1,rfl⟩:=ownsRow_succ hown;have hb10:=(below1 W9 (.cells #[.int .i64 f.c,.int .i64 f.p,.int .i64 f.r0,.int .i64 f.r1,.int .i64 f.r2,.int .i64 f.r3,.int .i64 f.r4,.int .i64 f.r5,.int .i64 f.r6,.int .i64 f.r7] 61)).trans (grown_below (World.ownsRow_nil _ W9.heap.size 61 10) hgrow (by simp));have ca1:=(hA9'.on hb10).cell (k:=0) rfl;have cf1:=(hA9'.on hb10).frozen 0)
   have hI':=hI
   rw [hs4,hs3] at hI'
   exact st_close hI' hH (below_nx hbW9 hb10 (Nat.le_refl _)) rfl (by omega) (by omega) (by omega)
 case done=>
  rintro D s o1 W hD ho ⟨hT,k,hk,hs,hns⟩ hI hK
  have hk1:k=1:=by
   simp only [List.length_singleton] at hk
   by_cases e:k=0
   ·subst e
    exact absurd one_sE (hns eE rfl)
   ·omega
  subst hk1
  have hs':s = [eE]:=hs
  subst hs'
  obtain ⟨a9,c9,hA,-⟩:=hI.all
  have hA':Blk W (w.heap.size+1) 99 #[.slice a9 1 c9]:=hA
  have c8:W.cell? ⟨w2.heap.size,0,none⟩=some (ptrV R):=hI.r8.cell rfl
  have r3:W.cell? ⟨R,3,none⟩=some (.int .i64 0):=by
   have:W.cell? ⟨R,3,none⟩=some (.int .i64 (one0.go [eE]).e):=hT.rn.blk.cell rfl
   rw [one_ae] at this;exact this
  have ca:W.cell? ⟨w.heap.size+1,0,none⟩=some (.slice a9 1 c9):=hA'.cell rfl
  have cf:=hA'.frozen 0
  have E1:=hA'.set 0 (.slice a9 1 c9)
  have E2:=hT.rn.run.bel.setCell (p:=⟨w.heap.size+1,0,none⟩) (Nat.le_succ _) (.slice a9 1 c9)
  have E3:=(KeepsOthers.setCell W ⟨w.heap.size+1,0,none⟩ (.slice a9 1 c9)).same D _ hK rfl
  have hs4':w.heap.size<=D:=by omega
  clear hT hI hns hs hT4 hI4 hA hA'
  go_wp2_with fail
  rw [Exit.noGoto_ret]
  generalize W.setCell ⟨w.heap.size+1,0,none⟩ (.slice a9 1 c9)=W5 at E1 E2 E3 ⊢
  refine ⟨by simp,.inl ⟨_,_,rfl,run_takeDeferred E3,?_⟩⟩
  have E4:Blk W5 (w.heap.size+1) 99 #[.slice a9 1 c9]:=by simpa using E1
  have hc5:(W5.putObj D (.deferred none)).cell? ⟨w.heap.size+1,0,none⟩=some (.slice a9 1 c9):=(putobj_blk E4 E3 rfl).cell rfl
  refine ⟨.tuple #[.slice a9 1 c9,.int .i64 0],?_,⟨a9,c9,rfl⟩,frm_low E2 (frm_obj W5 D _) (fun k e=>by rw [e];exact hs4')⟩
  simp [results,Tryz.f38,go_sem,hc5]
end
end Go.Proofs.YtnfbncgfpmcpnaaGreat.Mdl
