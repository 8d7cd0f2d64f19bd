/-
  ReplayNext: its walks, part 41.
-/
import Derived.Carry
import Derived.Test.YtnfbncgfpmcpnaaGreatQ40
set_option maxRecDepth 100000
set_option maxHeartbeats 12800000
namespace Go.Proofs.YtnfbncgfpmcpnaaGreat.Mdl
open Go.RowKit Go.Shelf
open Ent (En EnRow okB)
open Mch (Frm below1 below_nx)
attribute [local go_sem] Oper.semAt_some
structure PlI (R P M n:Nat) (s:List En) (o:Nat->Nat) (X:World):Prop where
 pl:Blk X P 151 #[ptrV R,.map (some M),.int .i64 (if s = [] then 1 else 0)]
 mp:EmptyAt X M
 oP:o P=0
 oM:o M=0
 nP:P ≠ R
 nM:M ≠ R
 lP:P<n
 lM:M<n
 sz:n<=X.heap.size
theorem PlI.trn {R P M n:Nat} {s:List En} {o o':Nat->Nat} {X Y:World} (h:PlI R P M n s o X) (ht:Trn R o o' X Y):PlI R P M n s o' Y:=by
 have hm:=(Array.getElem?_eq_some_iff.1 h.mp).1
 exact ⟨trn_blk ht h.pl h.oP h.nP,(ht.frm.block M hm (fun e=>e.elim (fun e=>e h.oM) h.nM)).trans h.mp,by rw [ht.old _ h.pl.lt];exact h.oP,by rw [ht.old _ hm];exact h.oM,h.nP,h.nM,h.lP,h.lM,Nat.le_trans h.sz ht.frm.size⟩
theorem PlI.putObj {R P M n:Nat} {s:List En} {o:Nat->Nat} {X:World} {l:Nat} {ob:Obj} (h:PlI R P M n s o X) (hl:n<=l):PlI R P M n s o (X.putObj l ob):=by
 have:=h.lP
 have:=h.lM
 exact ⟨(World.putObj_heap_other (by omega)).trans h.pl,(World.putObj_heap_other (by omega)).trans h.mp,h.oP,h.oM,h.nP,h.nM,h.lP,h.lM,by simpa [World.putObj] using h.sz⟩
theorem pl_close {w W w1:World} {R A P M n T1 T2 b:Nat} {o:Nat->Nat} {sv:Value} {x:En} {l:List En} (hI:PlI R P M n [] o W) (hH:HdT w R A one0 l T1 T2 sv ([] ++ [x]) o b W) (hb:Below W.heap.size W w1) (h1:P ≠ T1) (h2:P ≠ T2) (h3:w.heap.size<=P) :
  KeepsFrom n W (w1.setCell ⟨P,2,none⟩ (.int .i64 0))/\∃ o',(∀ k,k<W.heap.size->o' k=o k)/\PlI R P M n ([] ++ [x]) o' (w1.setCell ⟨P,2,none⟩ (.int .i64 0))/\HdT w R A one0 l T1 T2 sv ([] ++ [x]) o' b (w1.setCell ⟨P,2,none⟩ (.int .i64 0)):=by
 obtain ⟨W9,hW9⟩:∃ W9,W9=w1.setCell ⟨P,2,none⟩ (.int .i64 0):=⟨_,rfl⟩
 rw [<- hW9]
 have hF:Frm (fun k=>k=P) W W9:=by
  rw [hW9]
  exact Mch.Frm.trans_new (Frm.of_below hb _) (Mch.Frm.set (F:=fun k=>k=P) (p:=⟨P,2,none⟩) w1 _ rfl) (fun i hi=>.inl hi)
 have hm:=(Array.getElem?_eq_some_iff.1 hI.mp).1
 have hPM:M ≠ P:=fun e=>by
  have h8:=hI.mp
  rw [e] at h8
  have h9:=hI.pl.symm.trans h8
  cases h9
 have hA9:Blk W9 P 151 #[ptrV R,.map (some M),.int .i64 0]:=by
  rw [hW9]
  have:=(hI.pl.on hb).set 2 (.int .i64 0)
  simpa using this
 refine ⟨?_,o,fun _ _=>rfl,⟨hA9,(hF.block M hm hPM).trans hI.mp,hI.oP,hI.oM,hI.nP,hI.nM,hI.lP,hI.lM,Nat.le_trans hI.sz hF.size⟩,?_⟩
 ·rw [hW9]
  exact (keepsFrom_below hb).trans ((KeepsOthers.setCell _ _ _).from _)
 ·obtain ⟨k,x',hs,hA'⟩:=hH
  refine ⟨k,x',hs,hA'.at_,hA'.sees,hA'.th.aside hF (fun j e=>by rw [e];exact ⟨hI.oP,hI.nP,h1,h2,h3⟩),(hF.block b hA'.xb.lt (fun e=>?_)).trans hA'.xb,hA'.xo,hA'.xn⟩
  have h8:=hA'.xb
  rw [e] at h8
  have:=hI.pl.symm.trans h8
  simp only [Option.some.injEq,Obj.cells.injEq] at this
  exact absurd this.2.1 (by decide)
section
variable {lo hi:Nat} {v1 v2 v3 sv:Value}
theorem polls_one (w:World) (h:PrgAt lo hi w v1 v2 v3 oneP) (hl:EnRow w sv [eP]) :
  Calls Tryz.prog 37 #[.agg #[v1,v2,v3],.int .i64 1,sv] w fun e w'=>e=.returned (.tuple #[.int .i64 0,.bool false])/\Below w.heap.size w w':=by
 obtain ⟨a,c,rfl⟩:=hl.slice
 obtain ⟨w1,hw1⟩:∃ w1,w1=w.alloc (.cells #[v1,v2,v3] 26):=⟨_,rfl⟩
 have hB1:Below w.heap.size w w1:=by rw [hw1];exact below1 w _
 have hX1:Blk w1 w.heap.size 26 #[v1,v2,v3]:=by rw [hw1];exact blk_new w _ _
 have hbg:Calls Tryz.prog 75 #[.agg #[v1,v2,v3],.int .i64 1] w1 (BegPost w1 oneP 1):=begun_ok 1 w1 (h.later hB1) one_small one_chk (by decide) (by decide)
 have x0:w1.cell? ⟨w.heap.size,0,none⟩=some v1:=hX1.cell rfl
 have x1:w1.cell? ⟨w.heap.size,1,none⟩=some v2:=hX1.cell rfl
 have x2:w1.cell? ⟨w.heap.size,2,none⟩=some v3:=hX1.cell rfl
 have hmm:=@run_makeMap Tryz.prog
 clear h hX1
 refine (callsIn_wide (n:=4)).1 ?_
 refine callsIn_of_wp_marks Tryz.func37 rfl trivial ?_ rfl
 simp only [Tryz.ntmps37,List.size_toArray,List.length_cons,List.length_nil,Nat.reduceAdd,Nat.reduceSub,Array.replicate_succ,Array.replicate_zero,List.push_toArray,List.append_toArray,List.nil_append,List.cons_append]
 refine wpIn_wide.2 ?_
 go_upto_region 1 with fail
 rw [<- hw1]
 clear hw1
 go_step3
 go_wp2_with fail
 unfold BegPost at hbg
 refine hbg.mono ?_
 clear hbg x0 x1 x2
 rintro e w2 ⟨R,A,o,rfl,hR2'⟩
 have hR2:=hR2'.rebase hB1
 have hRlt:=hR2.blk.lt
 have hs2:=hR2.run.bel.size
 obtain ⟨w3,hw3⟩:∃ w3,w3=(w2.alloc (.map #[] 0)).alloc (.cells #[ptrV R,.map (some w2.heap.size),.int .i64 1] 151):=⟨_,rfl⟩
 have hb3:Below w2.heap.size w2 w3:=by rw [hw3];exact below2 w2 _ _
 have hM3:EmptyAt w3 w2.heap.size:=by
  rw [hw3]
  exact (Below.heap_alloc _ _ _ (by simp)).trans (World.alloc_heap_new w2 _)
 have hP3:Blk w3 (w2.heap.size+1) 151 #[ptrV R,.map (some w2.heap.size),.int .i64 1]:=by rw [hw3];exact blk_at (by simp)
 have hs3:w3.heap.size=w2.heap.size+1+1:=by rw [hw3];simp
 have hth:=through_any R a 1 c w3
 obtain ⟨w4,hw4⟩:∃ w4,w4=(w3.alloc (.cells #[ptrV R] 102)).alloc (.cells #[.slice a 1 c] 51):=⟨_,rfl⟩
 have hb4:Below w3.heap.size w3 w4:=by rw [hw4];exact below2 w3 _ _
 have hb24:=below_nx hb3 hb4 (Nat.le_refl _)
 have hT4:ThAt w o R A one0 (w3.heap.size+1) w3.heap.size (.slice a 1 c) w4:=
  ⟨hR2.below hb24,by rw [hw4];exact blk_at (by simp),by rw [hw4];exact (blk_new w3 _ _).alloc _,hR2.run.md.off (by omega),hR2.run.md.off (by omega),by omega,by omega⟩
 have hs4:w4.heap.size=w3.heap.size+1+1:=by rw [hw4];simp
 have hI4:PlI R (w2.heap.size+1) w2.heap.size w4.heap.size [] o w4:=
  ⟨hP3.on hb4,(hb4.block _ (by omega)).trans hM3,hR2.run.md.off (by omega),hR2.run.md.off (Nat.le_refl _),by omega,by omega,by omega,by omega,Nat.le_refl _⟩
 have HS3:=Lib.hid hs3
 have HS4:=Lib.hid hs4
 rw [<- hw4] at hth
 clear hR2' hb3 hb4 hb24 hM3 hP3 hB1 hs3 hs4
 go_wp2_with fail
 rw [<- hw3]
 clear hw3
 go_step3
 go_wp2_with fail
 refine hth.mono ?_
 clear hth
 rintro e w4 ⟨rfl,rfl⟩
 go_wp2_with fail
 rw [<- hw4]
 clear hw4
 have hlow:∀ k,o k ≠ 0->k<w4.heap.size:=fun k hk=>by
  by_cases e:k<w4.heap.size
  ·exact e
  ·exact absurd (hT4.rn.run.md.off (Nat.le_of_not_lt e)) hk
 refine (wpIn_wide (n:=4)).1 ?_
 refine range_turn rfl (by omega) (gf:=110) (lb:=#[.pointer (some ⟨w3.heap.size+1,0,none⟩),.pointer (some ⟨w3.heap.size,0,none⟩)]) rfl trivial (enters_of Tryz.func110 (by kernel_rfl) rfl)
  (through1_turn hT4 hl (by decide) (Nat.zero_le 1000) (fun x hx=>by rw [List.mem_singleton] at hx;rw [hx];exact eP_ok)) hT4.rn.blk.lt hlow (fun _=>rfl) (PlI R (w2.heap.size+1) w2.heap.size w4.heap.size) (fun s o1 X o2 Y h ht=>h.trn ht) (fun s o1 X l ob h hl1 ho=>h.putObj hl1) ?HO ?FO hI4
  (fun x a' X=>∃ Xb,a' = { tmps:=#[.agg #[v1,v2,v3],.int .i64 1,.slice a 1 c,.pointer (some ⟨w.heap.size,0,none⟩),undef,undef,.int .i64 0,.bool false,ptrV R,.pointer (some ⟨w2.heap.size+1,0,none⟩),.pointer (some ⟨Xb,0,none⟩),.agg #[v1,v2,v3],.int .i64 1,ptrV R,ptrV R,.map (some w2.heap.size),.slice a 1 c,.int .i64 1,.agg #[ptrV R,.map (some w2.heap.size),.int .i64 1],ptrV R,.slice a 1 c,.func (.func 110) #[] #[.pointer (some ⟨w3.heap.size+1,0,none⟩),.pointer (some ⟨w3.heap.size,0,none⟩)],.agg #[.int .i64 x.a,.int .u8 (x.k:Int),.int .i64 x.w,.int .i64 x.t,.int .i64 x.p,.int .i64 x.c,.int .i64 x.b,.int .i64 x.q,.int .i64 x.v,.int .i64 x.u,.bool x.o,.int .i64 x.e,.int .u64 (x.s:Int)],undef,undef,undef,undef,undef,undef,undef,undef,undef,undef,undef,undef,undef,undef,undef,undef,undef,undef,undef,undef,undef,undef,undef,undef,undef,undef,undef,undef,undef,undef,undef],defers:=[] }/\Blk X Xb 39 (enA x)/\w4.heap.size<=Xb) ?Ax ?assign ?body ?done
 case HO=>
  rintro s o1 b X l1 ob oc ⟨k,x,hs1,hA⟩ hw ho hl1 hc1
  exact ⟨k,x,hs1,hA.at_,hA.sees,hA.th.putObj (by have:=HS3.out;have:=HS4.out;omega) ho hl1 hc1,putobj_blk hA.xb hl1 hc1,hA.xo,hA.xn⟩
 case FO=>
  rintro s o1 X l1 ob oc ⟨hT,hk⟩ hw ho hl1 hc1
  exact ⟨hT.putObj (by have:=HS3.out;have:=HS4.out;omega) ho hl1 hc1,hk⟩
 case Ax=>
  rintro x a' X l1 ob oc ⟨Xb,rfl,hX,hXl⟩ hl1 hc1
  exact ⟨Xb,rfl,putobj_blk hX hl1 hc1,hXl⟩
 case assign=>
  rintro l1 s x o1 b W K hI ⟨k,x',hs,hA⟩ hK
  have hWs:w4.heap.size<=W.heap.size:=hI.sz
  gi_wp2
  exact hK _ _ (below1 W _) (hI.trn (Trn.of_below (below1 W _))) ⟨k,x',hs,hA.at_,hA.sees,hA.th.below (below1 W _),hA.xb.on (below1 W _),hA.xo,hA.xn⟩ ⟨W.heap.size,rfl,blk_new W _ _,hWs⟩
 case body=>
  rintro l1 s x a' o1 b W hI hH ⟨Xb,rfl,hX,hXl⟩
  obtain ⟨rfl,rfl,hT⟩:=one_hd rfl hH
  have hX':Blk W Xb 39 #[.int .i64 0,.int .u8 25,.int .i64 0,.int .i64 0,.int .i64 0,.int .i64 0,.int .i64 0,.int .i64 0,.int .i64 0,.int .i64 0,.bool false,.int .i64 0,.int .u64 0]:=hX
  have hpl:=poll_one W hT.rn hI.pl hI.mp
  have y0:W.cell? ⟨Xb,0,none⟩=some (.int .i64 0):=hX'.cell rfl
  have y1:W.cell? ⟨Xb,1,none⟩=some (.int .u8 25):=hX'.cell rfl
  have y2:W.cell? ⟨Xb,2,none⟩=some (.int .i64 0):=hX'.cell rfl
  have y3:W.cell? ⟨Xb,3,none⟩=some (.int .i64 0):=hX'.cell rfl
  have y4:W.cell? ⟨Xb,4,none⟩=some (.int .i64 0):=hX'.cell rfl
  have y5:W.cell? ⟨Xb,5,none⟩=some (.int .i64 0):=hX'.cell rfl
  have y6:W.cell? ⟨Xb,6,none⟩=some (.int .i64 0):=hX'.cell rfl
  have y7:W.cell? ⟨Xb,7,none⟩=some (.int .i64 0):=hX'.cell rfl
  have y8:W.cell? ⟨Xb,8,none⟩=some (.int .i64 0):=hX'.cell rfl
  have y9:W.cell? ⟨Xb,9,none⟩=some (.int .i64 0):=hX'.cell rfl
  have y10:W.cell? ⟨Xb,10,none⟩=some (.bool false):=hX'.cell rfl
  have y11:W.cell? ⟨Xb,11,none⟩=some (.int .i64 0):=hX'.cell rfl
  have y12:W.cell? ⟨Xb,12,none⟩=some (.int .u64 0):=hX'.cell rfl
  clear hX
  simp only [eP]
  gi_wp2_with (refine ⟨trivial,?_⟩;gi_at_call 78;refine (CallsIn.inRound l1 (callsIn_wide.2 hpl)).mono ?_;rintro e W2 ⟨rfl,W1,hb1,rfl⟩)
  exact pl_close hI hH hb1 (by have:=HS3.out;omega) (by have:=HS3.out;omega) (by omega)
 case done=>
  rintro D s o1 W hD ho ⟨hT,k,hk,hs,hns⟩ hI hK
  have hk1:k=1:=by
   simp only [List.length_singleton] at hk
   by_cases e:k=0
   ·subst e
    exact absurd one_sP (hns eP rfl)
   ·omega
  subst hk1
  have hs':s = [eP]:=hs
  subst hs'
  have hP':Blk W (w2.heap.size+1) 151 #[ptrV R,.map (some w2.heap.size),.int .i64 0]:=hI.pl
  have r3:W.cell? ⟨R,3,none⟩=some (.int .i64 0):=by
   have:W.cell? ⟨R,3,none⟩=some (.int .i64 (one0.go [eP]).e):=hT.rn.blk.cell rfl
   rw [one_pe] at this;exact this
  have c2:W.cell? ⟨w2.heap.size+1,2,none⟩=some (.int .i64 0):=hP'.cell rfl
  have c2d:W.drew.cell? ⟨w2.heap.size+1,2,none⟩=some (.int .i64 0):=c2
  have E2:=hT.rn.run.bel
  have hs4':w.heap.size<=D:=by have:=HS3.out;have:=HS4.out;omega
  have d1:((0:Int) == 1)=false:=rfl
  clear hT hI hns hs hT4 hI4 hP' hmm
  go_wp2_with fail
  go_quiet (fail)
  go_wp2_with fail
  rw [Exit.noGoto_ret]
  refine ⟨by simp,.inl ⟨_,_,rfl,run_takeDeferred hK,?_⟩⟩
  refine ⟨.tuple #[.int .i64 0,.bool false],?_,rfl,?_⟩
  ·simp [results,Tryz.f37,go_sem]
  ·exact frm_low (Mch.below_drewN E2 _) (frm_obj _ D _) (fun k e=>by rw [e];exact hs4')
end
open Go.RowKit Go.Shelf
open Ent (En)
open Mch (Wt Gt whatK putL Chn Frm Fw Fl grown_below below1 below_nx owns_slice' boxed_below)
attribute [local go_sem] Oper.semAt_some
theorem enumT_mem {T:List Pla} {y:Nat × Pla} {pre:List (Nat × Pla)} (hp:pre <+: enumT T) (hy:y ∈ pre):y.2 ∈ T:=by
 have h1:=hp.subset hy
 unfold enumT at h1
 obtain ⟨z,hz,rfl⟩:=List.mem_map.1 h1
 obtain ⟨_,h3⟩:=List.mem_zipIdx_iff_getElem?.1 hz |> fun h=>(⟨trivial,h⟩:True/\_)
 exact List.mem_of_getElem? h3
theorem over_all {o:Nat->Nat} {B:Nat} {M:Mod} (w:World) (h:Md w o B M) (hl:M.T.length<=1000) (he:M.e=0) (hall:∀ x ∈ M.T,x.s=3) :
  Calls Tryz.prog 39 #[ptrV B] w fun e w'=>e=.returned (.bool true)/\Below w.heap.size w w':=by
 have hhl:=fun (W:World) (hW:Below w.heap.size w W)=>halted_any W (h.below hW)
 rw [he] at hhl
 have hfz:((0:Int) != 0)=false:=rfl
 simp only [hfz] at hhl
 obtain ⟨lo,hi,v1,v2,v3,vT,vC,Cs,h⟩:=h
 have hcell:=h.tk
 have hrow:=h.tasks
 obtain ⟨T,hT⟩:∃ T,T=M.T:=⟨_,rfl⟩
 rw [<- hT] at hrow hl hall
 have HALL:=Lib.hid hall
 clear hT h he hall
 obtain ⟨w2,hw2⟩:∃ w2,w2=(w.alloc (.cells #[ptrV B] 30)).alloc (.cells #[.bool false] 4):=⟨_,rfl⟩
 have hm2:Boxed w2 w.heap.size 30 (ptrV B):=by rw [hw2];exact (Boxed.new w _ _).alloc _
 have hr2:Boxed w2 (w.heap.size+1) 4 (.bool false):=by
  rw [hw2]
  have:=Boxed.new (w.alloc (.cells #[ptrV B] 30)) 4 (.bool false)
  rw [World.size_alloc] at this;exact this
 have hB2:Below w.heap.size w w2:=by rw [hw2];exact below2 w _ _
 obtain ⟨w4,hw4⟩:∃ w4,w4=w2.alloc (.cells #[ptrV B] 30):=⟨_,rfl⟩
 have hb24:Below w2.heap.size w2 w4:=by rw [hw4];exact below1 w2 _
 have hc4:Boxed w4 w2.heap.size 30 (ptrV B):=by rw [hw4];exact Boxed.new w2 _ _
 have hB4:=below_nx hB2 hb24 (Nat.le_refl _)
 have hm4:=boxed_below hm2 hb24
 have hr4:=boxed_below hr2 hb24
 have hsz:w.heap.size+1<w4.heap.size:=hr4.lt
 have hra:=all_any (some ⟨B,0,none⟩) w2
 rw [<- hw4] at hra
 have mc:=hm2.cell
 refine (callsIn_wide (n:=4)).1 ?_
 refine callsIn_of_wp_marks Tryz.func39 rfl trivial ?_ rfl
 simp only [Tryz.ntmps39,List.size_toArray,List.length_cons,List.length_nil,Nat.reduceAdd,Nat.reduceSub,Array.replicate_succ,Array.replicate_zero,List.push_toArray,List.append_toArray,List.nil_append,List.cons_append]
 refine wpIn_wide.2 ?_
 go_upto_region 1 with fail
 rw [<- hw2]
 clear hw2
 go_wp2_with fail
 refine hra.mono ?_
 clear mc
 rintro e w4 ⟨rfl,rfl⟩
 go_wp2_with fail
 rw [<- hw4]
 clear hra hw4 hm2 hr2
 refine (wpIn_wide (n:=4)).1 ?_
 refine wpIn_rangeFunc_ownH rfl (by omega) (gf:=87) (lb:=#[.pointer (some ⟨w2.heap.size,0,none⟩)]) rfl trivial (enters_of Tryz.func87 (by kernel_rfl) rfl)
  (all_stops hc4 hcell hrow hl hB4) (fun h k=>h.trans k) (fun W l o o' hl ho hc hw=>belowK_b (by omega) W l o o' hl ho hc hw) (Below.refl _ _) (fun _=>rfl)
  (fun pre W=>Below w4.heap.size w4 W)
  (fun c pre W=>Hid (∃ y ∈ pre,(y:Nat × Pla).2.s ≠ 3))
  (ownFrom_below (Nat.le_refl _) (Nat.le_refl _))
  (fun _ _ _ _ _ hs _ _=>hs)
  (Below.refl _ _)
  (fun x a' W=>∃ X,a' = { tmps:=#[ptrV B,.pointer (some ⟨w.heap.size,0,none⟩),.pointer (some ⟨w.heap.size+1,0,none⟩),undef,.pointer (some ⟨X,0,none⟩),ptrV B,.func (.func 87) #[] #[.pointer (some ⟨w2.heap.size,0,none⟩)],.int .i64 (x.1:Int),plaV x.2,undef,undef,undef,undef,undef,undef,undef,undef,undef],defers:=[] }/\PlAt W X x.2/\w4.heap.size<=X) ?abides ?assign ?body ?done ?stop
 case abides=>
  intro x a' u W W' row hs hg hr
  obtain ⟨X,h1,h2,h3⟩:=hs
  exact ⟨X,h1,plAt_abides X (fun _:Unit=>x.2) _ () W W' row h2 hg hr,h3⟩
 case assign=>
  rintro l pre ⟨j,x⟩ W K hB hK
  simp only [encT] at hK ⊢
  gi_wp2
  exact hK _ _ ((KeepsOthers.alloc W _).from _) ((below1 W _).mono (Nat.le_trans hB4.size hB.size)) (Mch.Below.al hB hB.size _) ⟨_,rfl,blk_new W _ _,hB.size⟩
 case body=>
  rintro l pre ⟨j,x⟩ a' W hl2 hr hB ⟨X,rfl,hX,hXl⟩ hlt
  have mc:=(boxed_below hm4 hB).cell
  have rc:=(boxed_below hr4 hB).cell
  have rf:=(boxed_below hr4 hB).frozen
  have hh:=hhl W (below_nx hB4 hB (Nat.le_refl _))
  obtain ⟨c0,-⟩:=pla_cells hX
  simp only at c0
  obtain ⟨s,hs⟩:∃ s,s=x.s:=⟨_,rfl⟩
  rw [<- hs] at c0
  have HS:=Lib.hid hs
  clear hs
  by_cases h3:s=3
  ·have d1:((s:Int) != 3)=false:=by rw [h3];rfl
   clear h3
   gi_wp2_with (refine ⟨trivial,?_⟩;gi_at_call 30;refine (CallsIn.inRound l (callsIn_wide.2 hh)).mono ?_;rintro e W ⟨rfl,rfl⟩)
   exact ⟨KeepsFrom.refl _ _,Below.refl _ _,hB⟩
  ·have d1:((s:Int) != 3)=true:=by simp;omega
   have HX:Hid (∃ y ∈ pre ++ [(j,x)],(y:Nat × Pla).2.s ≠ 3):=Lib.hid ⟨(j,x),by simp,by show x.s ≠ 3;rw [<- HS.out];exact h3⟩
   clear h3
   gi_wp2_with (refine ⟨trivial,?_⟩;gi_at_call 30;refine (CallsIn.inRound l (callsIn_wide.2 hh)).mono ?_;rintro e W ⟨rfl,rfl⟩)
   exact ⟨(KeepsOthers.setCell _ _ _).from _,HX⟩
 case done=>
  rintro D ys W hD hys hB hK
  clear hys
  have hB':=hB
  have mc:=(boxed_below hm4 hB).cell
  have rc:=(boxed_below hr4 hB).cell
  have rf:=(boxed_below hr4 hB).frozen
  have E1:=(boxed_below hr4 hB).set (.bool true)
  have E2:=(below_nx hB4 hB (Nat.le_refl _)).setCell (p:=⟨w.heap.size+1,0,none⟩) (Nat.le_succ _) (.bool true)
  have E3:=(KeepsOthers.setCell W ⟨w.heap.size+1,0,none⟩ (.bool true)).same D _ hK rfl
  go_wp2_with fail
  generalize W.setCell ⟨w.heap.size+1,0,none⟩ (.bool true)=W1 at E1 E2 E3 ⊢
  refine ⟨by simp,.inl ⟨_,_,rfl,run_takeDeferred E3,?_⟩⟩
  have hc5:=cell_kept E1.cell (grownBy_putObj' _ D (.deferred none)) (fun r e=>by cases e;exact ⟨_,E3,rfl⟩)
  refine ⟨.bool true,?_,rfl,E2.trans (belowK_b (w:=w) (Nat.le_refl _) _ D _ _ (by omega) E3 rfl rfl)⟩
  simp [results,Tryz.f39,go_sem,hc5]
 case stop=>
  rintro D c pre W hD hpre HX hK
  obtain ⟨y,hy,h3⟩:=HX.out
  exact absurd (HALL.out _ (enumT_mem hpre hy)) h3
open Go.RowKit Go.Shelf
open Ent (En EnRow okB)
open Mch (Frm below1 below_nx)
theorem one_row {W:World} {r:Nat} {x:En} (h:Blk W r 39 (enA x)):EnRow W (.slice (some ⟨r,0,none⟩) 1 1) [x]:=
 EnRow.of_owns (base:=0) (owns_row h rfl (by decide) (by decide) (Nat.zero_le _))
theorem two_row {W:World} {r:Nat} (h:Blk W r 39 #[.int .i64 0,.int .u8 10,.int .i64 0,.int .i64 0,.int .i64 0,.int .i64 0,.int .i64 0,.int .i64 0,.int .i64 0,.int .i64 0,.bool false,.int .i64 0,.int .u64 0,.int .i64 0,.int .u8 10,.int .i64 0,.int .i64 0,.int .i64 0,.int .i64 0,.int .i64 0,.int .i64 0,.int .i64 0,.int .i64 0,.bool false,.int .i64 0,.int .u64 0]):EnRow W (.slice (some ⟨r,0,none⟩) 2 2) [eE,eE]:=
 EnRow.of_owns (base:=0) (owns_row h rfl (by decide) (by decide) (Nat.zero_le _))
theorem nil_row (W:World):EnRow W (.slice none 0 0) []:=EnRow.nil W
theorem all_one {x:En} (hx:x.ok):∀ y ∈ [x],y.ok:=fun y hy=>by rw [List.mem_singleton] at hy;rw [hy];exact hx
theorem all_two {x:En} (hx:x.ok):∀ y ∈ [x,x],y.ok:=fun y hy=>by
 simp only [List.mem_cons,List.not_mem_nil,or_false,or_self] at hy
 rw [hy];exact hx
theorem ralive_any (w:World):Calls Tryz.prog 13 #[] w fun e w'=>e=.returned (.bool true)/\Below w.heap.size w w':=by
 obtain ⟨w1,hw1⟩:∃ w1,w1=(((w.alloc (.cells #[.int .u8 10,.int .i64 0,.int .i64 0,.int .i64 0,.int .i64 0] 95)).alloc (.cells #[.slice (some ⟨w.heap.size,0,none⟩) 1 1] 96)).alloc (.cells #[.slice none 0 0,.slice (some ⟨w.heap.size+1,0,none⟩) 1 1,.slice none 0 0] 26)).alloc (.cells #[.int .i64 0,.int .u8 10,.int .i64 0,.int .i64 0,.int .i64 0,.int .i64 0,.int .i64 0,.int .i64 0,.int .i64 0,.int .i64 0,.bool false,.int .i64 0,.int .u64 0] 39):=⟨_,rfl⟩
 have hB1:Below w.heap.size w w1:=by rw [hw1];exact (below3 w _ _ _).alloc (by simp;omega) _
 have k1:Blk w1 w.heap.size 95 #[.int .u8 10,.int .i64 0,.int .i64 0,.int .i64 0,.int .i64 0]:=by rw [hw1];exact (((blk_new w _ _).alloc _).alloc _).alloc _
 have k2:Blk w1 (w.heap.size+1) 96 #[.slice (some ⟨w.heap.size,0,none⟩) 1 1]:=by rw [hw1];exact ((blk_at (by simp)).alloc _).alloc _
 have k3:Blk w1 (w.heap.size+1+1) 26 #[.slice none 0 0,.slice (some ⟨w.heap.size+1,0,none⟩) 1 1,.slice none 0 0]:=by rw [hw1];exact (blk_at (by simp)).alloc _
 have k4:Blk w1 (w.heap.size+1+1+1) 39 #[.int .i64 0,.int .u8 10,.int .i64 0,.int .i64 0,.int .i64 0,.int .i64 0,.int .i64 0,.int .i64 0,.int .i64 0,.int .i64 0,.bool false,.int .i64 0,.int .u64 0]:=by rw [hw1];exact blk_at (by simp)
 have hP1:PrgAt w.heap.size w1.heap.size w1 (.slice none 0 0) (.slice (some ⟨w.heap.size+1,0,none⟩) 1 1) (.slice none 0 0) oneP:=one_at k1 k2 (Nat.le_refl _) (by omega)
 obtain ⟨b2,hb2⟩:∃ b,b=w.heap.size+1:=⟨_,rfl⟩
 obtain ⟨b3,hb3⟩:∃ b,b=w.heap.size+1+1:=⟨_,rfl⟩
 obtain ⟨b4,hb4⟩:∃ b,b=w.heap.size+1+1+1:=⟨_,rfl⟩
 rw [<- hb3, <- hb2] at k3
 rw [<- hb4] at k4
 rw [<- hb2] at hP1
 clear k1 k2
 go_enter Tryz.func13,Tryz.ntmps13
 go_upto_region 3 with fail
 rw [<- hw1, <- hb4, <- hb3, <- hb2]
 clear hw1 hb2 hb3 hb4
 have hA0:Below w1.heap.size w1 w1:=Below.refl _ _
 have p0:w1.cell? ⟨b3,0,none⟩=some (.slice none 0 0):=(k3.on hA0).cell rfl
 have p1:w1.cell? ⟨b3,1,none⟩=some (.slice (some ⟨b2,0,none⟩) 1 1):=(k3.on hA0).cell rfl
 have p2:w1.cell? ⟨b3,2,none⟩=some (.slice none 0 0):=(k3.on hA0).cell rfl
 have y0:w1.cell? ⟨b4,0,none⟩=some (.int .i64 0):=(k4.on hA0).cell rfl
 have y1:w1.cell? ⟨b4,1,none⟩=some (.int .u8 10):=(k4.on hA0).cell rfl
 have y2:w1.cell? ⟨b4,2,none⟩=some (.int .i64 0):=(k4.on hA0).cell rfl
 have y3:w1.cell? ⟨b4,3,none⟩=some (.int .i64 0):=(k4.on hA0).cell rfl
 have y4:w1.cell? ⟨b4,4,none⟩=some (.int .i64 0):=(k4.on hA0).cell rfl
 have y5:w1.cell? ⟨b4,5,none⟩=some (.int .i64 0):=(k4.on hA0).cell rfl
 have y6:w1.cell? ⟨b4,6,none⟩=some (.int .i64 0):=(k4.on hA0).cell rfl
 have y7:w1.cell? ⟨b4,7,none⟩=some (.int .i64 0):=(k4.on hA0).cell rfl
 have y8:w1.cell? ⟨b4,8,none⟩=some (.int .i64 0):=(k4.on hA0).cell rfl
 have y9:w1.cell? ⟨b4,9,none⟩=some (.int .i64 0):=(k4.on hA0).cell rfl
 have y10:w1.cell? ⟨b4,10,none⟩=some (.bool false):=(k4.on hA0).cell rfl
 have y11:w1.cell? ⟨b4,11,none⟩=some (.int .i64 0):=(k4.on hA0).cell rfl
 have y12:w1.cell? ⟨b4,12,none⟩=some (.int .u64 0):=(k4.on hA0).cell rfl
 obtain ⟨wa,hwa⟩:∃ W,W=w1.alloc (.cells #[.int .i64 0,.int .u8 10,.int .i64 0,.int .i64 0,.int .i64 0,.int .i64 0,.int .i64 0,.int .i64 0,.int .i64 0,.int .i64 0,.bool false,.int .i64 0,.int .u64 0] 39):=⟨_,rfl⟩
 have hba:Below w1.heap.size w1 wa:=by rw [hwa];exact below_nx hA0 (below1 w1 _) (Nat.le_refl _)
 have ra:Blk wa w1.heap.size 39 #[.int .i64 0,.int .u8 10,.int .i64 0,.int .i64 0,.int .i64 0,.int .i64 0,.int .i64 0,.int .i64 0,.int .i64 0,.int .i64 0,.bool false,.int .i64 0,.int .u64 0]:=by rw [hwa];exact blk_new w1 _ _
 have ha:Calls Tryz.prog 16 #[.agg #[.slice none 0 0,.slice (some ⟨b2,0,none⟩) 1 1,.slice none 0 0],.int .i64 1,.slice (some ⟨w1.heap.size,0,none⟩) 1 1] wa fun e w'=>e=.returned (.tuple #[.int .i64 1,.int .i64 0])/\Below wa.heap.size wa w':=by
  have h:=rcheck_ok 1 wa (hP1.later hba) one_small one_chk (by decide) (by decide) (one_row (x:=eE) ra) (by decide) (all_one eE_ok)
  rw [show rn0 (newM oneP 1)=one0 from rfl,one_ad,one_ae] at h
  exact h
 go_wp2_with fail
 rw [<- hwa]
 refine ha.mono ?_
 clear ha p0 p1 p2 y0 y1 y2 y3 y4 y5 y6 y7 y8 y9 y10 y11 y12 hwa ra
 rintro e va ⟨rfl,hqa⟩
 have hAa:=below_nx hba hqa (Nat.le_refl _)
 have p0:va.cell? ⟨b3,0,none⟩=some (.slice none 0 0):=(k3.on hAa).cell rfl
 have p1:va.cell? ⟨b3,1,none⟩=some (.slice (some ⟨b2,0,none⟩) 1 1):=(k3.on hAa).cell rfl
 have p2:va.cell? ⟨b3,2,none⟩=some (.slice none 0 0):=(k3.on hAa).cell rfl
 have y0:va.cell? ⟨b4,0,none⟩=some (.int .i64 0):=(k4.on hAa).cell rfl
 have y1:va.cell? ⟨b4,1,none⟩=some (.int .u8 10):=(k4.on hAa).cell rfl
 have y2:va.cell? ⟨b4,2,none⟩=some (.int .i64 0):=(k4.on hAa).cell rfl
 have y3:va.cell? ⟨b4,3,none⟩=some (.int .i64 0):=(k4.on hAa).cell rfl
 have y4:va.cell? ⟨b4,4,none⟩=some (.int .i64 0):=(k4.on hAa).cell rfl
 have y5:va.cell? ⟨b4,5,none⟩=some (.int .i64 0):=(k4.on hAa).cell rfl
 have y6:va.cell? ⟨b4,6,none⟩=some (.int .i64 0):=(k4.on hAa).cell rfl
 have y7:va.cell? ⟨b4,7,none⟩=some (.int .i64 0):=(k4.on hAa).cell rfl
 have y8:va.cell? ⟨b4,8,none⟩=some (.int .i64 0):=(k4.on hAa).cell rfl
 have y9:va.cell? ⟨b4,9,none⟩=some (.int .i64 0):=(k4.on hAa).cell rfl
 have y10:va.cell? ⟨b4,10,none⟩=some (.bool false):=(k4.on hAa).cell rfl
 have y11:va.cell? ⟨b4,11,none⟩=some (.int .i64 0):=(k4.on hAa).cell rfl
 have y12:va.cell? ⟨b4,12,none⟩=some (.int .u64 0):=(k4.on hAa).cell rfl
 obtain ⟨wb,hwb⟩:∃ W,W=va.alloc (.cells #[.int .i64 0,.int .u8 10,.int .i64 0,.int .i64 0,.int .i64 0,.int .i64 0,.int .i64 0,.int .i64 0,.int .i64 0,.int .i64 0,.bool false,.int .i64 0,.int .u64 0,.int .i64 0,.int .u8 10,.int .i64 0,.int .i64 0,.int .i64 0,.int .i64 0,.int .i64 0,.int .i64 0,.int .i64 0,.int .i64 0,.bool false,.int .i64 0,.int .u64 0] 39):=⟨_,rfl⟩
 have hbb:Below w1.heap.size w1 wb:=by rw [hwb];exact below_nx hAa (below1 va _) (Nat.le_refl _)
 have rb:Blk wb va.heap.size 39 #[.int .i64 0,.int .u8 10,.int .i64 0,.int .i64 0,.int .i64 0,.int .i64 0,.int .i64 0,.int .i64 0,.int .i64 0,.int .i64 0,.bool false,.int .i64 0,.int .u64 0,.int .i64 0,.int .u8 10,.int .i64 0,.int .i64 0,.int .i64 0,.int .i64 0,.int .i64 0,.int .i64 0,.int .i64 0,.int .i64 0,.bool false,.int .i64 0,.int .u64 0]:=by rw [hwb];exact blk_new va _ _
 have hb:Calls Tryz.prog 16 #[.agg #[.slice none 0 0,.slice (some ⟨b2,0,none⟩) 1 1,.slice none 0 0],.int .i64 1,.slice (some ⟨va.heap.size,0,none⟩) 2 2] wb fun e w'=>e=.returned (.tuple #[.int .i64 1,.int .i64 171])/\Below wb.heap.size wb w':=by
  have h:=rcheck_ok 1 wb (hP1.later hbb) one_small one_chk (by decide) (by decide) (two_row rb) (by decide) (all_two eE_ok)
  rw [show rn0 (newM oneP 1)=one0 from rfl,one_bd,one_be] at h
  exact h
 go_wp2_with fail
 rw [<- hwb]
 refine hb.mono ?_
 clear hb p0 p1 p2 y0 y1 y2 y3 y4 y5 y6 y7 y8 y9 y10 y11 y12 hwb rb
 rintro e vb ⟨rfl,hqb⟩
 have hAb:=below_nx hbb hqb (Nat.le_refl _)
 have p0:vb.cell? ⟨b3,0,none⟩=some (.slice none 0 0):=(k3.on hAb).cell rfl
 have p1:vb.cell? ⟨b3,1,none⟩=some (.slice (some ⟨b2,0,none⟩) 1 1):=(k3.on hAb).cell rfl
 have p2:vb.cell? ⟨b3,2,none⟩=some (.slice none 0 0):=(k3.on hAb).cell rfl
 obtain ⟨wc,hwc⟩:∃ W,W=vb.alloc (.cells #[.int .i64 0,.int .u8 8,.int .i64 0,.int .i64 0,.int .i64 0,.int .i64 0,.int .i64 0,.int .i64 0,.int .i64 0,.int .i64 0,.bool false,.int .i64 0,.int .u64 0] 39):=⟨_,rfl⟩
 have hbc:Below w1.heap.size w1 wc:=by rw [hwc];exact below_nx hAb (below1 vb _) (Nat.le_refl _)
 have rc:Blk wc vb.heap.size 39 #[.int .i64 0,.int .u8 8,.int .i64 0,.int .i64 0,.int .i64 0,.int .i64 0,.int .i64 0,.int .i64 0,.int .i64 0,.int .i64 0,.bool false,.int .i64 0,.int .u64 0]:=by rw [hwc];exact blk_new vb _ _
 have hc:Calls Tryz.prog 16 #[.agg #[.slice none 0 0,.slice (some ⟨b2,0,none⟩) 1 1,.slice none 0 0],.int .i64 1,.slice (some ⟨vb.heap.size,0,none⟩) 1 1] wc fun e w'=>e=.returned (.tuple #[.int .i64 0,.int .i64 171])/\Below wc.heap.size wc w':=by
  have h:=rcheck_ok 1 wc (hP1.later hbc) one_small one_chk (by decide) (by decide) (one_row (x:=eB) rc) (by decide) (all_one eB_ok)
  rw [show rn0 (newM oneP 1)=one0 from rfl,one_cd,one_ce] at h
  exact h
 go_wp2_with fail
 rw [<- hwc]
 refine hc.mono ?_
 clear hc p0 p1 p2 hwc rc
 rintro e vc ⟨rfl,hqc⟩
 have hAc:=below_nx hbc hqc (Nat.le_refl _)
 have p0:vc.cell? ⟨b3,0,none⟩=some (.slice none 0 0):=(k3.on hAc).cell rfl
 have p1:vc.cell? ⟨b3,1,none⟩=some (.slice (some ⟨b2,0,none⟩) 1 1):=(k3.on hAc).cell rfl
 have p2:vc.cell? ⟨b3,2,none⟩=some (.slice none 0 0):=(k3.on hAc).cell rfl
 have hd:Calls Tryz.prog 16 #[.agg #[.slice none 0 0,.slice (some ⟨b2,0,none⟩) 1 1,.slice none 0 0],.int .i64 0,.slice none 0 0] vc fun e w'=>e=.returned (.tuple #[.int .i64 0,.int .i64 2])/\Below vc.heap.size vc w':=rcheck_bad 0 vc (hP1.later hAc) one_small (fun h=>by have:=h.2.1;omega) (nil_row vc) (by decide)
 go_wp2_with fail
 refine hd.mono ?_
 clear hd p0 p1 p2
 rintro e vd ⟨rfl,hqd⟩
 have hAd:=below_nx hAc hqd (Nat.le_refl _)
 have p0:vd.cell? ⟨b3,0,none⟩=some (.slice none 0 0):=(k3.on hAd).cell rfl
 have p1:vd.cell? ⟨b3,1,none⟩=some (.slice (some ⟨b2,0,none⟩) 1 1):=(k3.on hAd).cell rfl
 have p2:vd.cell? ⟨b3,2,none⟩=some (.slice none 0 0):=(k3.on hAd).cell rfl
 have y0:vd.cell? ⟨b4,0,none⟩=some (.int .i64 0):=(k4.on hAd).cell rfl
 have y1:vd.cell? ⟨b4,1,none⟩=some (.int .u8 10):=(k4.on hAd).cell rfl
 have y2:vd.cell? ⟨b4,2,none⟩=some (.int .i64 0):=(k4.on hAd).cell rfl
 have y3:vd.cell? ⟨b4,3,none⟩=some (.int .i64 0):=(k4.on hAd).cell rfl
 have y4:vd.cell? ⟨b4,4,none⟩=some (.int .i64 0):=(k4.on hAd).cell rfl
 have y5:vd.cell? ⟨b4,5,none⟩=some (.int .i64 0):=(k4.on hAd).cell rfl
 have y6:vd.cell? ⟨b4,6,none⟩=some (.int .i64 0):=(k4.on hAd).cell rfl
 have y7:vd.cell? ⟨b4,7,none⟩=some (.int .i64 0):=(k4.on hAd).cell rfl
 have y8:vd.cell? ⟨b4,8,none⟩=some (.int .i64 0):=(k4.on hAd).cell rfl
 have y9:vd.cell? ⟨b4,9,none⟩=some (.int .i64 0):=(k4.on hAd).cell rfl
 have y10:vd.cell? ⟨b4,10,none⟩=some (.bool false):=(k4.on hAd).cell rfl
 have y11:vd.cell? ⟨b4,11,none⟩=some (.int .i64 0):=(k4.on hAd).cell rfl
 have y12:vd.cell? ⟨b4,12,none⟩=some (.int .u64 0):=(k4.on hAd).cell rfl
 obtain ⟨we,hwe⟩:∃ W,W=vd.alloc (.cells #[.int .i64 0,.int .u8 10,.int .i64 0,.int .i64 0,.int .i64 0,.int .i64 0,.int .i64 0,.int .i64 0,.int .i64 0,.int .i64 0,.bool false,.int .i64 0,.int .u64 0] 39):=⟨_,rfl⟩
 have hbe:Below w1.heap.size w1 we:=by rw [hwe];exact below_nx hAd (below1 vd _) (Nat.le_refl _)
 have re:Blk we vd.heap.size 39 #[.int .i64 0,.int .u8 10,.int .i64 0,.int .i64 0,.int .i64 0,.int .i64 0,.int .i64 0,.int .i64 0,.int .i64 0,.int .i64 0,.bool false,.int .i64 0,.int .u64 0]:=by rw [hwe];exact blk_new vd _ _
 have he:Calls Tryz.prog 14 #[.agg #[.slice none 0 0,.slice (some ⟨b2,0,none⟩) 1 1,.slice none 0 0],.int .i64 1,.slice (some ⟨vd.heap.size,0,none⟩) 1 1] we (RunPost we (one0.go [eE])):=rrun_ok 1 we (hP1.later hbe) one_small one_chk (by decide) (by decide) (one_row (x:=eE) re) (by decide) (all_one eE_ok)
 go_wp2_with fail
 rw [<- hwe]
 refine he.mono ?_
 clear he p0 p1 p2 y0 y1 y2 y3 y4 y5 y6 y7 y8 y9 y10 y11 y12 hwe re
 rintro e ve ⟨hqe,hce⟩
 rcases hce with ⟨h0,-⟩ | ⟨-, A,o,rfl,hM⟩
 ·exact absurd one_ae h0
 have hAe:=below_nx hbe hqe (Nat.le_refl _)
 have p0:ve.cell? ⟨b3,0,none⟩=some (.slice none 0 0):=(k3.on hAe).cell rfl
 have p1:ve.cell? ⟨b3,1,none⟩=some (.slice (some ⟨b2,0,none⟩) 1 1):=(k3.on hAe).cell rfl
 have p2:ve.cell? ⟨b3,2,none⟩=some (.slice none 0 0):=(k3.on hAe).cell rfl
 obtain ⟨wf,hwf⟩:∃ W,W=ve.alloc (.cells #[.int .i64 0,.int .u8 25,.int .i64 0,.int .i64 0,.int .i64 0,.int .i64 0,.int .i64 0,.int .i64 0,.int .i64 0,.int .i64 0,.bool false,.int .i64 0,.int .u64 0] 39):=⟨_,rfl⟩
 have hbf:Below w1.heap.size w1 wf:=by rw [hwf];exact below_nx hAe (below1 ve _) (Nat.le_refl _)
 have rf:Blk wf ve.heap.size 39 #[.int .i64 0,.int .u8 25,.int .i64 0,.int .i64 0,.int .i64 0,.int .i64 0,.int .i64 0,.int .i64 0,.int .i64 0,.int .i64 0,.bool false,.int .i64 0,.int .u64 0]:=by rw [hwf];exact blk_new ve _ _
 have hvf:Below ve.heap.size ve wf:=by rw [hwf];exact below1 ve _
 have hf:Calls Tryz.prog 37 #[.agg #[.slice none 0 0,.slice (some ⟨b2,0,none⟩) 1 1,.slice none 0 0],.int .i64 1,.slice (some ⟨ve.heap.size,0,none⟩) 1 1] wf fun e w'=>e=.returned (.tuple #[.int .i64 0,.bool false])/\Below wf.heap.size wf w':=polls_one wf (hP1.later hbf) (one_row (x:=eP) rf)
 go_wp2_with fail
 rw [<- hwf]
 refine hf.mono ?_
 clear hf p0 p1 p2 hwf rf
 rintro e vf ⟨rfl,hqf⟩
 have hAf:=below_nx hbf hqf (Nat.le_refl _)
 have hM2:=hM.below (below_nx (show Below ve.heap.size ve wf from hvf) hqf (Nat.le_refl _))
 have p0:vf.cell? ⟨b3,0,none⟩=some (.slice none 0 0):=(k3.on hAf).cell rfl
 have p1:vf.cell? ⟨b3,1,none⟩=some (.slice (some ⟨b2,0,none⟩) 1 1):=(k3.on hAf).cell rfl
 have p2:vf.cell? ⟨b3,2,none⟩=some (.slice none 0 0):=(k3.on hAf).cell rfl
 have y0:vf.cell? ⟨b4,0,none⟩=some (.int .i64 0):=(k4.on hAf).cell rfl
 have y1:vf.cell? ⟨b4,1,none⟩=some (.int .u8 10):=(k4.on hAf).cell rfl
 have y2:vf.cell? ⟨b4,2,none⟩=some (.int .i64 0):=(k4.on hAf).cell rfl
 have y3:vf.cell? ⟨b4,3,none⟩=some (.int .i64 0):=(k4.on hAf).cell rfl
 have y4:vf.cell? ⟨b4,4,none⟩=some (.int .i64 0):=(k4.on hAf).cell rfl
 have y5:vf.cell? ⟨b4,5,none⟩=some (.int .i64 0):=(k4.on hAf).cell rfl
 have y6:vf.cell? ⟨b4,6,none⟩=some (.int .i64 0):=(k4.on hAf).cell rfl
 have y7:vf.cell? ⟨b4,7,none⟩=some (.int .i64 0):=(k4.on hAf).cell rfl
 have y8:vf.cell? ⟨b4,8,none⟩=some (.int .i64 0):=(k4.on hAf).cell rfl
 have y9:vf.cell? ⟨b4,9,none⟩=some (.int .i64 0):=(k4.on hAf).cell rfl
 have y10:vf.cell? ⟨b4,10,none⟩=some (.bool false):=(k4.on hAf).cell rfl
 have y11:vf.cell? ⟨b4,11,none⟩=some (.int .i64 0):=(k4.on hAf).cell rfl
 have y12:vf.cell? ⟨b4,12,none⟩=some (.int .u64 0):=(k4.on hAf).cell rfl
 obtain ⟨wg,hwg⟩:∃ W,W=vf.alloc (.cells #[.int .i64 0,.int .u8 10,.int .i64 0,.int .i64 0,.int .i64 0,.int .i64 0,.int .i64 0,.int .i64 0,.int .i64 0,.int .i64 0,.bool false,.int .i64 0,.int .u64 0] 39):=⟨_,rfl⟩
 have hbg:Below w1.heap.size w1 wg:=by rw [hwg];exact below_nx hAf (below1 vf _) (Nat.le_refl _)
 have rg:Blk wg vf.heap.size 39 #[.int .i64 0,.int .u8 10,.int .i64 0,.int .i64 0,.int .i64 0,.int .i64 0,.int .i64 0,.int .i64 0,.int .i64 0,.int .i64 0,.bool false,.int .i64 0,.int .u64 0]:=by rw [hwg];exact blk_new vf _ _
 have hvg:Below vf.heap.size vf wg:=by rw [hwg];exact below1 vf _
 have hM3:=hM2.below hvg
 have hg:=stands_one wg (hP1.later hbg) (one_row (x:=eE) rg)
 go_wp2_with fail
 rw [<- hwg]
 refine hg.mono ?_
 clear hg p0 p1 p2 y0 y1 y2 y3 y4 y5 y6 y7 y8 y9 y10 y11 y12 hwg rg
 rintro e vg ⟨⟨ga,gc,rfl⟩,hqg⟩
 have hAg:=below_nx hbg hqg (Nat.le_refl _)
 have hM4:=hM3.below hqg
 have hov:=over_all vg hM4.md (by rw [one_len];decide) one_Me one_all
 have hE:=below_nx hB1 hAg (Nat.le_refl _)
 clear hM hM2 hM3 hM4 hP1 k3 k4
 go_wp2_with fail
 refine hov.mono ?_
 clear hov
 rintro e vz ⟨rfl,hz⟩
 have hE2:=below_nx hE hz (Nat.le_refl _)
 go_wp2_with fail
 go_ret
 exact ⟨rfl,hE2⟩
end Go.Proofs.YtnfbncgfpmcpnaaGreat.Mdl
