/-
  ReplayNext: its walks, part 36.
-/
import Derived.Test.YtnfbncgfpmcpnaaGreatQ35
set_option maxRecDepth 100000
set_option maxHeartbeats 12800000
namespace Go.Proofs.YtnfbncgfpmcpnaaGreat.Mdl
open Go.RowKit
open Ent (En EnRow okB)
open Mch (Frm below1 below_nx)
section
variable {R A:Nat} {o:Nat->Nat} {w0:World} {r:Rn}
def DoPost (w0:World) (o:Nat->Nat) (R A:Nat) (r:Rn) (x:En) (w:World) (e:Ending) (w':World):Prop:=
 e=.returned (.int .i64 (doE r.M x))/\∃ o',RnAt w0 o' R A (if doE r.M x=0 then r.do_ x else r) w'/\Trn R o o' w w'
theorem do_ends {w w2 w3:World} {o2:Nat->Nat} {x:En} (h:RnAt w0 o2 R A { r with M:=doM r.M x } w2) (hT:Trn R o o2 w w2) (h0:doE r.M x=0) (he:r.e=0)
  (hw3:w3=((w2.setCell ⟨R,1,none⟩ (.int .i64 ((r.d:Int)+1))).setCell ⟨R,2,none⟩ (.int .i64 x.a)).drew):RnAt w0 o2 R A (r.do_ x) w3/\Trn R o o2 w w3:=by
 obtain ⟨h1,t1⟩:=h.set (k:=1) (v:=.int .i64 ((r.d:Int)+1)) (r':=⟨doM r.M x,r.d+1,r.a,r.e⟩) rfl rfl
 obtain ⟨h2,t2⟩:=h1.set (k:=2) (v:=.int .i64 x.a) (r':=⟨doM r.M x,r.d+1,x.a,r.e⟩) rfl rfl
 refine ⟨?_,?_⟩
 ·rw [hw3];unfold Rn.do_;rw [if_pos h0, <- he];exact h2.below (Below.refl _ _).drew
 ·rw [hw3];exact ((hT.trans t1).trans t2).trans (Trn.of_below (Below.refl _ _).drew)
theorem RnAt.drew {X:World} (h:RnAt w0 o R A r X):RnAt w0 o R A r X.drew:=h.below (Below.refl _ _).drew
theorem do_any (x:En) (w:World) (h:RnAt w0 o R A r w) (hx:x.ok) (he:r.e=0) (hd:r.d<1000000) :
  Calls Tryz.prog 112 #[ptrV R,enV x] w (DoPost w0 o R A r x w):=by
 obtain ⟨w1,hw1⟩:∃ w1,w1=w.alloc (.cells (enA x) 39):=⟨_,rfl⟩
 have hB1:Below w.heap.size w w1:=by rw [hw1];exact below1 w _
 have hX1:Blk w1 w.heap.size 39 (enA x):=by rw [hw1];exact blk_new w _ _
 have hcm:=commitE_any x.k w1 hx.k
 have hR1:=h.below hB1
 have hT1:Trn R o o w w1:=Trn.of_below hB1
 have hoX:o w.heap.size=0:=h.run.md.off (Nat.le_refl _)
 have hRX:R ≠ w.heap.size:=fun e=>by have:=h.blk.lt;omega
 obtain ⟨g,hg⟩:∃ g,g=doE r.M x:=⟨_,rfl⟩
 have HG:=Lib.hid hg
 have HE:=Lib.hid he
 obtain ⟨n,hn⟩:∃ n,n=r.d:=⟨_,rfl⟩
 have HN:=Lib.hid hn
 have hn':n<1000000:=by rw [hn];exact hd
 have hwn:IntKind.i64.wrap ((n:Int)+1)=(n:Int)+1:=by rw [IntKind.wrap_i64];omega
 have y0:w1.cell? ⟨w.heap.size,0,none⟩=some (.int .i64 x.a):=hX1.cell rfl
 have y1:w1.cell? ⟨w.heap.size,1,none⟩=some (.int .u8 (x.k:Int)):=hX1.cell rfl
 have y2:w1.cell? ⟨w.heap.size,2,none⟩=some (.int .i64 x.w):=hX1.cell rfl
 have y3:w1.cell? ⟨w.heap.size,3,none⟩=some (.int .i64 x.t):=hX1.cell rfl
 have y4:w1.cell? ⟨w.heap.size,4,none⟩=some (.int .i64 x.p):=hX1.cell rfl
 have y5:w1.cell? ⟨w.heap.size,5,none⟩=some (.int .i64 x.c):=hX1.cell rfl
 have y6:w1.cell? ⟨w.heap.size,6,none⟩=some (.int .i64 x.b):=hX1.cell rfl
 have y7:w1.cell? ⟨w.heap.size,7,none⟩=some (.int .i64 x.q):=hX1.cell rfl
 have y8:w1.cell? ⟨w.heap.size,8,none⟩=some (.int .i64 x.v):=hX1.cell rfl
 have y9:w1.cell? ⟨w.heap.size,9,none⟩=some (.int .i64 x.u):=hX1.cell rfl
 have y10:w1.cell? ⟨w.heap.size,10,none⟩=some (.bool x.o):=hX1.cell rfl
 have y11:w1.cell? ⟨w.heap.size,11,none⟩=some (.int .i64 x.e):=hX1.cell rfl
 have y12:w1.cell? ⟨w.heap.size,12,none⟩=some (.int .u64 (x.s:Int)):=hX1.cell rfl
 clear h hB1 hd he
 cases hc:comB x.k with
 | false=>
  have hc':(decide (1<=x.k) && decide (x.k<=11))=false:=hc
  rw [hc'] at hcm
  have h0:doE r.M x=0:=by unfold doE;rw [hc,if_neg (by decide)]
  have hM:doM r.M x=r.M:=by unfold doM;rw [hc,if_neg (by decide)]
  have H0:=Lib.hid h0
  have hR1':RnAt w0 o R A { r with M:=doM r.M x } w1:=by rw [hM];exact hR1
  clear hc hc' hM h0 hg hn
  go_enter Tryz.func112,Tryz.ntmps112
  go_upto_region 1 with fail
  rw [<- hw1]
  clear hw1 y2 y3 y4 y5 y6 y7 y8 y9 y10 y11 y12
  go_wp2_with fail
  refine hcm.mono ?_
  clear hcm y0 y1
  rintro e w2 ⟨rfl,rfl⟩
  have hXd:Blk w2.drew w.heap.size 39 (enA x):=hX1
  have hRd:=hR1'.drew
  obtain ⟨c0,c1,c2,c3,cf⟩:=hRd.cells
  simp only [<- HN.out] at c1
  have y0:w2.drew.cell? ⟨w.heap.size,0,none⟩=some (.int .i64 x.a):=hXd.cell rfl
  have y0':w2.cell? ⟨w.heap.size,0,none⟩=some (.int .i64 x.a):=hX1.cell rfl
  have c1':w2.cell? ⟨R,1,none⟩=some (.int .i64 (n:Int)):=c1
  have c2':w2.cell? ⟨R,2,none⟩=some (.int .i64 r.a):=c2
  have f1:w2.drew.frozen? ⟨R,1,none⟩=false:=cf 1
  have f2:w2.drew.frozen? ⟨R,2,none⟩=false:=cf 2
  have f1':w2.frozen? ⟨R,1,none⟩=false:=cf 1
  have f2':w2.frozen? ⟨R,2,none⟩=false:=cf 2
  clear cf c0 c3
  go_upto_region 5 with fail
  go_region
  all_goals go_wp2_with fail
  all_goals go_ret
  all_goals refine ⟨by rw [H0.out];rfl,o,?_⟩
  all_goals rw [if_pos H0.out]
  all_goals exact do_ends hR1' hT1 H0.out HE.out (by rw [HN.out])
 | true=>
  have hc':(decide (1<=x.k) && decide (x.k<=11))=true:=hc
  rw [hc'] at hcm
  have h0:doE r.M x=r.M.applyE x:=by unfold doE;rw [hc,if_pos rfl]
  have hM:doM r.M x=r.M.apply x:=by unfold doM;rw [hc,if_pos rfl]
  have hap:=hR1.drew.run.apply hx
  rw [<- h0, <- hM, <- hg] at hap
  have HM:=Lib.hid hM
  have hS0:w1.drew.cell? ⟨R,0,none⟩=some (ptrV A)/\w1.drew.cell? ⟨w.heap.size,0,none⟩=some (.int .i64 x.a)/\w1.drew.cell? ⟨w.heap.size,1,none⟩=some (.int .u8 (x.k:Int))/\w1.drew.cell? ⟨w.heap.size,2,none⟩=some (.int .i64 x.w)/\w1.drew.cell? ⟨w.heap.size,3,none⟩=some (.int .i64 x.t)/\w1.drew.cell? ⟨w.heap.size,4,none⟩=some (.int .i64 x.p)/\w1.drew.cell? ⟨w.heap.size,5,none⟩=some (.int .i64 x.c)/\w1.drew.cell? ⟨w.heap.size,6,none⟩=some (.int .i64 x.b)/\w1.drew.cell? ⟨w.heap.size,7,none⟩=some (.int .i64 x.q)/\w1.drew.cell? ⟨w.heap.size,8,none⟩=some (.int .i64 x.v)/\w1.drew.cell? ⟨w.heap.size,9,none⟩=some (.int .i64 x.u)/\w1.drew.cell? ⟨w.heap.size,10,none⟩=some (.bool x.o)/\w1.drew.cell? ⟨w.heap.size,11,none⟩=some (.int .i64 x.e)/\w1.drew.cell? ⟨w.heap.size,12,none⟩=some (.int .u64 (x.s:Int)):=⟨hR1.blk.cell rfl,  hX1.cell rfl,hX1.cell rfl,  hX1.cell rfl,hX1.cell rfl,  hX1.cell rfl,hX1.cell rfl,  hX1.cell rfl,hX1.cell rfl,  hX1.cell rfl,hX1.cell rfl,  hX1.cell rfl,hX1.cell rfl,hX1.cell rfl⟩
  have hkS:∀ (W:World) (o':Nat->Nat),Goes o o' w1.drew W->W.cell? ⟨R,0,none⟩=some (ptrV A)/\W.cell? ⟨w.heap.size,0,none⟩=some (.int .i64 x.a)/\W.cell? ⟨w.heap.size,1,none⟩=some (.int .u8 (x.k:Int))/\W.cell? ⟨w.heap.size,2,none⟩=some (.int .i64 x.w)/\W.cell? ⟨w.heap.size,3,none⟩=some (.int .i64 x.t)/\W.cell? ⟨w.heap.size,4,none⟩=some (.int .i64 x.p)/\W.cell? ⟨w.heap.size,5,none⟩=some (.int .i64 x.c)/\W.cell? ⟨w.heap.size,6,none⟩=some (.int .i64 x.b)/\W.cell? ⟨w.heap.size,7,none⟩=some (.int .i64 x.q)/\W.cell? ⟨w.heap.size,8,none⟩=some (.int .i64 x.v)/\W.cell? ⟨w.heap.size,9,none⟩=some (.int .i64 x.u)/\W.cell? ⟨w.heap.size,10,none⟩=some (.bool x.o)/\W.cell? ⟨w.heap.size,11,none⟩=some (.int .i64 x.e)/\W.cell? ⟨w.heap.size,12,none⟩=some (.int .u64 (x.s:Int)):=fun W o' hG=>by
   have hRR:Blk W R 105 _:=(hG.frm.block R hR1.drew.blk.lt (fun e=>e hR1.off)).trans hR1.drew.blk
   have hXX:Blk W w.heap.size 39 (enA x):=(hG.frm.block _ (show _<w1.drew.heap.size from hX1.lt) (fun e=>e hoX)).trans hX1
   exact ⟨hRR.cell rfl,hXX.cell rfl,hXX.cell rfl,hXX.cell rfl,hXX.cell rfl,hXX.cell rfl,hXX.cell rfl,hXX.cell rfl,hXX.cell rfl,hXX.cell rfl,hXX.cell rfl,hXX.cell rfl,hXX.cell rfl,hXX.cell rfl⟩
  clear hc hc' hM h0 hg hn
  go_enter Tryz.func112,Tryz.ntmps112
  go_upto_region 1 with fail
  rw [<- hw1]
  clear hw1 y2 y3 y4 y5 y6 y7 y8 y9 y10 y11 y12
  go_wp2_with fail
  refine hcm.mono ?_
  clear hcm y0 y1
  rintro e w2 ⟨rfl,rfl⟩
  obtain ⟨X,hX⟩:∃ X,X=w.heap.size:=⟨_,rfl⟩
  rw [<- hX] at hS0 hkS hX1 hoX hRX ⊢
  clear hX
  go_upto_region 2 with fail
  go_region_held3 (fun W=>W.cell? ⟨R,0,none⟩=some (ptrV A)/\W.cell? ⟨X,0,none⟩=some (.int .i64 x.a)/\W.cell? ⟨X,1,none⟩=some (.int .u8 (x.k:Int))/\W.cell? ⟨X,2,none⟩=some (.int .i64 x.w)/\W.cell? ⟨X,3,none⟩=some (.int .i64 x.t)/\W.cell? ⟨X,4,none⟩=some (.int .i64 x.p)/\W.cell? ⟨X,5,none⟩=some (.int .i64 x.c)/\W.cell? ⟨X,6,none⟩=some (.int .i64 x.b)/\W.cell? ⟨X,7,none⟩=some (.int .i64 x.q)/\W.cell? ⟨X,8,none⟩=some (.int .i64 x.v)/\W.cell? ⟨X,9,none⟩=some (.int .i64 x.u)/\W.cell? ⟨X,10,none⟩=some (.bool x.o)/\W.cell? ⟨X,11,none⟩=some (.int .i64 x.e)/\W.cell? ⟨X,12,none⟩=some (.int .u64 (x.s:Int)))
   (with_reducible first | exact hS0 | exact hkS _ _ hG)
   ((with_reducible refine hap.mono ?_;rintro e w3 ⟨rfl,o2,hG,hR3⟩))
  have hRn3:RnAt w0 o2 R A { r with M:=doM r.M x } w3:=hR1.drew.goes hG hR3
  have hT3:Trn R o o2 w w3:=(hT1.trans (Trn.of_below (Below.refl _ _).drew)).trans (Trn.of_goes hG)
  have hX3:Blk w3 X 39 (enA x):=(hG.frm.block X (show X<w2.drew.heap.size from hX1.lt) (fun e=>e hoX)).trans hX1
  clear hap hS0 hkS hG hR3 hR1 hT1 hX1
  by_cases hg0:g=0
  ·have H0:Hid (doE r.M x=0):=Lib.hid (by rw [<- HG.out];exact hg0)
   subst hg0
   obtain ⟨c0,c1,c2,c3,cf⟩:=hRn3.drew.cells
   simp only [<- HN.out] at c1
   have y0:w3.drew.cell? ⟨X,0,none⟩=some (.int .i64 x.a):=hX3.cell rfl
   have y0':w3.cell? ⟨X,0,none⟩=some (.int .i64 x.a):=hX3.cell rfl
   have c1':w3.cell? ⟨R,1,none⟩=some (.int .i64 (n:Int)):=c1
   have c2':w3.cell? ⟨R,2,none⟩=some (.int .i64 r.a):=c2
   have f1:w3.drew.frozen? ⟨R,1,none⟩=false:=cf 1
   have f2:w3.drew.frozen? ⟨R,2,none⟩=false:=cf 2
   have f1':w3.frozen? ⟨R,1,none⟩=false:=cf 1
   have f2':w3.frozen? ⟨R,2,none⟩=false:=cf 2
   clear cf c0 c3
   go_wp2_with fail
   go_upto_region 5 with fail
   go_region
   all_goals go_wp2_with fail
   all_goals go_ret
   all_goals refine ⟨by rw [H0.out];rfl,o2,?_⟩
   all_goals rw [if_pos H0.out]
   all_goals exact do_ends hRn3 hT3 H0.out HE.out (by rw [HN.out])
  ·have hne:(g != 0)=true:=by simpa using hg0
   have hM2:doM r.M x=r.M:=doM_bad (by rw [<- HG.out];exact hg0)
   rw [hM2] at hRn3
   have H1:Hid (¬ doE r.M x=0):=Lib.hid (by rw [<- HG.out];exact hg0)
   clear hg0 hM2 hX3
   go_wp2_with fail
   go_ret
   exact ⟨by rw [HG.out];rfl,o2,by rw [if_neg H1.out];exact hRn3,hT3⟩
end
open Go.RowKit Go.Shelf
open Ent (En EnRow okB)
open Mch (Frm below1 below_nx)
def SeqT {α:Type} (F:Fence) (n:Nat) (P:Program) (g:Nat) (lb:Array Value) (encs:α->Array Value) (R:Nat) (Hd:List α->(Nat->Nat)->Nat->World->Prop) (Fin:List α->(Nat->Nat)->World->Prop) (o0:Nat->Nat) (w:World):Prop:=
 ∀ (l:Nat) (J:List α->(Nat->Nat)->World->Prop) (W:World),Below w.heap.size w W->
  (∀ s o X o' Y,J s o X->Trn R o o' X Y->J s o' Y)->
  (∀ s x o b X,J s o X->Hd (s ++ [x]) o b X->YieldAt F (n - 1) P l (encs x) X fun e Y=>e=.returned (.bool true)/\∃ o',J (s ++ [x]) o' Y/\Hd (s ++ [x]) o' b Y)->
  J [] o0 W->
  CallsIn F n P g (#[.func (.yield l) #[] #[]] ++ lb) W fun e Y=>(∃ v,e=.returned v)/\∃ s o',Fin s o' Y/\J s o' Y
theorem frm_obj (W:World) (l:Nat) (o:Obj):Frm (fun k=>k=l) W (W.putObj l o):=
 ⟨rfl,rfl,rfl,by simp [World.putObj],fun _ _ hn=>World.putObj_heap_other hn⟩
theorem range_turn {F:Fence} {n:Nat} {P:Program} {α:Type} {g:Operand} {ps:Array Tmp} {assign body:Code} {Q:Exit->Act->World->Prop} {a:Act} {w:World}
  (hro:F.round=none) (h1:1<=n) {gf:Nat} {lb:Array Value} (hg:a.eval g=.func (.func gf) #[] lb) (hFg:F.fn gf) (eg:∀ args w,(callFunc gf args).run P w=.ok (.enter gf args) w)
  {encs:α->Array Value} {R:Nat} {Hd:List α->(Nat->Nat)->Nat->World->Prop} {Fin:List α->(Nat->Nat)->World->Prop} {o0:Nat->Nat} (hseq:SeqT F (n - 1) P gf lb encs R Hd Fin o0 w)
  (hR:R<w.heap.size) (hlow:∀ k,o0 k ≠ 0->k<w.heap.size)
  (hps:∀ x,(encs x).size=ps.size) (I:List α->(Nat->Nat)->World->Prop)
  (hIT:∀ s o X o' Y,I s o X->Trn R o o' X Y->I s o' Y) (hIO:∀ s o X l ob,I s o X->w.heap.size<=l->o l=0->I s o (X.putObj l ob))
  (hHO:∀ s o b X l ob oc,Hd s o b X->w.heap.size<=l->o l=0->X.heap[l]?=some oc->oc.isCells=false->Hd s o b (X.putObj l ob)) (hFO:∀ s o X l ob oc,Fin s o X->w.heap.size<=l->o l=0->X.heap[l]?=some oc->oc.isCells=false->Fin s o (X.putObj l ob)) (h0:I [] o0 w)
  (Ax:α->Act->World->Prop) (hAx:∀ x a' X (l:Nat) (o o':Obj),Ax x a' X->X.heap[l]?=some o->o.isCells=false->Ax x a' (X.putObj l o'))
  (hassign:∀ (l:Nat) (s:List α) (x:α) (o:Nat->Nat) (b:Nat) (W:World) (K:Act->World->Prop),I s o W->Hd (s ++ [x]) o b W->(∀ a' W',Below W.heap.size W W'->I s o W'->Hd (s ++ [x]) o b W'->Ax x a' W'->K a' W')->
   assign.wpIn (F.inRound l) (n - 1 - 1) P (Exit.then K (fun _ _ _=>False)) { tmps:=(ps.zip (encs x)).foldl (fun t (p,v)=>t.setIfInBounds p v) a.tmps,defers:=[] } W)
  (hbody:∀ (l:Nat) (s:List α) (x:α) (a':Act) (o:Nat->Nat) (b:Nat) (W:World),I s o W->Hd (s ++ [x]) o b W->Ax x a' W->
   body.wpIn (F.inRound l) (n - 1 - 1) P (fun e _ W'=>e=.normal/\KeepsFrom w.heap.size W W'/\∃ o',(∀ k,k<W.heap.size->o' k=o k)/\I (s ++ [x]) o' W'/\Hd (s ++ [x]) o' b W') a' W)
  (hdone:∀ (D:Nat) (s:List α) (o:Nat->Nat) (W:World),w.heap.size<=D->o D=0->Fin s o W->I s o W->W.heap[D]?=some (.deferred (some []))->Q .normal { a with defers:={ target:=.collected D,args:=#[] }::a.defers } W) :
  (Code.rangeFunc g ps assign body).wpIn F n P Q a w:=by
 refine wpIn_rangeFunc fun fn hfn=>?_
 rw [hro]
 let rec0:LoopState->Option Code->Loop:=fun st pe=>{ state:=st,pending:=pe,fn,tmps:=a.tmps,params:=ps,assign,body,defers:=w.heap.size }
 let Bk:LoopState->Option Code->(Nat->Nat)->World->Prop:=fun st pe o X=>(X.heap[w.heap.size+1]?=some (.loop (rec0 st pe))/\X.heap[w.heap.size]?=some (.deferred (some [])))/\o (w.heap.size+1)=0/\o w.heap.size=0
 obtain ⟨W1,hW1⟩:∃ W1,W1=(w.alloc (.deferred (some []))).alloc (.loop (rec0 .ready none)):=⟨_,rfl⟩
 have sz:W1.heap.size=w.heap.size+2:=by rw [hW1];simp
 have bB:Below w.heap.size w W1:=by rw [hW1];exact below2 w _ _
 have z0:∀ k,w.heap.size<=k->o0 k=0:=fun k hk=>by
  by_cases e:o0 k=0
  ·exact e
  ·have:=hlow k e;omega
 have bk1:Bk .ready none o0 W1:=by
  refine ⟨⟨?_,?_⟩,z0 _ (by omega),z0 _ (Nat.le_refl _)⟩
  ·rw [hW1]
   have:=World.alloc_heap_new (w.alloc (.deferred (some []))) (.loop (rec0 .ready none))
   rwa [World.size_alloc] at this
  ·rw [hW1]
   exact (Below.heap_alloc _ _ _ (by simp)).trans (World.alloc_heap_new w _)
 have lt1:∀ {st pe o X},Bk st pe o X->w.heap.size+1<X.heap.size:=fun h=>(Array.getElem?_eq_some_iff.1 h.1.1).1
 have bkT:∀ {st pe o o' X Y},Bk st pe o X->Trn R o o' X Y->Bk st pe o' Y:=fun {st pe o o' X Y} h ht=>by
  have hl:=lt1 h
  refine ⟨⟨(ht.frm.block _ hl (fun e=>?_)).trans h.1.1,(ht.frm.block _ (by omega) (fun e=>?_)).trans h.1.2⟩,?_,?_⟩
  ·rcases e with e | e
   ·exact e h.2.1
   ·omega
  ·rcases e with e | e
   ·exact e h.2.2
   ·omega
  ·rw [ht.old _ hl];exact h.2.1
  ·rw [ht.old _ (by omega)];exact h.2.2
 have bkP:∀ {st pe st' pe' o X},Bk st pe o X->Bk st' pe' o (X.putObj (w.heap.size+1) (.loop (rec0 st' pe'))):=fun h=>
  ⟨⟨World.putObj_heap_same (Array.getElem?_eq_some_iff.1 h.1.1).1,(World.putObj_heap_other (by omega)).trans h.1.2⟩,h.2⟩
 refine ⟨w.heap.size+1,[{ target:=.collected w.heap.size,args:=#[] }],W1,{ target:=.fn (.func gf) lb,args:=#[.func (.yield (w.heap.size+1)) #[] #[]] },W1,gf,
  #[.func (.yield (w.heap.size+1)) #[] #[]] ++ lb,W1,by rw [hW1];exact run_enterLoop_outer _ _ _ _ _,by simp only [resolve,hg];simp [go_sem],fun f' hf'=>?_,by simp [invoke,go_sem,eg],fun _=>h1,?_⟩
 ·simp [Target.leads] at hf'
  subst hf'
  exact hFg
 refine (hseq (w.heap.size+1) (fun s o X=>I s o X/\Bk .ready none o X) W1 bB
  (fun s o X o' Y h ht=>⟨hIT s o X o' Y h.1 ht,bkT h.2 ht⟩) ?_ ⟨hIT _ _ _ _ _ h0 (Trn.of_below bB),bk1⟩).mono ?_
 ·rintro s x o b X ⟨hi,hk⟩ hh
  refine ⟨fn,_,assign,body,run_yield (r:=rec0 .ready none) hk.1.1 (hps x),roundIn_of_wpIn hfn (hassign _ s x o b X _ hi hh fun a' Xa hka hia hha hax=>?_)⟩
  have hk':Bk .ready none o Xa:=bkT hk (Trn.of_below hka)
  refine ⟨_,run_beginRound (r:=rec0 .ready none) hk'.1.1 rfl,?_⟩
  have hkb:Bk .busy none o (Xa.putObj (w.heap.size+1) (.loop (rec0 .busy none))):=bkP hk'
  refine wpIn_mono (hbody _ s x a' o b _ (hIO _ _ _ _ _ hia (by omega) hk'.2.1) (hHO _ _ _ _ _ _ _ hha (by omega) hk'.2.1 hk'.1.1 rfl) (hAx _ _ _ _ _ _ hax hk'.1.1 rfl)) ?_
  rintro e a3 Z ⟨rfl,hz,o3,ho3,hiz,hhz⟩
  have hlb:=lt1 hkb
  have hzk:Bk .busy none o3 Z:=⟨⟨hz.same _ _ (by omega) hkb.1.1 rfl,hz.same _ _ (Nat.le_refl _) hkb.1.2 rfl⟩,by rw [ho3 _ hlb];exact hkb.2.1,by rw [ho3 _ (Nat.lt_of_succ_lt hlb)];exact hkb.2.2⟩
  exact ⟨_,_,run_endRound (r:=rec0 .busy none) none hzk.1.1,rfl,o3,⟨hIO _ _ _ _ _ hiz (by omega) hzk.2.1,bkP hzk⟩,hHO _ _ _ _ _ _ _ hhz (by omega) hzk.2.1 hzk.1.1 rfl⟩
 ·rintro e Y ⟨⟨v,rfl⟩,s,o',hf,hi,hk⟩
  exact ⟨none,_,run_endLoop (r:=rec0 .ready none) hk.1.1 (by simp [rec0]),hdone _ s o' _ (Nat.le_refl _) hk.2.2 (hFO _ _ _ _ _ _ hf (by omega) hk.2.1 hk.1.1 rfl) (hIO _ _ _ _ _ hi (by omega) hk.2.1) ((World.putObj_heap_other (by omega)).trans hk.1.2)⟩
end Go.Proofs.YtnfbncgfpmcpnaaGreat.Mdl
