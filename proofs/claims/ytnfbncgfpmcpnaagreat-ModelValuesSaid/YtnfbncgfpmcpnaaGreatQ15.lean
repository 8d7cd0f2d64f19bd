/-
  ReplayNext: its walks, part 15.
-/
import Derived.Deep.RegionWith
import Derived.Test.YtnfbncgfpmcpnaaGreatQ14
set_option maxRecDepth 100000
set_option maxHeartbeats 12800000
namespace Go.Proofs.YtnfbncgfpmcpnaaGreat.Mch
open Go.RowKit
structure ChAt (W:World) (C B m:Nat) (cl:Bool) (v0 v1:Value) (buf:List Int) (S R:List Wt):Prop where
 head:W.heap[C]?=some (.cells #[.pointer (some ⟨B,0,none⟩),.bool cl,v0,v1] 93 (0,0))
 ring:Rng W B m buf
 sends:W.ownsRow 0 145 3 v0 S.length (flatW S)
 recvs:W.ownsRow 0 145 3 v1 R.length (flatW R)
 apart:∀ g,v0.ownBlock=some g->v1.ownBlock ≠ some g
section
variable {W W':World} {C B m:Nat} {cl:Bool} {v0 v1:Value} {buf:List Int} {S R:List Wt}
theorem ChAt.lt (h:ChAt W C B m cl v0 v1 buf S R):C<W.heap.size:=(Array.getElem?_eq_some_iff.1 h.head).1
theorem ChAt.b (h:ChAt W C B m cl v0 v1 buf S R):W.cell? ⟨C,0,none⟩=some (.pointer (some ⟨B,0,none⟩)):=by simp [World.cell?,h.head]
theorem ChAt.c (h:ChAt W C B m cl v0 v1 buf S R):W.cell? ⟨C,1,none⟩=some (.bool cl):=by simp [World.cell?,h.head]
theorem ChAt.s (h:ChAt W C B m cl v0 v1 buf S R):W.cell? ⟨C,2,none⟩=some v0:=by simp [World.cell?,h.head]
theorem ChAt.r (h:ChAt W C B m cl v0 v1 buf S R):W.cell? ⟨C,3,none⟩=some v1:=by simp [World.cell?,h.head]
theorem ChAt.frozen (h:ChAt W C B m cl v0 v1 buf S R) (k:Nat):W.frozen? ⟨C,k,none⟩=false:=by simp [World.frozen?,h.head]
theorem ChAt.w (h:ChAt W C B m cl v0 v1 buf S R) (s:Bool):W.cell? ⟨C,2+ix s,none⟩=some (if s then v0 else v1):=by
 cases s
 ·exact h.r
 ·exact h.s
theorem ChAt.row (h:ChAt W C B m cl v0 v1 buf S R) (s:Bool):W.ownsRow 0 145 3 (if s then v0 else v1) (if s then S else R).length (flatW (if s then S else R)):=by
 cases s
 ·exact h.recvs
 ·exact h.sends
theorem own_at {e:TypeId} {v:Value} {n k:Nat} {xs:List Value} (h:W.ownsRow n e 3 v k xs) {g:Nat} (hg:v.ownBlock=some g):∃ cs,W.heap[g]?=some (.cells cs e (0,0)):=by
 rcases h.2 with ⟨rfl,_⟩ | ⟨g',cap,cur,rfl,_,hgb,_⟩
 ·simp [Value.ownBlock] at hg
 ·obtain rfl:g'=g:=by simpa [Value.ownBlock] using hg
  exact ⟨_,hgb⟩
theorem ChAt.ne_ring (h:ChAt W C B m cl v0 v1 buf S R):C ≠ B:=by
 rintro rfl
 obtain ⟨vs,f,hr,_⟩:=h.ring
 have:=h.head.symm.trans hr.2
 simp at this
theorem ChAt.ne_s (h:ChAt W C B m cl v0 v1 buf S R):v0.ownBlock ≠ some C/\v0.ownBlock ≠ some B:=by
 obtain ⟨vs,f,hr,_⟩:=h.ring
 refine ⟨fun e=>?_,fun e=>?_⟩
 ·obtain ⟨cs,hc⟩:=own_at h.sends e
  have:=hc.symm.trans h.head
  simp at this
 ·obtain ⟨cs,hc⟩:=own_at h.sends e
  have:=hc.symm.trans hr.2
  simp at this
theorem ChAt.ne_r (h:ChAt W C B m cl v0 v1 buf S R):v1.ownBlock ≠ some C/\v1.ownBlock ≠ some B:=by
 obtain ⟨vs,f,hr,_⟩:=h.ring
 refine ⟨fun e=>?_,fun e=>?_⟩
 ·obtain ⟨cs,hc⟩:=own_at h.recvs e
  have:=hc.symm.trans h.head
  simp at this
 ·obtain ⟨cs,hc⟩:=own_at h.recvs e
  have:=hc.symm.trans hr.2
  simp at this
theorem ChAt.below (h:ChAt W C B m cl v0 v1 buf S R) (hb:Below W.heap.size W W'):ChAt W' C B m cl v0 v1 buf S R:=
 have hg:=grownBy_of_below hb
 ⟨(hb.block C h.lt).trans h.head,h.ring.below hb,h.sends.kept hg (by cases v0.ownBlock <;> simp),h.recvs.kept hg (by cases v1.ownBlock <;> simp),h.apart⟩
theorem ChAt.drew (h:ChAt W C B m cl v0 v1 buf S R):ChAt W.drew C B m cl v0 v1 buf S R:=h.below (Below.refl _ _).drew
end
def Chn (W:World) (F:Nat->Prop) (C m:Nat) (cl:Bool) (buf:List Int) (S R:List Wt):Prop:=
 ∃ B v0 v1,ChAt W C B m cl v0 v1 buf S R/\F C/\F B/\(∀ g,v0.ownBlock=some g->F g)/\(∀ g,v1.ownBlock=some g->F g)
section
variable {W W':World} {F G:Nat->Prop} {C m:Nat} {cl:Bool} {buf:List Int} {S R:List Wt}
theorem Chn.mono (h:Chn W F C m cl buf S R) (hG:∀ k,F k->G k):Chn W G C m cl buf S R:=by
 obtain ⟨B,v0,v1,h,h1,h2,h3,h4⟩:=h
 exact ⟨B,v0,v1,h,hG _ h1,hG _ h2,fun g e=>hG _ (h3 g e),fun g e=>hG _ (h4 g e)⟩
theorem Chn.below (h:Chn W F C m cl buf S R) (hb:Below W.heap.size W W'):Chn W' F C m cl buf S R:=by
 obtain ⟨B,v0,v1,h,r⟩:=h
 exact ⟨B,v0,v1,h.below hb,r⟩
end
theorem rowOf_any (s:Bool) (w:World) :
  Calls Tryz.prog 119 #[.bool s] w fun e w'=>e=.returned (.int .i64 (ix s:Int))/\w'=w:=by
 go_enter Tryz.func119,Tryz.ntmps119
 cases s
 ·go_wp2_with fail
  go_ret
  exact ⟨rfl,rfl⟩
 ·go_wp2_with fail
  go_ret
  exact ⟨rfl,rfl⟩
theorem row_any (p:Option Addr) (k:Int) (w:World) :
  Calls Tryz.prog 118 #[.pointer p,.int .i64 k] w fun e w'=>e=.returned (.func (.func 148) #[] #[.pointer (some ⟨w.heap.size,0,none⟩),.pointer (some ⟨w.heap.size+1,0,none⟩)])/\w'=(w.alloc (.cells #[.pointer p] 46)).alloc (.cells #[.int .i64 k] 3):=by
 go_enter Tryz.func118,Tryz.ntmps118
 go_wp2_with fail
 go_ret
 exact ⟨rfl,rfl⟩
section
variable {C B m:Nat} {cl:Bool} {v0 v1:Value} {buf:List Int} {S R:List Wt}
theorem ccap_any (w:World) (h:ChAt w C B m cl v0 v1 buf S R) :
  Calls Tryz.prog 173 #[.pointer (some ⟨C,0,none⟩)] w fun e w'=>e=.returned (.int .i64 (m:Int))/\w'=w:=by
 have hb:=h.b
 have hc:=cap_ring w h.ring
 clear h
 go_enter Tryz.func173,Tryz.ntmps173
 go_wp2_with fail
 refine hc.mono ?_
 rintro e w ⟨rfl,rfl⟩
 go_wp2_with fail
 go_ret
 exact ⟨rfl,rfl⟩
end
theorem cnew_ok (m:Nat) (w:World) (h:m<=8) :
  Calls Tryz.prog 25 #[.int .i64 (m:Int)] w fun e w'=>∃ C,e=.returned (.tuple #[.pointer (some ⟨C,0,none⟩),.int .i64 0])/\Chn w' (fun k=>w.heap.size<=k) C m false [] [] []/\Below w.heap.size w w':=by
 have hc:=new_ok m w h
 clear h
 go_enter Tryz.func25,Tryz.ntmps25
 go_wp2_with fail
 refine hc.mono ?_
 rintro e w1 ⟨rfl,hR,hg⟩
 have hb:Below w.heap.size w w1:=(Below.refl _ _).grown hg (Nat.le_refl _) (fun _ e=>by cases e)
 have hR1:∀ o,Rng (w1.alloc o) w.heap.size m []:=fun o=>hR.below (below1 w1 o)
 clear hg hc
 go_wp2_with fail
 go_ret2
 refine ⟨w1.heap.size,rfl,⟨w.heap.size,.slice none 0 0,.slice none 0 0,⟨World.alloc_heap_new w1 _,hR1 _,World.ownsRow_nil _ _ _ _,World.ownsRow_nil _ _ _ _,fun g e=>by simp [Value.ownBlock] at e⟩,hb.size,Nat.le_refl _,fun g e=>by simp [Value.ownBlock] at e,fun g e=>by simp [Value.ownBlock] at e⟩,Below.al hb hb.size _⟩
open Go.RowKit Go.Shelf
attribute [local go_sem] Oper.semAt_some
theorem grown_below {n:Nat} {W W':World} (h:Below n W W') (hn:n=W.heap.size:=by rfl):W.grownBy W' none:=⟨h.os,h.tape,h.output,h.size,fun k hk _=>h.block k (by omega)⟩
theorem below_drewN {n:Nat} {w w1:World} (h:Below n w w1) (q:Nat):Below n w (w1.drewN q):=⟨h.os,h.tape,h.output,h.size,h.block⟩
theorem hcell_below {w0 w W:World} {p:Addr} {v:Value} (h:w0.cell? p=some v) (hW:Below w0.heap.size w0 w) (hW2:Below w.heap.size w W):W.cell? p=some v:=
 World.grownBy.cell (grown_below (below_nx hW hW2 (Nat.le_refl _))) h (by simp)
theorem take_snocW (xs:List Wt) (j:Nat) (x:Wt) (h:xs[j]?=some x):xs.take (j+1)=xs.take j ++ [x]:=by
 rw [List.take_add_one,h];rfl
theorem row1_in (n:Nat) (hn:2<=n) (l Bc Bw C:Nat) (s:Bool) (v:Value) (xs:List Wt) (w0:World) (J Jx:List Wt->World->Prop)
  (hY:∀ pre (x:Wt) W,J pre W->pre.length<1000->YieldAt Fence.wide (n - 1) Tryz.prog l #[x.val] W fun e W'=>
   (e=.returned (.bool true)/\J (pre ++ [x]) W'/\Below w0.heap.size W W') \/ (e=.returned (.bool false)/\Jx (pre ++ [x]) W'))
  (W:World) (hBc:Boxed W Bc 46 (.pointer (some ⟨C,0,none⟩))) (hBw:Boxed W Bw 3 (.int .i64 (ix s:Int)))
  (hcell:W.cell? ⟨C,2+ix s,none⟩=some v) (hrow:w0.ownsRow 0 145 3 v xs.length (flatW xs)) (hl:xs.length<=1000)
  (hW:Below w0.heap.size w0 W) (hJ:AbidesFrom W.heap.size J) (h0:J [] W) :
  CallsIn Fence.wide n Tryz.prog 148 #[.func (.yield l) #[] #[],.pointer (some ⟨Bc,0,none⟩),.pointer (some ⟨Bw,0,none⟩)] W fun e W'=>(∃ v,e=.returned v) /\
   ((∃ ys,ys=xs/\J ys W') \/ (∃ pre,pre <+: xs/\Jx pre W')):=by
 have hcc:=hBc.cell
 have hwc:=hBw.cell
 have hi0:(0:Int)<=(ix s:Int):=by omega
 have hi2:(ix s:Int)<2:=by have:=ix_lt s;omega
 obtain ⟨a,c,rfl⟩:=owns_slice' hrow
 refine callsIn_of_wp Tryz.func148 rfl trivial ?_ rfl
 simp only [Tryz.ntmps148,List.size_toArray,List.length_cons,List.length_nil,Nat.reduceAdd,Nat.reduceSub,Array.replicate_succ,Array.replicate_zero,List.push_toArray,List.append_toArray,List.nil_append,List.cons_append]
 gi_wp2
 gi_quiet (fail)
 gi_wp2
 gi_loopw [15] (fun iv wr=>∃ j:Nat,j<=xs.length/\iv=.int .i64 j/\J (xs.take j) wr/\Below w0.heap.size w0 wr) (fun iv _=>xs.length - (intOf iv).toNat)
 case atStart=>
  exact ⟨0,Nat.zero_le _,rfl,hJ _ _ _ none h0 (grown_below (below_drewN (Below.refl _ W) _)) (fun r e=>by cases e),below_drewN hW _⟩
 case round=>
  clear hcc hwc hcell h0 hW
  obtain ⟨j,hj,rfl,hJi,hWr⟩:=hrel
  by_cases hlt:j<xs.length
  ·have hlt':(j:Int)<(xs.length:Int):=by omega
   have q0:(0:Int)<=(j:Int):=by omega
   obtain ⟨x,hxj⟩:∃ x,xs[j]?=some x:=⟨_,List.getElem?_eq_getElem hlt⟩
   have hrw:=hrow.kept (grown_below hWr) (by cases (Value.slice a xs.length c).ownBlock <;> simp)
   obtain ⟨g,cap,he,x0,x1,x2⟩:=row_at hrw hxj
   obtain ⟨rfl,rfl⟩:a=some ⟨g,0,none⟩/\c=cap:=by cases he;exact ⟨rfl,rfl⟩
   have HT:=Lib.hid (take_snocW xs j x hxj)
   have HP:Hid (xs.take (j+1) <+: xs):=Lib.hid (List.take_prefix _ _)
   have hb1:=below1 wr (.cells #[.int .i64 x.t,.int .i64 x.c,.int .i64 x.v] 145)
   have hJ1:=hJ _ _ _ none hJi (grown_below hb1) (fun r e=>by cases e)
   have hW1:=below_nx hWr hb1 (Nat.le_refl _)
   have hlen:(xs.take j).length<1000:=by rw [List.length_take];omega
   obtain ⟨fn,tmps,assign,body,hy,hR⟩:=hY _ x _ hJ1 hlen
   unfold Wt.val at hy
   clear hxj hJi hrw he hlen hJ1 hb1
   gi_wp2
   refine ⟨fun _=>by omega,hR.mono ?_⟩
   clear hy hR
   rintro e W3 (⟨rfl,hJ3,hK⟩ | ⟨rfl,hJx3⟩)
   ·have hW3:=hW1.trans hK
    gi_wp2
    go_roundw
    case rel=>exact ⟨j+1,by omega,by go_num,by rw [HT.out];exact hJ3,hW3⟩
    case measure=>simp [intOf];omega
   ·gi_wp2
    refine bodyPost_ret (results_none rfl _ _ _) rfl ?_
    exact ⟨⟨_,rfl⟩,.inr ⟨_,by rw [<- HT.out];exact HP.out,hJx3⟩⟩
  ·obtain rfl:j=xs.length:=by omega
   rw [List.take_length] at hJi
   gi_wp2
   go_end0
   exact ⟨⟨_,rfl⟩,.inl ⟨_,rfl,hJi⟩⟩
theorem row_stops {w w0:World} {Bc Bw C:Nat} {s:Bool} {v:Value} {xs:List Wt} (hBc:Boxed w Bc 46 (.pointer (some ⟨C,0,none⟩))) (hBw:Boxed w Bw 3 (.int .i64 (ix s:Int)))
  (hcell:w0.cell? ⟨C,2+ix s,none⟩=some v) (hrow:w0.ownsRow 0 145 3 v xs.length (flatW xs)) (hl:xs.length<=1000) (hW:Below w0.heap.size w0 w) :
  SeqStopsK Fence.wide 3 Tryz.prog 148 #[.pointer (some ⟨Bc,0,none⟩),.pointer (some ⟨Bw,0,none⟩)] (fun x:Wt=>#[x.val]) (Below w0.heap.size) (fun ys=>ys=xs) (fun pre=>pre <+: xs) 1000 w:=
 fun l J Jx W hW2 hJ _ hY h0=>row1_in 3 (by omega) l Bc Bw C s v xs w0 J Jx hY W (boxed_below hBc hW2) (boxed_below hBw hW2)
  ((hcell_below hcell hW hW2)) hrow hl (below_nx hW hW2 (Nat.le_refl _)) hJ h0
open Go.RowKit Go.Shelf
attribute [local go_sem] Oper.semAt_some
theorem wtAt_abides {β:Type} (B:Nat) (f:β->Wt) (m:Nat):OwnFrom m (fun (s:β) W=>WtAt W B (f s)):=
 Own.from (I:=fun (s:β) (W:World)=>WtAt W B (f s)) (fun sx A W' row hs hg hr=>hs.of_block (hg.block B hs.lt (fun e=>by
  obtain ⟨o,ho,hn⟩:=hr B e.symm
  rw [show A.heap[B]?=_ from hs] at ho
  cases ho
  cases hn))) m
structure Fst (W:World) (n:Nat) (x:Wt) (b:Bool):Prop where
 it:WtAt W n x
 is:Boxed W (n+1) 4 (.bool b)
theorem Fst.below {W W':World} {n:Nat} {x:Wt} {b:Bool} (h:Fst W n x b) (hb:Below W.heap.size W W'):Fst W' n x b:=⟨h.it.below hb,boxed_below h.is hb⟩
def setFst (W:World) (n:Nat) (y:Wt) (c:Bool):World:=(((W.setCell ⟨n,0,none⟩ (.int .i64 y.t)).setCell ⟨n,1,none⟩ (.int .i64 y.c)).setCell ⟨n,2,none⟩ (.int .i64 y.v)).setCell ⟨n+1,0,none⟩ (.bool c)
theorem Fst.set {W:World} {n:Nat} {x:Wt} {b:Bool} (h:Fst W n x b) (y:Wt) (c:Bool):Fst (setFst W n y c) n y c:=by
 have h1:=h.it.set y
 have g1:=grownBy_setCell W ⟨n,0,none⟩ (.int .i64 y.t)
 have g2:=grownBy_setCell (W.setCell ⟨n,0,none⟩ (.int .i64 y.t)) ⟨n,1,none⟩ (.int .i64 y.c)
 have g3:=grownBy_setCell ((W.setCell ⟨n,0,none⟩ (.int .i64 y.t)).setCell ⟨n,1,none⟩ (.int .i64 y.c)) ⟨n,2,none⟩ (.int .i64 y.v)
 have h2:=((h.is.kept g1 (by simp)).kept g2 (by simp)).kept g3 (by simp)
 exact ⟨h1.of_block (Below.heap_setCell _ _ _ _ (by simp)),h2.set _⟩
theorem fst_below {W w0:World} {m n:Nat} (hb:Below m w0 W) (hm:m<=n) (y:Wt) (c:Bool):Below m w0 (setFst W n y c):=
 (((hb.setCell (p:=⟨n,0,none⟩) hm _).setCell (p:=⟨n,1,none⟩) hm _).setCell (p:=⟨n,2,none⟩) hm _).setCell (p:=⟨n+1,0,none⟩) (by simp;omega) _
theorem fst_others (W:World) (n:Nat) (y:Wt) (c:Bool):KeepsOthers W (setFst W n y c):=
 (((KeepsOthers.setCell W ⟨n,0,none⟩ _).trans (KeepsOthers.setCell _ ⟨n,1,none⟩ _)).trans (KeepsOthers.setCell _ ⟨n,2,none⟩ _)).trans (KeepsOthers.setCell _ ⟨n+1,0,none⟩ _)
theorem fst_abides {β:Type} (n:Nat) (f:β->Wt) (b:Bool) (m:Nat):OwnFrom m (fun (s:β) W=>Fst W n (f s) b):=fun s W W' row hs hg hr=>
 ⟨wtAt_abides n f m s W W' row hs.it hg hr,boxed_abides (n+1) 4 (fun _:β=>.bool b) m s W W' row hs.is hg hr⟩
theorem first_end (F0:Value) (w W:World) (D:Nat) (hD:w.heap.size+1<=D) (x:Wt) (b:Bool) (t0 t1 t2 t3 t6 t7 t8 t9 t10 t11 t12 t13:Value)
  (hF:Fst W w.heap.size x b) (hB:Below w.heap.size w W) (hK:W.heap[D]?=some (.deferred (some [])))
  (HE:Hid (Value.tuple #[x.val,.bool b]=F0)) :
  bodyPostM Fence.wide 4 Tryz.prog Tryz.f83 (fun e w'=>e=.returned F0/\Below w.heap.size w w') .ret
   { tmps:=#[t0,t1,t2,t3,.pointer (some ⟨w.heap.size,0,none⟩),.pointer (some ⟨w.heap.size+1,0,none⟩),t6,t7,t8,t9,t10,t11,t12,t13],defers:=[{ target:=Target.collected D,args:=#[] }] } W:=by
 refine ⟨by simp,.inl ⟨_,_,rfl,run_takeDeferred hK,?_⟩⟩
 have hg:=grownBy_putObj' W D (.deferred none)
 have hr:∀ r,some D=some r->∃ o,W.heap[r]?=some o/\o.isCells=false:=fun r e=>by cases e;exact ⟨_,hK,rfl⟩
 have a1:=cell_kept hF.is.cell hg hr
 have c0:=cell_kept hF.it.c0 hg hr
 have c1:=cell_kept hF.it.c1 hg hr
 have c2:=cell_kept hF.it.c2 hg hr
 refine ⟨.tuple #[x.val,.bool b],?_,by rw [HE.out],hB.trans (belowK_b (w:=w) (Nat.le_refl _) _ D _ _ (by omega) hK rfl rfl)⟩
 unfold Wt.val
 simp [results,Tryz.f83,go_sem,a1,c0,c1,c2]
def headW (xs:List Wt):Wt:=xs.head?.getD .zero
theorem first_any {C:Nat} {s:Bool} {v:Value} {xs:List Wt} (w:World) (hcell:w.cell? ⟨C,2+ix s,none⟩=some v) (hrow:w.ownsRow 0 145 3 v xs.length (flatW xs)) (hl:xs.length<=1000) :
  Calls Tryz.prog 83 #[.pointer (some ⟨C,0,none⟩),.bool s] w fun e w'=>e=.returned (.tuple #[(headW xs).val,.bool xs.head?.isSome])/\Below w.heap.size w w':=by
 obtain ⟨F0,hF0⟩:∃ F0,F0=Value.tuple #[(headW xs).val,.bool xs.head?.isSome]:=⟨_,rfl⟩
 rw [<- hF0]
 obtain ⟨w2,hw2⟩:∃ w2,w2=(w.alloc (.cells #[.int .i64 0,.int .i64 0,.int .i64 0] 145)).alloc (.cells #[.bool false] 4):=⟨_,rfl⟩
 have hF2:Fst w2 w.heap.size .zero false:=by
  rw [hw2]
  have h1:=Boxed.new (w.alloc (.cells #[.int .i64 0,.int .i64 0,.int .i64 0] 145)) 4 (.bool false)
  rw [World.size_alloc] at h1
  exact ⟨(wtAt_new w .zero).alloc _,h1⟩
 have hB2:Below w.heap.size w w2:=by rw [hw2];exact Below.al (below1 w _) (by simp) _
 obtain ⟨w4,hw4⟩:∃ w4,w4=(w2.alloc (.cells #[.pointer (some ⟨C,0,none⟩)] 46)).alloc (.cells #[.int .i64 (ix s:Int)] 3):=⟨_,rfl⟩
 have hb24:Below w2.heap.size w2 w4:=by rw [hw4];exact Below.al (below1 w2 _) (by simp) _
 have hc4:Boxed w4 w2.heap.size 46 (.pointer (some ⟨C,0,none⟩)):=by rw [hw4];exact (Boxed.new w2 _ _).alloc _
 have hi4:Boxed w4 (w2.heap.size+1) 3 (.int .i64 (ix s:Int)):=by
  have h1:=Boxed.new (w2.alloc (.cells #[.pointer (some ⟨C,0,none⟩)] 46)) 3 (.int .i64 (ix s:Int))
  rw [World.size_alloc] at h1
  rw [hw4];exact h1
 have hB4:=below_nx hB2 hb24 (Nat.le_refl _)
 have hF4:=hF2.below hb24
 have hcell4:=World.grownBy.cell (grown_below hB4) hcell (by simp)
 have hrow4:=hrow.kept (grown_below hB4) (by cases v.ownBlock <;> simp)
 have hsz:w.heap.size+1<w4.heap.size:=hF4.is.lt
 have hra:=row_any (some ⟨C,0,none⟩) (ix s:Int) w2
 rw [<- hw4] at hra
 refine (callsIn_wide (n:=4)).1 ?_
 refine callsIn_of_wp_marks Tryz.func83 rfl trivial ?_ rfl
 simp only [Tryz.ntmps83,List.size_toArray,List.length_cons,List.length_nil,Nat.reduceAdd,Nat.reduceSub,Array.replicate_succ,Array.replicate_zero,List.push_toArray,List.append_toArray,List.nil_append,List.cons_append]
 clear hcell hrow hF2
 gi_wp2_with (first | (refine ⟨trivial,?_⟩;gi_at_call 119;refine (callsIn_wide.2 (rowOf_any s _)).mono ?_;rintro e w' ⟨rfl,rfl⟩;rw [<- hw2];clear hw2) | (refine ⟨trivial,?_⟩;gi_at_call 118;refine (callsIn_wide.2 hra).mono ?_;rintro e w4 ⟨rfl,rfl⟩))
 rw [<- hw4]
 clear hra hw4
 refine wpIn_rangeFunc_ownH rfl (by omega) (gf:=148) (lb:=#[.pointer (some ⟨w2.heap.size,0,none⟩),.pointer (some ⟨w2.heap.size+1,0,none⟩)]) rfl trivial (enters_of Tryz.func148 (by kernel_rfl) rfl)
  (row_stops hc4 hi4 hcell4 hrow4 hl (Below.refl _ _)) (fun h k=>h.trans k) (fun W l o o' hl ho hc hw=>belowK_b (Nat.le_refl _) W l o o' hl ho hc hw) (Below.refl _ _) (fun _=>rfl)
  (fun pre W=>Below w4.heap.size w4 W/\pre = [])
  (fun c pre W=>Fst W w.heap.size (headW pre) true/\Below w.heap.size w W/\c=.ret/\pre ≠ [])
  (OwnFrom.and (ownFrom_below (Nat.le_refl _) (Nat.le_refl _)) (fun _ _ _ _ h _ _=>h))
  (fun c=>OwnFrom.and (fst_abides w.heap.size headW true _) (OwnFrom.and (ownFrom_below (Nat.le_refl _) hB4.size) (fun _ _ _ _ h _ _=>h)))
  ⟨Below.refl _ _,rfl⟩
  (fun x a' W=>∃ X,a' = { tmps:=#[.pointer (some ⟨C,0,none⟩),.bool s,undef,undef,.pointer (some ⟨w.heap.size,0,none⟩),.pointer (some ⟨w.heap.size+1,0,none⟩),.pointer (some ⟨X,0,none⟩),.pointer (some ⟨C,0,none⟩),.bool s,.int .i64 (ix s:Int),.func (.func 148) #[] #[.pointer (some ⟨w2.heap.size,0,none⟩),.pointer (some ⟨w2.heap.size+1,0,none⟩)],x.val,undef,undef],defers:=[] }/\WtAt W X x/\w4.heap.size<=X) ?abides ?assign ?body ?done ?stop
 case abides=>
  intro x a' u W W' row hs hg hr
  obtain ⟨X,h1,h2,h3⟩:=hs
  exact ⟨X,h1,wtAt_abides X (fun _:Unit=>x) _ () W W' row h2 hg hr,h3⟩
 case assign=>
  rintro l pre x W K ⟨hB,HN⟩ hK
  unfold Wt.val at hK ⊢
  gi_wp2
  exact hK _ _ ((KeepsOthers.alloc W _).from _) ((below1 W _).mono hB.size) ⟨Below.al hB hB.size _,HN⟩ ⟨_,rfl,wtAt_new W x,hB.size⟩
 case body=>
  rintro l pre x a' W hl2 hr ⟨hB,rfl⟩ ⟨X,rfl,hX,hXl⟩ hlt
  have hF:=hF4.below hB
  have hBw:=below_nx hB4 hB (Nat.le_refl _)
  have c0:=hX.c0
  have c1:=hX.c1
  have c2:=hX.c2
  have k0:=hF.it.c0
  have k1:=hF.it.c1
  have k2:=hF.it.c2
  have k3:=hF.is.cell
  have f0:=hF.it.frozen 0
  have f1:=hF.it.frozen 1
  have f2:=hF.it.frozen 2
  have f3:=hF.is.frozen
  have hn0:X ≠ w.heap.size:=by omega
  have hn1:X ≠ w.heap.size+1:=by omega
  unfold Wt.val
  gi_wp2
  exact ⟨(fst_others W w.heap.size x true).from _,⟨hF.set x true,fst_below hBw (Nat.le_refl _) x true,rfl,by simp⟩⟩
 case done=>
  rintro D ys W hD hys ⟨hB,he⟩ hK
  have HE:Hid (Value.tuple #[Wt.zero.val,.bool false]=F0):=Lib.hid (by rw [hF0, <- show ys=xs from hys,he];rfl)
  clear hys he hF0
  have hF:=hF4.below hB
  have hBw:=below_nx hB4 hB (Nat.le_refl _)
  have k0:=hF.it.c0
  have k1:=hF.it.c1
  have k2:=hF.it.c2
  have k3:=hF.is.cell
  have f0:=hF.it.frozen 0
  have f1:=hF.it.frozen 1
  have f2:=hF.it.frozen 2
  have f3:=hF.is.frozen
  gi_wp2
  exact first_end F0 w _ D (by omega) .zero false _ _ _ _ _ _ _ _ _ _ _ _ (hF.set .zero false) (fst_below hBw (Nat.le_refl _) .zero false) ((fst_others W w.heap.size .zero false).same D _ hK rfl) HE
 case stop=>
  rintro D c pre W hD hpre ⟨hF,hB,rfl,hne⟩ hK
  have HE:Hid (Value.tuple #[(headW pre).val,.bool true]=F0):=Lib.hid (by
   rw [hF0]
   cases pre with
   | nil=>exact absurd rfl hne
   | cons x t=>obtain ⟨r,hr⟩:=hpre;rw [<- hr];rfl)
  clear hpre hne hF0
  gi_wp2
  exact first_end F0 w W D (by omega) _ _ _ _ _ _ _ _ _ _ _ _ _ _ hF hB hK HE
open Go.RowKit
section
variable {W w3:World} {F:Nat->Prop} {C B m:Nat} {cl:Bool} {v0 v1 v':Value} {buf:List Int} {S R l:List Wt} {s:Bool}
theorem opt_ne {a b:Option Nat} (h:∀ g,a=some g->b ≠ some g):a=none \/ a ≠ b:=by
 cases a with
 | none=>exact .inl rfl
 | some g=>exact .inr (fun e=>h g rfl e.symm)
theorem ChAt.ne_w (h:ChAt W C B m cl v0 v1 buf S R) (s:Bool):(if s then v0 else v1).ownBlock ≠ some C:=by
 cases s
 ·exact h.ne_r.1
 ·exact h.ne_s.1
theorem ChAt.turn (h:ChAt W C B m cl v0 v1 buf S R) (ho:v'.ownBlock=(if s then v0 else v1).ownBlock \/ ∃ g,v'.ownBlock=some g/\W.heap.size<=g) (hr:w3.ownsRow 0 145 3 v' l.length (flatW l)) (hg:W.grownBy w3 (if s then v0 else v1).ownBlock) :
  ChAt (w3.setCell ⟨C,2+ix s,none⟩ v') C B m cl (if s then v' else v0) (if s then v1 else v') buf (if s then l else S) (if s then R else l):=by
 have gs:=grownBy_setCell w3 ⟨C,2+ix s,none⟩ v'
 have hrl:∀ g,v'.ownBlock=some g->g ≠ C:=by
  rintro g e rfl
  rcases ho with h1 | ⟨g',h1,h2⟩
  ·rw [e] at h1
   cases s
   ·exact h.ne_r.1 h1.symm
   ·exact h.ne_s.1 h1.symm
  ·rw [h1] at e;cases e
   have:=h.lt;omega
 have hrow:(w3.setCell ⟨C,2+ix s,none⟩ v').ownsRow 0 145 3 v' l.length (flatW l):=hr.kept gs (by
  cases e:v'.ownBlock with
  | none=>exact .inl rfl
  | some g=>exact .inr (fun e2=>hrl g e (by cases e2;rfl)))
 cases s
 ·have hg':W.grownBy w3 v1.ownBlock:=hg
  have hh:w3.heap[C]?=some (.cells #[.pointer (some ⟨B,0,none⟩),.bool cl,v0,v1] 93 (0,0)):=(hg'.block C h.lt (fun e=>h.ne_r.1 e.symm)).trans h.head
  refine ⟨by simpa [ix] using heap_setCell_same (k:=3) v' hh,(h.ring.kept hg' (fun e=>h.ne_r.2 e.symm)).kept gs (fun e=>h.ne_ring (by cases e;rfl)),(h.sends.kept hg' (opt_ne h.apart)).kept gs ?_,hrow,?_⟩
  ·cases e:v0.ownBlock with
   | none=>exact .inl rfl
   | some g=>exact .inr (fun e2=>h.ne_s.1 (by rw [e];cases e2;rfl))
  ·intro g e1 e2
   rcases ho with h1 | ⟨g',h1,h2⟩
   ·exact h.apart g e1 (h1.symm.trans e2)
   ·have e3:v'.ownBlock=some g:=e2
    rw [h1] at e3;cases e3
    obtain ⟨cs,hc⟩:=own_at h.sends e1
    have:=(Array.getElem?_eq_some_iff.1 hc).1
    omega
 ·have hg':W.grownBy w3 v0.ownBlock:=hg
  have hh:w3.heap[C]?=some (.cells #[.pointer (some ⟨B,0,none⟩),.bool cl,v0,v1] 93 (0,0)):=(hg'.block C h.lt (fun e=>h.ne_s.1 e.symm)).trans h.head
  refine ⟨by simpa [ix] using heap_setCell_same (k:=2) v' hh,(h.ring.kept hg' (fun e=>h.ne_s.2 e.symm)).kept gs (fun e=>h.ne_ring (by cases e;rfl)),hrow,(h.recvs.kept hg' (opt_ne (fun g e1 e2=>h.apart g e2 e1))).kept gs ?_,?_⟩
  ·cases e:v1.ownBlock with
   | none=>exact .inl rfl
   | some g=>exact .inr (fun e2=>h.ne_r.1 (by rw [e];cases e2;rfl))
  ·intro g e2 e1
   rcases ho with h1 | ⟨g',h1,h2⟩
   ·exact h.apart g (h1.symm.trans e2) e1
   ·have e3:v'.ownBlock=some g:=e2
    rw [h1] at e3;cases e3
    obtain ⟨cs,hc⟩:=own_at h.recvs e1
    have:=(Array.getElem?_eq_some_iff.1 hc).1
    omega
structure Own (F:Nat->Prop) (C B:Nat) (v0 v1:Value):Prop where
 c:F C
 b:F B
 s:∀ g,v0.ownBlock=some g->F g
 r:∀ g,v1.ownBlock=some g->F g
theorem Chn.at (h:Chn W F C m cl buf S R):∃ B v0 v1,ChAt W C B m cl v0 v1 buf S R/\Own F C B v0 v1:=by
 obtain ⟨B,v0,v1,h,h1,h2,h3,h4⟩:=h
 exact ⟨B,v0,v1,h,h1,h2,h3,h4⟩
theorem ChAt.chn (h:ChAt W C B m cl v0 v1 buf S R) (ho:Own F C B v0 v1):Chn W F C m cl buf S R:=⟨B,v0,v1,h,ho.c,ho.b,ho.s,ho.r⟩
theorem Own.turn (h:Own F C B v0 v1) (W:World) (ho:v'.ownBlock=(if s then v0 else v1).ownBlock \/ ∃ g,v'.ownBlock=some g/\W.heap.size<=g):Own (Fw F W) C B (if s then v' else v0) (if s then v1 else v'):=by
 have hv:∀ g,v'.ownBlock=some g->Fw F W g:=fun g e=>by
  rcases ho with h1 | ⟨g',h1,h2⟩
  ·rw [h1] at e
   cases s
   ·exact .inl (h.r g e)
   ·exact .inl (h.s g e)
  ·rw [h1] at e;cases e;exact .inr h2
 cases s
 ·exact ⟨.inl h.c,.inl h.b,fun g e=>.inl (h.s g e),hv⟩
 ·exact ⟨.inl h.c,.inl h.b,hv,fun g e=>.inl (h.r g e)⟩
theorem Own.frm (h:Own F C B v0 v1) (hg:W.grownBy w3 (if s then v0 else v1).ownBlock) (v:Value) (k:Nat):Frm F W (w3.setCell ⟨C,k,none⟩ v):=
 (Frm.of_grown hg (fun g e=>by
  cases s
  ·exact h.r g e
  ·exact h.s g e)).next (Frm.set w3 v (.inl h.c))
end
theorem Frm.old {F:Nat->Prop} {w w1 w2:World} (h:Below w.heap.size w w1) (k:Frm F w1 w2):Frm F w w2:=
 ⟨k.os.trans h.os,k.tape.trans h.tape,k.output.trans h.output,Nat.le_trans h.size k.size,fun i hi hn=>(k.block i (Nat.lt_of_lt_of_le hi h.size) hn).trans (h.block i hi)⟩
theorem Frm.new3 {F:Nat->Prop} {w w2:World} {n:Nat} (h:Frm F w w2) (hn:w.heap.size<=n) (a b c:Value):Frm F w (((w2.setCell ⟨n,0,none⟩ a).setCell ⟨n,1,none⟩ b).setCell ⟨n,2,none⟩ c):=
 ((h.next (Frm.set w2 a (.inr hn))).next (Frm.set _ b (.inr hn))).next (Frm.set _ c (.inr hn))
section
variable {W:World} {n C B m:Nat} {cl:Bool} {v0 v1:Value} {buf:List Int} {S R:List Wt}
structure Low (n C B:Nat) (v0 v1:Value):Prop where
 c:C<n
 b:B<n
 s:∀ g,v0.ownBlock=some g->g<n
 r:∀ g,v1.ownBlock=some g->g<n
theorem ChAt.low (h:ChAt W C B m cl v0 v1 buf S R):Low W.heap.size C B v0 v1:=
 ⟨h.lt,h.ring.lt,fun g e=>by obtain ⟨cs,hc⟩:=own_at h.sends e;exact (Array.getElem?_eq_some_iff.1 hc).1,fun g e=>by obtain ⟨cs,hc⟩:=own_at h.recvs e;exact (Array.getElem?_eq_some_iff.1 hc).1⟩
theorem Low.w (h:Low n C B v0 v1) (s:Bool):∀ g,(if s then v0 else v1).ownBlock=some g->g<n:=by
 cases s
 ·exact h.r
 ·exact h.s
theorem Low.turn {v':Value} {s:Bool} (h:Low n C B v0 v1) (hv:∀ g,v'.ownBlock=some g->g<n):Low n C B (if s then v' else v0) (if s then v1 else v'):=by
 cases s
 ·exact ⟨h.c,h.b,h.s,hv⟩
 ·exact ⟨h.c,h.b,hv,h.r⟩
theorem ChAt.off (h:ChAt W C B m cl v0 v1 buf S R) (hl:Low n C B v0 v1) (k:Nat) (a:Value):ChAt (W.setCell ⟨n,k,none⟩ a) C B m cl v0 v1 buf S R:=by
 have gs:=grownBy_setCell W ⟨n,k,none⟩ a
 refine ⟨(Below.heap_setCell _ _ _ C (by have:=hl.c;simp;omega)).trans h.head,h.ring.kept gs (fun e=>by have:=hl.b;cases e;simp at this),h.sends.kept gs ?_,h.recvs.kept gs ?_,h.apart⟩
 ·cases e:v0.ownBlock with
  | none=>exact .inl rfl
  | some g=>exact .inr (fun e2=>by have:=hl.s g e;cases e2;simp at this)
 ·cases e:v1.ownBlock with
  | none=>exact .inl rfl
  | some g=>exact .inr (fun e2=>by have:=hl.r g e;cases e2;simp at this)
end
theorem take_any {F:Nat->Prop} {C m:Nat} {cl:Bool} {buf:List Int} {S R t:List Wt} {x:Wt} (s:Bool) (w:World) (h:Chn w F C m cl buf S R) (hxs:sel s S R=x::t) (hl:(sel s S R).length<=1000) :
  Calls Tryz.prog 174 #[.pointer (some ⟨C,0,none⟩),.bool s] w fun e w'=>e=.returned (.tuple #[x.val,.int .i64 0])/\Chn w' (Fw F w) C m cl buf (sel s t S) (sel s R t)/\Frm F w w':=by
 obtain ⟨B,v0,v1,h,ho⟩:=h.at
 obtain ⟨wa,hwa⟩:∃ wa,wa=w.alloc (.cells #[.int .i64 0,.int .i64 0,.int .i64 0] 145):=⟨_,rfl⟩
 have hba:Below w.heap.size w wa:=by rw [hwa];exact below1 w _
 have hra:WtAt wa w.heap.size .zero:=by rw [hwa];exact wtAt_new w .zero
 have ha:=h.below hba
 have hf:=first_any wa (ha.w s) (ha.row s) hl
 have hrow0:=ha.row s
 rw [show (if s=true then S else R)=x::t from hxs] at hf hrow0
 obtain ⟨v,hv⟩:∃ v,v=(if s then v0 else v1):=⟨_,rfl⟩
 go_enter Tryz.func174,Tryz.ntmps174
 go_wp2_with fail
 rw [<- hwa]
 clear hwa
 refine hf.mono ?_
 clear hf
 rintro e w1 ⟨rfl,hb1⟩
 rw [show headW (x::t)=x from rfl,show (x::t).head?.isSome=true from rfl]
 unfold Wt.val
 obtain ⟨w2,hw2⟩:∃ w2,w2=w1.alloc (.cells #[.int .i64 x.t,.int .i64 x.c,.int .i64 x.v] 145):=⟨_,rfl⟩
 have hb2:Below wa.heap.size wa w2:=by rw [hw2];exact Below.al hb1 hb1.size _
 have hx2:WtAt w2 w1.heap.size x:=by rw [hw2];exact wtAt_new w1 x
 have h2:=ha.below hb2
 have hr2:=hra.below hb2
 have hcell:=h2.w s
 have hfro:=h2.frozen (2+ix s)
 have hi0:(0:Int)<=(ix s:Int):=by omega
 have hi2:(ix s:Int)<2:=by have:=ix_lt s;omega
 rw [<- hv] at hcell
 go_wp2_with fail
 refine (rowOf_any s _).mono ?_
 rintro e w' ⟨rfl,rfl⟩
 rw [<- hw2]
 clear hw2
 have hlow:=h.low
 have hvl:=hlow.w s
 rw [<- hv] at hvl hrow0
 have hrow2:w2.drew.ownsRow 0 145 3 v (t.length+1) (flatW (x::t)):=(hrow0.kept (grown_below hb2) (by cases v.ownBlock <;> simp)).drew
 have hdel:=delete_first w2.drew hrow2
 have hw02:=below_nx hba hb2 (Nat.le_refl _)
 have hsz1:w.heap.size<w1.heap.size:=Nat.lt_of_lt_of_le hra.lt hb1.size
 have hsz2:=hw02.size
 have hd2:w2.heap.size=w2.drew.heap.size:=rfl
 have hx2d:WtAt w2.drew w1.heap.size x:=hx2
 have hr2d:WtAt w2.drew w.heap.size .zero:=hr2
 have hcd:w2.drew.cell? ⟨C,2+ix s,none⟩=some v:=hcell
 have hneC:v.ownBlock ≠ some C:=by rw [hv];exact h.ne_w s
 have hk3:∀ {w3:World},w2.drew.grownBy w3 v.ownBlock->w3.cell? ⟨C,2+ix s,none⟩=some v/\w3.frozen? ⟨C,2+ix s,none⟩=false:=fun {w3} hg=>
  ⟨hg.cell hcd (fun e=>hneC e.symm),(World.frozen?_of_block (hg.block C (Nat.lt_of_lt_of_le h.lt hsz2) (fun e=>hneC e.symm))).trans hfro⟩
 have H3:∀ {w3:World} {v':Value},v'.ownBlock=v.ownBlock->w3.ownsRow 0 145 3 v' t.length (flatW t)->w2.drew.grownBy w3 v.ownBlock->
   WtAt (w3.setCell ⟨C,2+ix s,none⟩ v') w1.heap.size x/\WtAt (w3.setCell ⟨C,2+ix s,none⟩ v') w.heap.size .zero/\ChAt (w3.setCell ⟨C,2+ix s,none⟩ v') C B m cl (if s then v' else v0) (if s then v1 else v') buf (if s then t else S) (if s then R else t)/\Frm F w (w3.setCell ⟨C,2+ix s,none⟩ v'):=by
  intro w3 v' hov hr hg
  have hg':w2.drew.grownBy w3 (if s then v0 else v1).ownBlock:=by rw [<- hv];exact hg
  have ht:=h2.drew.turn (s:=s) (.inl (by rw [hov,hv])) hr hg'
  have hF:=Frm.old (F:=F) hw02.drew (ho.frm hg' v' (2+ix s))
  have hnb:∀ n,w.heap.size<=n->some n ≠ v.ownBlock:=fun n hn e=>by have:=hvl n e.symm;omega
  have k1:WtAt w3 w1.heap.size x:=hx2d.of_block (hg.block _ hx2d.lt (hnb _ (by omega)))
  have k2:WtAt w3 w.heap.size .zero:=hr2d.of_block (hg.block _ hr2d.lt (hnb _ (Nat.le_refl _)))
  have hC:=h.lt
  exact ⟨k1.of_block (Below.heap_setCell _ _ _ _ (by simp;omega)),k2.of_block (Below.heap_setCell _ _ _ _ (by simp;omega)),ht,hF⟩
 have HV:=Lib.hid hv
 clear ha hra hrow0 hba hb1 hb2 hx2 hr2 h2 hrow2 hv
 go_wp2_with fail
 go_region_with (go_at_call 182;with_reducible refine hdel.mono ?_;rintro e w3 ⟨v',rfl,hov,hr3,hg3⟩;obtain ⟨a3,c3,rfl⟩:=owns_slice' hr3;obtain ⟨hc3,hf3⟩:=hk3 hg3)
 all_goals obtain ⟨k1,k2,h4,hF4⟩:=H3 hov hr3 hg3
 all_goals obtain ⟨w4,hw4⟩:∃ w4,w4=w3.setCell ⟨C,2+ix s,none⟩ (.slice a3 t.length c3):=⟨_,rfl⟩
 all_goals rw [<- hw4] at k1 k2 h4 hF4 ⊢
 all_goals clear hw4
 all_goals have x0:=k1.c0
 all_goals have x1:=k1.c1
 all_goals have x2:=k1.c2
 all_goals have y0:=k2.c0
 all_goals have y1:=k2.c1
 all_goals have y2:=k2.c2
 all_goals have z0:=k2.frozen 0
 all_goals have z1:=k2.frozen 1
 all_goals have z2:=k2.frozen 2
 all_goals go_wp2_with fail
 all_goals have k5:=k2.set x
 all_goals have e0:=k5.c0
 all_goals have e1:=k5.c1
 all_goals have e2:=k5.c2
 all_goals refine bodyPost_ret (v:=.tuple #[x.val,.int .i64 0]) (by simp [results,Wt.val,Tryz.f174,go_sem,e0,e1,e2]) rfl ?_
 all_goals have hlw:=hlow.turn (v':=.slice a3 t.length c3) (s:=s) (fun g e=>hvl g (hov.symm.trans e))
 all_goals exact ⟨rfl,(((h4.off hlw 0 _).off hlw 1 _).off hlw 2 _).chn (Own.turn ho w (.inl (by rw [hov,HV.out]))),hF4.new3 (Nat.le_refl _) _ _ _⟩
end Go.Proofs.YtnfbncgfpmcpnaaGreat.Mch
