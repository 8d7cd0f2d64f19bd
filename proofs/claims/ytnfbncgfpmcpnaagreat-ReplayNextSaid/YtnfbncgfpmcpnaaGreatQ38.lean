/-
  ReplayNext: its walks, part 38.
-/
import Derived.Deep.RegionHeld
import Derived.OrdersIn
import Derived.Laws.OwnMore
import Derived.Test.YtnfbncgfpmcpnaaGreatQ37
set_option maxRecDepth 100000
set_option maxHeartbeats 12800000
namespace Go.Proofs.YtnfbncgfpmcpnaaGreat.Mdl
open Go.RowKit Go.Shelf
open Ent (En EnRow okB)
open Mch (Frm below1 below_nx)
attribute [local go_sem] Oper.semAt_some
structure BadAt (w0:World) (R T1 T2:Nat) (sv:Value) (X:World):Prop where
 bel:Below w0.heap.size w0 X
 rn:Nil2 X R
 b1:Blk X T1 51 #[sv]
 b2:Blk X T2 102 #[ptrV R]
theorem BadAt.below {w0 X Y:World} {R T1 T2:Nat} {sv:Value} (h:BadAt w0 R T1 T2 sv X) (hb:Below X.heap.size X Y):BadAt w0 R T1 T2 sv Y:=
 ⟨below_nx h.bel hb (Nat.le_refl _),Blk.on h.rn hb,h.b1.on hb,h.b2.on hb⟩
theorem BadAt.putObj {w0 X:World} {R T1 T2:Nat} {sv:Value} (h:BadAt w0 R T1 T2 sv X) {l:Nat} {ob oc:Obj} (hw:w0.heap.size<=l) (hl:X.heap[l]?=some oc) (hc:oc.isCells=false):BadAt w0 R T1 T2 sv (X.putObj l ob):=
 ⟨frm_low h.bel (frm_obj X l ob) (fun k hk=>by rw [hk];exact hw),putobj_blk h.rn hl hc,putobj_blk h.b1 hl hc,putobj_blk h.b2 hl hc⟩
theorem through1_bad {R T1 T2:Nat} {w0 w:World} {l:List En} {sv:Value} (h:BadAt w0 R T1 T2 sv w) (hl:EnRow w0 sv l) (hn:l.length<=100000) :
  SeqT Fence.wide 3 Tryz.prog 110 #[.pointer (some ⟨T1,0,none⟩),.pointer (some ⟨T2,0,none⟩)] (fun x:En=>#[enV x]) R (fun _ _ _ _=>False) (fun _ _ X=>BadAt w0 R T1 T2 sv X) (fun _=>0) w:=by
 intro L J W hW hJT hY h0
 obtain ⟨a,c,rfl⟩:=hl.slice
 have hT:=h.below hW
 have c1:W.cell? ⟨T1,0,none⟩=some (.slice a l.length c):=hT.b1.cell rfl
 obtain ⟨n,hnn⟩:∃ n,n=l.length:=⟨_,rfl⟩
 have HN:=Lib.hid hnn
 rw [<- hnn] at hl hn c1 hT
 show CallsIn Fence.wide 3 Tryz.prog 110 _ W fun e Y=>(∃ v,e=.returned v)/\∃ s o',BadAt w0 R T1 T2 (.slice a l.length c) Y/\J s o' Y
 rw [<- hnn]
 clear h hnn
 refine callsIn_of_wp Tryz.func110 rfl trivial ?_ rfl
 simp only [Tryz.ntmps110,List.size_toArray,List.length_cons,List.length_nil,Nat.reduceAdd,Nat.reduceSub,Array.replicate_succ,Array.replicate_zero,List.push_toArray,List.append_toArray,List.nil_append,List.cons_append]
 gi_wp2
 clear c1
 gi_loopw [8] (fun iv wr=>iv=.int .i64 0/\J [] (fun _=>0) wr/\BadAt w0 R T1 T2 (.slice a n c) wr) (fun iv _=>n - (intOf iv).toNat)
 case atStart=>exact ⟨rfl,h0,hT⟩
 case round=>
  clear h0 hT
  obtain ⟨rfl,hJ,hH⟩:=hrel
  by_cases hlt:0<n
  ·have hlt':(0:Int)<(n:Int):=by omega
   obtain ⟨x,hx⟩:∃ x,l[0]?=some x:=⟨_,List.getElem?_eq_getElem (by rw [<- HN.out];exact hlt)⟩
   obtain ⟨b,off,rfl,-, x0,x1,x2,x3,x4,x5,x6,x7,x8,x9,x10,x11,x12⟩:=(hl.below hH.bel).at hx
   simp only [Nat.zero_mul,Nat.add_zero] at x0 x1 x2 x3 x4 x5 x6 x7 x8 x9 x10 x11 x12
   obtain ⟨w1,hw1⟩:∃ w1,w1=wr.alloc (.cells (enA x) 39):=⟨_,rfl⟩
   have hb1:Below wr.heap.size wr w1:=by rw [hw1];exact below1 wr _
   have hH1:=hH.below hb1
   have hJ1:=hJT _ _ _ _ _ hJ (Trn.of_below (R:=R) (o:=fun _=>0) hb1)
   have t2:wr.cell? ⟨T2,0,none⟩=some (ptrV R):=hH.b2.cell rfl
   have t2a:(wr.alloc (.cells #[.int .i64 x.a,.int .u8 (x.k:Int),.int .i64 x.w,.int .i64 x.t,.int .i64 x.p,.int .i64 x.c,.int .i64 x.b,.int .i64 x.q,.int .i64 x.v,.int .i64 x.u,.bool x.o,.int .i64 x.e,.int .u64 (x.s:Int)] 39)).cell? ⟨T2,0,none⟩=some (ptrV R):=by rw [<- show w1=(wr.alloc (.cells #[.int .i64 x.a,.int .u8 (x.k:Int),.int .i64 x.w,.int .i64 x.t,.int .i64 x.p,.int .i64 x.c,.int .i64 x.b,.int .i64 x.q,.int .i64 x.v,.int .i64 x.u,.bool x.o,.int .i64 x.e,.int .u64 (x.s:Int)] 39)) from hw1];exact hH1.b2.cell rfl
   have r3a:(wr.alloc (.cells #[.int .i64 x.a,.int .u8 (x.k:Int),.int .i64 x.w,.int .i64 x.t,.int .i64 x.p,.int .i64 x.c,.int .i64 x.b,.int .i64 x.q,.int .i64 x.v,.int .i64 x.u,.bool x.o,.int .i64 x.e,.int .u64 (x.s:Int)] 39)).cell? ⟨R,3,none⟩=some (.int .i64 2):=by rw [<- show w1=(wr.alloc (.cells #[.int .i64 x.a,.int .u8 (x.k:Int),.int .i64 x.w,.int .i64 x.t,.int .i64 x.p,.int .i64 x.c,.int .i64 x.b,.int .i64 x.q,.int .i64 x.v,.int .i64 x.u,.bool x.o,.int .i64 x.e,.int .u64 (x.s:Int)] 39)) from hw1];exact Blk.cell hH1.rn rfl
   clear hx hlt hJ hH hb1
   gi_wp2
   refine ⟨fun _ h=>(by cases h),?_⟩
   gi_wp2
   rw [<- hw1]
   refine bodyPost_ret (results_none rfl _ _ _) rfl ?_
   exact ⟨⟨_,rfl⟩,[],_,hH1,hJ1⟩
  ·obtain rfl:n=0:=by omega
   gi_wp2
   go_end0
   exact ⟨⟨_,rfl⟩,[],_,hH,hJ⟩
section
variable {lo hi:Nat} {v1 v2 v3:Value} {p:Prg} {sv:Value} {l:List En}
theorem gone_bad (most:Int) (w:World) (h:PrgAt lo hi w v1 v2 v3 p) (hs:Small p) (hc : ¬ (checkW p=none/\1<=most/\most<=32)) (hl:EnRow w sv l) (hn:l.length<=100000) :
  Calls Tryz.prog 40 #[.agg #[v1,v2,v3],.int .i64 most,sv] w fun e w'=>∃ R,e=.returned (ptrV R)/\Nil2 w' R/\Below w.heap.size w w':=by
 obtain ⟨a,c,rfl⟩:=hl.slice
 obtain ⟨w1,hw1⟩:∃ w1,w1=w.alloc (.cells #[v1,v2,v3] 26):=⟨_,rfl⟩
 have hB1:Below w.heap.size w w1:=by rw [hw1];exact below1 w _
 have hX1:Blk w1 w.heap.size 26 #[v1,v2,v3]:=by rw [hw1];exact blk_new w _ _
 have hbg:=begun_bad most w1 (h.later hB1) hs hc
 have x0:w1.cell? ⟨w.heap.size,0,none⟩=some v1:=hX1.cell rfl
 have x1:w1.cell? ⟨w.heap.size,1,none⟩=some v2:=hX1.cell rfl
 have x2:w1.cell? ⟨w.heap.size,2,none⟩=some v3:=hX1.cell rfl
 clear h hX1 hs hc
 refine (callsIn_wide (n:=4)).1 ?_
 refine callsIn_of_wp_marks Tryz.func40 rfl trivial ?_ rfl
 simp only [Tryz.ntmps40,List.size_toArray,List.length_cons,List.length_nil,Nat.reduceAdd,Nat.reduceSub,Array.replicate_succ,Array.replicate_zero,List.push_toArray,List.append_toArray,List.nil_append,List.cons_append]
 refine wpIn_wide.2 ?_
 go_upto_region 1 with fail
 rw [<- hw1]
 clear hw1
 go_wp2_with fail
 refine hbg.mono ?_
 clear hbg x0 x1 x2
 rintro e w2 ⟨R,rfl,hN2,hR2,hb2⟩
 have hB2:=below_nx hB1 hb2 (Nat.le_refl _)
 have hth:=through_any R a l.length c w2
 obtain ⟨w3,hw3⟩:∃ w3,w3=(w2.alloc (.cells #[ptrV R] 102)).alloc (.cells #[.slice a l.length c] 51):=⟨_,rfl⟩
 have hb3:Below w2.heap.size w2 w3:=by rw [hw3];exact below2 w2 _ _
 have hT3:BadAt w R (w2.heap.size+1) w2.heap.size (.slice a l.length c) w3:=
  ⟨below_nx hB2 hb3 (Nat.le_refl _),Blk.on hN2 hb3,by rw [hw3];exact blk_at (by simp),by rw [hw3];exact (blk_new w2 _ _).alloc _⟩
 have hs2:=hB2.size
 have hb3s:=hb3.size
 rw [<- hw3] at hth
 clear hN2 hb2
 go_wp2_with fail
 refine hth.mono ?_
 clear hth hw3
 rintro e w3 ⟨rfl,rfl⟩
 go_wp2_with fail
 refine (wpIn_wide (n:=4)).1 ?_
 refine range_turn rfl (by omega) (gf:=110) (lb:=#[.pointer (some ⟨w2.heap.size+1,0,none⟩),.pointer (some ⟨w2.heap.size,0,none⟩)]) rfl trivial (enters_of Tryz.func110 (by kernel_rfl) rfl)
  (through1_bad hT3 hl hn) (Blk.lt hT3.rn) (fun k hk=>absurd rfl hk) (fun _=>rfl) (fun _ _ _=>True) (fun _ _ _ _ _ _ _=>trivial) (fun _ _ _ _ _ _ _ _=>trivial) (fun _ _ _ _ _ _ _ h=>h.elim) ?FO trivial (fun _ _ _=>True) (fun _ _ _ _ _ _ _ _ _=>trivial) (fun _ _ _ _ _ _ _ _ h=>h.elim) (fun _ _ _ _ _ _ _ _ h=>h.elim) ?done
 case FO=>
  rintro s o1 X l1 ob oc hT hw ho hl1 hc1
  exact hT.putObj (by omega) hl1 hc1
 case done=>
  rintro D s o1 W hD ho hT - hK
  clear hT3 hn
  go_wp2_with fail
  refine ⟨by simp,.inl ⟨_,_,rfl,run_takeDeferred hK,?_⟩⟩
  have hT4:BadAt w R (w2.heap.size+1) w2.heap.size (.slice a l.length c) (W.putObj D (.deferred none)):=hT.putObj (by omega) hK rfl
  refine ⟨ptrV R,?_,R,rfl,hT4.rn,hT4.bel⟩
  simp [results,Tryz.f40,go_sem]
end
open Go.RowKit Go.Shelf
open Ent (En EnRow okB)
open Mch (Frm below1 below_nx)
section
variable {lo hi:Nat} {v1 v2 v3:Value} {p:Prg} {sv:Value} {l:List En}
theorem rcheck_ok (most:Nat) (w:World) (h:PrgAt lo hi w v1 v2 v3 p) (hs:Small p) (hc:checkW p=none) (hm1:1<=most) (hm2:most<=32) (hl:EnRow w sv l) (hn:l.length<=100000) (hok:∀ x ∈ l,x.ok) :
  Calls Tryz.prog 16 #[.agg #[v1,v2,v3],.int .i64 (most:Int),sv] w fun e w'=>e=.returned (.tuple #[.int .i64 (((rn0 (newM p most)).go l).d:Int),.int .i64 ((rn0 (newM p most)).go l).e])/\Below w.heap.size w w':=by
 obtain ⟨a,c,rfl⟩:=hl.slice
 obtain ⟨w1,hw1⟩:∃ w1,w1=w.alloc (.cells #[v1,v2,v3] 26):=⟨_,rfl⟩
 have hB1:Below w.heap.size w w1:=by rw [hw1];exact below1 w _
 have hX1:Blk w1 w.heap.size 26 #[v1,v2,v3]:=by rw [hw1];exact blk_new w _ _
 have hgo:=gone_ok most w1 (h.later hB1) hs hc hm1 hm2 (hl.below hB1) hn hok
 unfold GonePost at hgo
 obtain ⟨r,hr⟩:∃ r,r=(rn0 (newM p most)).go l:=⟨_,rfl⟩
 rw [<- hr] at hgo ⊢
 clear hr
 have x0:w1.cell? ⟨w.heap.size,0,none⟩=some v1:=hX1.cell rfl
 have x1:w1.cell? ⟨w.heap.size,1,none⟩=some v2:=hX1.cell rfl
 have x2:w1.cell? ⟨w.heap.size,2,none⟩=some v3:=hX1.cell rfl
 clear h hX1 hs hc hm1 hm2
 go_enter Tryz.func16,Tryz.ntmps16
 go_upto_region 1 with fail
 rw [<- hw1]
 clear hw1
 go_wp2_with fail
 refine hgo.mono ?_
 clear hgo x0 x1 x2
 rintro e w2 ⟨R,A,o,rfl,hR2⟩
 have hB2:=below_nx hB1 hR2.run.bel (Nat.le_refl _)
 have c1:w2.cell? ⟨R,1,none⟩=some (.int .i64 (r.d:Int)):=hR2.blk.cell rfl
 have c3:w2.cell? ⟨R,3,none⟩=some (.int .i64 r.e):=hR2.blk.cell rfl
 have c1d:w2.drew.cell? ⟨R,1,none⟩=some (.int .i64 (r.d:Int)):=c1
 have c3d:w2.drew.cell? ⟨R,3,none⟩=some (.int .i64 r.e):=c3
 clear hR2 hB1
 go_wp2_with fail
 go_quiet (fail)
 go_wp2_with fail
 go_ret2
 exact ⟨rfl,Mch.below_drewN hB2 _⟩
def RunPost (w:World) (r:Rn) (e:Ending) (w':World):Prop:=
 Below w.heap.size w w'/\((r.e ≠ 0/\e=.returned (.tuple #[.pointer none,.int .i64 r.e])) \/ (r.e=0/\∃ A o,e=.returned (.tuple #[ptrV A,.int .i64 0])/\Runs w o A r.M w'))
theorem rrun_ok (most:Nat) (w:World) (h:PrgAt lo hi w v1 v2 v3 p) (hs:Small p) (hc:checkW p=none) (hm1:1<=most) (hm2:most<=32) (hl:EnRow w sv l) (hn:l.length<=100000) (hok:∀ x ∈ l,x.ok) :
  Calls Tryz.prog 14 #[.agg #[v1,v2,v3],.int .i64 (most:Int),sv] w (RunPost w ((rn0 (newM p most)).go l)):=by
 obtain ⟨a,c,rfl⟩:=hl.slice
 obtain ⟨w1,hw1⟩:∃ w1,w1=w.alloc (.cells #[v1,v2,v3] 26):=⟨_,rfl⟩
 have hB1:Below w.heap.size w w1:=by rw [hw1];exact below1 w _
 have hX1:Blk w1 w.heap.size 26 #[v1,v2,v3]:=by rw [hw1];exact blk_new w _ _
 have hgo:=gone_ok most w1 (h.later hB1) hs hc hm1 hm2 (hl.below hB1) hn hok
 unfold GonePost at hgo
 obtain ⟨r,hr⟩:∃ r,r=(rn0 (newM p most)).go l:=⟨_,rfl⟩
 rw [<- hr] at hgo ⊢
 clear hr
 have x0:w1.cell? ⟨w.heap.size,0,none⟩=some v1:=hX1.cell rfl
 have x1:w1.cell? ⟨w.heap.size,1,none⟩=some v2:=hX1.cell rfl
 have x2:w1.cell? ⟨w.heap.size,2,none⟩=some v3:=hX1.cell rfl
 clear h hX1 hs hc hm1 hm2
 go_enter Tryz.func14,Tryz.ntmps14
 go_upto_region 1 with fail
 rw [<- hw1]
 clear hw1
 go_wp2_with fail
 refine hgo.mono ?_
 clear hgo x0 x1 x2
 rintro e w2 ⟨R,A,o,rfl,hR2'⟩
 have hR2:=hR2'.rebase hB1
 have hB2:=hR2.run.bel
 have c0:w2.cell? ⟨R,0,none⟩=some (ptrV A):=hR2.blk.cell rfl
 have c3:w2.cell? ⟨R,3,none⟩=some (.int .i64 r.e):=hR2.blk.cell rfl
 clear hR2' hB1
 by_cases h0:r.e=0
 ·have H0:=Lib.hid h0
  rw [h0] at c3
  have hRn:=hR2.run
  clear hR2 h0
  go_wp2_with fail
  go_ret2
  exact ⟨hB2,.inr ⟨H0.out,A,o,rfl,hRn⟩⟩
 ·obtain ⟨g,hg⟩:∃ g,g=r.e:=⟨_,rfl⟩
  rw [<- hg] at c3 h0
  have d1:(g != 0)=true:=by simpa using h0
  have HG:=Lib.hid hg
  have H0:=Lib.hid h0
  have c3d:w2.drew.cell? ⟨R,3,none⟩=some (.int .i64 g):=c3
  clear hR2 h0 hg
  go_wp2_with fail
  go_quiet (fail)
  go_wp2_with fail
  go_ret2
  exact ⟨Mch.below_drewN hB2 _,.inl ⟨by rw [<- HG.out];exact H0.out,by rw [<- HG.out];rfl⟩⟩
theorem rcheck_bad (most:Int) (w:World) (h:PrgAt lo hi w v1 v2 v3 p) (hs:Small p) (hc : ¬ (checkW p=none/\1<=most/\most<=32)) (hl:EnRow w sv l) (hn:l.length<=100000) :
  Calls Tryz.prog 16 #[.agg #[v1,v2,v3],.int .i64 most,sv] w fun e w'=>e=.returned (.tuple #[.int .i64 0,.int .i64 2])/\Below w.heap.size w w':=by
 obtain ⟨a,c,rfl⟩:=hl.slice
 obtain ⟨w1,hw1⟩:∃ w1,w1=w.alloc (.cells #[v1,v2,v3] 26):=⟨_,rfl⟩
 have hB1:Below w.heap.size w w1:=by rw [hw1];exact below1 w _
 have hX1:Blk w1 w.heap.size 26 #[v1,v2,v3]:=by rw [hw1];exact blk_new w _ _
 have hgo:=gone_bad most w1 (h.later hB1) hs hc (hl.below hB1) hn
 have x0:w1.cell? ⟨w.heap.size,0,none⟩=some v1:=hX1.cell rfl
 have x1:w1.cell? ⟨w.heap.size,1,none⟩=some v2:=hX1.cell rfl
 have x2:w1.cell? ⟨w.heap.size,2,none⟩=some v3:=hX1.cell rfl
 clear h hX1 hs hc
 go_enter Tryz.func16,Tryz.ntmps16
 go_upto_region 1 with fail
 rw [<- hw1]
 clear hw1
 go_wp2_with fail
 refine hgo.mono ?_
 clear hgo x0 x1 x2
 rintro e w2 ⟨R,rfl,hN2,hb2⟩
 have hB2:=below_nx hB1 hb2 (Nat.le_refl _)
 have c1:w2.cell? ⟨R,1,none⟩=some (.int .i64 0):=Blk.cell hN2 rfl
 have c3:w2.cell? ⟨R,3,none⟩=some (.int .i64 2):=Blk.cell hN2 rfl
 have c1d:w2.drew.cell? ⟨R,1,none⟩=some (.int .i64 0):=c1
 have c3d:w2.drew.cell? ⟨R,3,none⟩=some (.int .i64 2):=c3
 clear hN2 hB1 hb2
 go_wp2_with fail
 go_quiet (fail)
 go_wp2_with fail
 go_ret2
 exact ⟨rfl,Mch.below_drewN hB2 _⟩
theorem rrun_bad (most:Int) (w:World) (h:PrgAt lo hi w v1 v2 v3 p) (hs:Small p) (hc : ¬ (checkW p=none/\1<=most/\most<=32)) (hl:EnRow w sv l) (hn:l.length<=100000) :
  Calls Tryz.prog 14 #[.agg #[v1,v2,v3],.int .i64 most,sv] w fun e w'=>e=.returned (.tuple #[.pointer none,.int .i64 2])/\Below w.heap.size w w':=by
 obtain ⟨a,c,rfl⟩:=hl.slice
 obtain ⟨w1,hw1⟩:∃ w1,w1=w.alloc (.cells #[v1,v2,v3] 26):=⟨_,rfl⟩
 have hB1:Below w.heap.size w w1:=by rw [hw1];exact below1 w _
 have hX1:Blk w1 w.heap.size 26 #[v1,v2,v3]:=by rw [hw1];exact blk_new w _ _
 have hgo:=gone_bad most w1 (h.later hB1) hs hc (hl.below hB1) hn
 have x0:w1.cell? ⟨w.heap.size,0,none⟩=some v1:=hX1.cell rfl
 have x1:w1.cell? ⟨w.heap.size,1,none⟩=some v2:=hX1.cell rfl
 have x2:w1.cell? ⟨w.heap.size,2,none⟩=some v3:=hX1.cell rfl
 clear h hX1 hs hc
 go_enter Tryz.func14,Tryz.ntmps14
 go_upto_region 1 with fail
 rw [<- hw1]
 clear hw1
 go_wp2_with fail
 refine hgo.mono ?_
 clear hgo x0 x1 x2
 rintro e w2 ⟨R,rfl,hN2,hb2⟩
 have hB2:=below_nx hB1 hb2 (Nat.le_refl _)
 have c3:w2.cell? ⟨R,3,none⟩=some (.int .i64 2):=Blk.cell hN2 rfl
 have c3d:w2.drew.cell? ⟨R,3,none⟩=some (.int .i64 2):=c3
 clear hN2 hB1 hb2
 go_wp2_with fail
 go_quiet (fail)
 go_wp2_with fail
 go_ret2
 exact ⟨rfl,Mch.below_drewN hB2 _⟩
end
open Go.RowKit Go.Shelf
open Ent (En EnRow okB)
open Mch (Frm below1 below_nx)
def oneP:Prg:=⟨[],[[⟨10,0,0,0,0⟩]],[]⟩
theorem one_chk:checkW oneP=none:=by decide
theorem one_small:Small oneP:=⟨by decide,by decide,by decide,by decide,by decide⟩
theorem one_fit:Fit oneP:=by
 refine ⟨?_,?_,?_⟩
 ·intro x hx;simp [oneP] at hx
 ·intro c hc x hx
  simp only [oneP,List.mem_singleton] at hc
  subst hc
  rw [List.mem_singleton] at hx
  subst hx
  exact ins_fit (by decide) (by decide) (by decide) (by decide) (by decide)
 ·intro s hs;simp [oneP] at hs
theorem one_at {W:World} {b r1 r2:Nat} (h1:Blk W r1 95 #[.int .u8 10,.int .i64 0,.int .i64 0,.int .i64 0,.int .i64 0]) (h2:Blk W r2 96 #[.slice (some ⟨r1,0,none⟩) 1 1]) (b1:b<=r1) (b2:b<=r2) :
  PrgAt b W.heap.size W (.slice none 0 0) (.slice (some ⟨r2,0,none⟩) 1 1) (.slice none 0 0) oneP:=by
 refine OwnPrg.at ?_ one_fit
 refine ⟨World.ownsRow_nil _ _ _ _,⟨_,owns_row h2 rfl (by decide) (by decide) b2,?_⟩,⟨[],World.ownsRow_nil _ _ _ _,fun k x hx=>by simp [oneP] at hx⟩⟩
 intro k u x hu hx
 have hk:k<1:=by have:=(List.getElem?_eq_some_iff.1 hx).1;simpa [oneP] using this
 obtain rfl:k=0:=by omega
 simp only [List.getElem?_cons_zero,Option.some.injEq,oneP] at hu hx
 subst hu hx
 exact owns_row h1 rfl (by decide) (by decide) b1
def eE:En:=⟨0,10,0,0,0,0,0,0,0,0,false,0,0⟩
def eB:En:=⟨0,8,0,0,0,0,0,0,0,0,false,0,0⟩
def eP:En:=⟨0,25,0,0,0,0,0,0,0,0,false,0,0⟩
theorem zz_ok {k:Nat} (hk:k<256):(⟨0,k,0,0,0,0,0,0,0,0,false,0,0⟩:En).ok:=⟨Ent.i64_zero,hk,Ent.i64_zero,Ent.i64_zero,Ent.i64_zero,Ent.i64_zero,Ent.i64_zero,Ent.i64_zero,Ent.i64_zero,Ent.i64_zero,Ent.i64_zero,show (0:Nat)<18446744073709551616 by decide⟩
theorem eE_ok:eE.ok:=zz_ok (by decide)
theorem eB_ok:eB.ok:=zz_ok (by decide)
theorem eP_ok:eP.ok:=zz_ok (by decide)
def one0:Rn:=rn0 (newM oneP 1)
theorem one_ad:(one0.go [eE]).d=1:=by kernel_rfl
theorem one_ae:(one0.go [eE]).e=0:=by kernel_rfl
theorem one_bd:(one0.go [eE,eE]).d=1:=by kernel_rfl
theorem one_be:(one0.go [eE,eE]).e=171:=by kernel_rfl
theorem one_cd:(one0.go [eB]).d=0:=by kernel_rfl
theorem one_ce:(one0.go [eB]).e=171:=by kernel_rfl
theorem one_pe:(one0.go [eP]).e=0:=by kernel_rfl
theorem one_sE:one0.sees eE:=⟨rfl,by kernel_rfl⟩
theorem one_sP:one0.sees eP:=⟨rfl,by kernel_rfl⟩
theorem one_T:(one0.go [eE]).M.T.map (·.s) = [3]:=by kernel_rfl
theorem one_Me:(one0.go [eE]).M.e=0:=by kernel_rfl
theorem one_st:one0.M.T.length=1:=by kernel_rfl
theorem one_tk:(one0.M.task 0).isSome=true:=by kernel_rfl
theorem one_inv:Inv one0.M:=inv_new one_chk one_small one_fit (by decide) (by decide)
theorem one_all:∀ x ∈ (one0.go [eE]).M.T,x.s=3:=fun x hx=>by
 have h1:x.s ∈ (one0.go [eE]).M.T.map (·.s):=List.mem_map.2 ⟨x,hx,rfl⟩
 rw [one_T] at h1
 exact List.mem_singleton.1 h1
theorem one_len:(one0.go [eE]).M.T.length=1:=by
 have:=congrArg List.length one_T
 simpa using this
theorem stood_end (w:World):Calls Tryz.prog 80 #[.agg #[.int .i64 0,.int .u8 10,.int .i64 0,.int .i64 0,.int .i64 0,.int .i64 0,.int .i64 0,.int .i64 0,.int .i64 0,.int .i64 0,.bool false,.int .i64 0,.int .u64 0]] w fun e w'=>e=.returned (.bool true)/\Below w.heap.size w w':=by
 obtain ⟨w1,hw1⟩:∃ w1,w1=w.alloc (.cells (enA eE) 39):=⟨_,rfl⟩
 have hB1:Below w.heap.size w w1:=by rw [hw1];exact below1 w _
 have hX1:Blk w1 w.heap.size 39 (enA eE):=by rw [hw1];exact blk_new w _ _
 have y1:w1.cell? ⟨w.heap.size,1,none⟩=some (.int .u8 10):=hX1.cell rfl
 have hw1':w1=w.alloc (.cells #[.int .i64 0,.int .u8 10,.int .i64 0,.int .i64 0,.int .i64 0,.int .i64 0,.int .i64 0,.int .i64 0,.int .i64 0,.int .i64 0,.bool false,.int .i64 0,.int .u64 0] 39):=hw1
 have hcm:=commitE_any 10 w1 (by decide)
 have hcm':Calls Tryz.prog 32 #[.int .u8 10] w1 fun e w'=>e=.returned (.bool true)/\w'=w1:=hcm
 clear hw1 hX1 hcm
 go_enter Tryz.func80,Tryz.ntmps80
 go_upto_region 1 with fail
 rw [<- hw1']
 clear hw1'
 go_wp2_with fail
 refine hcm'.mono ?_
 rintro e w1 ⟨rfl,rfl⟩
 go_wp2_with fail
 go_ret
 exact ⟨rfl,hB1⟩
open Go.RowKit Go.Shelf
theorem op_round {P:Program} {l n:Nat} {o:Oper} {a:Act} {w:World} {K K':Act->World->Prop} {Q:Exit->Act->World->Prop} (hd:∀ c,o.op ≠ .defer c) (hK:∀ a w,K a w->K' a w)
  (h:o.wp P a w K Q):o.wpIn (Fence.wide.inRound l) n P a w K' Q:=by
 unfold Oper.wp at h
 unfold Oper.wpIn
 refine ⟨fun f _=>trivial,?_⟩
 rw [Oper.semAt_eq _ _ _ hd]
 generalize (execOp a.eval o).run P w=r at h
 cases r with
 | ok x w'=>
  cases x with
  | value v=>exact hK _ _ h
  | skip=>exact hK _ _ h
  | defer d=>exact hK _ _ h
  | enter f args=>
   refine ⟨fun e=>by simp [Fence.wide] at e,?_⟩
   refine (CallsIn.inRound l (callsIn_wide.2 h)).mono fun e w'' he=>?_
   cases e with
   | returned v=>exact hK _ _ he
   | panicked c=>exact he
   | outgrown=>exact he
  | row row args=>exact ⟨fun e=>by simp [Fence.wide] at e,fun c cs _=>by
    obtain ⟨v,w2,hv,hs⟩:=h c cs
    exact ⟨v,w2,hK _ _ hv,stepsIn_wide.2 hs⟩⟩
  | round l' f tmps assign body=>exact h.elim
  | _=>exact h.elim
 | halt x w'=>
  cases x with
  | panic v=>exact h
  | _=>exact h.elim
theorem any_round {P:Program} {l n:Nat} {md:Region.Mode} {ops:Array Oper} {Q:Exit->Act->World->Prop} (hd:∀ (i:Nat) o,ops[i]?=some o->∀ c,o.op ≠ .defer c) (hL : ¬ LetsOut Q) :
  ∀ (fuel:Nat) (listed:Array Bool) (a:Act) (w:World),wpAny P md ops Q fuel listed a w->wpAnyIn (Fence.wide.inRound l) n P md ops Q fuel listed a w
 | 0,_,_,_,h=>h
 | fuel+1,listed,a,w,h=>by
  refine ⟨h.1,fun i hi=>?_⟩
  have h1:=h.2 i hi
  unfold wpOp at h1
  unfold wpOpIn
  cases ho:ops[i]? with
  | none=>
   rw [ho] at h1
   exact any_round hd hL fuel _ a w h1
  | some o=>
   rw [ho] at h1
   simp only at h1 ⊢
   split
   ·rename_i hw
    rw [if_pos hw] at h1
    rcases h1 with h1 | h1
    ·exact op_round (hd i o ho) (fun a' w' hk=>any_round hd hL fuel _ a' w' hk) h1
    ·exact absurd h1.2 hL
   ·rename_i hw
    rw [if_neg hw] at h1
    exact ⟨fun f _=>trivial,any_round hd hL fuel _ _ w h1⟩
def noDefer (ops:Array Oper):Bool:=ops.all fun o=>match o.op with | .defer _=>false | _=>true
theorem noDefer_spec {ops:Array Oper} (h:noDefer ops=true):∀ (i:Nat) o,ops[i]?=some o->∀ c,o.op ≠ .defer c:=by
 intro i o ho c hc
 unfold noDefer at h
 obtain ⟨hi,rfl⟩:=Array.getElem?_eq_some_iff.1 ho
 have:=(Array.all_eq_true.1 h) i hi
 rw [hc] at this
 cases this
theorem region_round {P:Program} {l n id:Nat} {ops:Array Oper} {Q:Exit->Act->World->Prop} {S:World->Prop} {a:Act} {w:World} (hm:P.follows .mixedOrders=true) (hd:noDefer ops=true) (hL : ¬ LetsOut Q) (hS:S w.drew)
  (h:S w.drew->wpAnyH P .any ops Q S ops.size (Array.replicate ops.size false) a w.drew):(Code.region id ops true).wpIn (Fence.wide.inRound l) n P Q a w:=
 wpIn_region_any hm (any_round (noDefer_spec hd) hL _ _ _ _ (wpAny_of_held _ _ _ _ (h hS)))
end Go.Proofs.YtnfbncgfpmcpnaaGreat.Mdl
namespace Go.Proofs.YtnfbncgfpmcpnaaGreat
open Go.RowKit
theorem run_app_none {P:Program} (w:World) (base:Nat) (t ty e:TypeId) (i:TypeInfo) (size:Nat) (ht:P.underlying t=some (.slice e)) (hi:P.info? e=some i)
  (v:Value) (n c:Nat) (xs:List Value) (hown:w.ownsRow base e size v n xs):(Builtin.append_ #[t,t] ty #[v,.slice none 0 c]).run P w=.ok v w:=by
 rcases hown.2 with ⟨rfl,rfl⟩ | ⟨g,cap,cur,rfl,_,_,hnc,_⟩
 ·simp [Builtin.append_,run_underlying ht,sizeOf,typeInfo,hi,Builtin.lenOf,Builtin.firstCells]
 ·simp [Builtin.append_,run_underlying ht,sizeOf,typeInfo,hi,Builtin.lenOf,Builtin.firstCells,hnc,storeCells]
section
variable {w w':World} {base n s:Nat} {e:TypeId} {v:Value} {xs:List Value}
theorem grown_below (hown:w.ownsRow base e s v n xs) (hg:w.grownBy w' v.ownBlock) (hb:base<=w.heap.size):Below base w w':=
 ⟨hg.os,hg.tape,hg.output,hg.size,fun k hk=>hg.block k (by omega) (fun e1=>by have:=(hown.lt k e1.symm).1;omega)⟩
end
end Go.Proofs.YtnfbncgfpmcpnaaGreat
namespace Go.Proofs.YtnfbncgfpmcpnaaGreat.Mdl
open Go.RowKit
open Ent (En EnRow okB en_one en_len)
open Mch (Frm below1 below_nx)
theorem step_copyE {ops:Array Oper} {E:Prop} {w:World} {o:Oper} {a:Act} {K:Act->World->Prop} {Q:Exit->Act->World->Prop} (d:Option Tmp) (x:Operand)
  (hg:o.guard=none) (hd:o.dst=d) (ho:o.op=.call { callee:=.builtin .append,args:=#[.const (.slice none 0 0),x],argTypes:=#[51,51] })
  {sv:Value} {l:List En} (hx:a.eval x=sv) (hr:EnRow w sv l) (hl:l.length<=1000)
  (h:∀ v' w',w'.ownsRow w.heap.size 39 13 v' l.length (flatE l)->Below w.heap.size w w'->K (a.put d v') w') :
  if Region.wanted o (yielded ops a.tmps)=true then Oper.wp Tryz.prog o a w K Q else E:=by
 obtain ⟨i0,hi,hz0,hz1,hz2⟩:=info_parts infoEnt
 obtain ⟨ad,c,rfl,h1⟩:=hr
 subst hd
 cases ad with
 | none=>
  have h0:l.length=0:=by
   rcases h1 with h1 | ⟨b,off,h1,_⟩
   ·exact h1
   ·cases h1
  obtain rfl:=List.length_eq_zero_iff.1 h0
  have hw:Region.wanted o (yielded ops a.tmps)=true:=by simp [Region.wanted,hg]
  rw [if_pos hw]
  have hrun:=run_app_none (P:=Tryz.prog) w w.heap.size 51 o.type 39 i0 13 Tryz.underlying51 hi (.slice none 0 0) 0 c [] (World.ownsRow_nil _ _ _ _)
  have hs:a.eval (.const (.slice none 0 0))=.slice none 0 0:=rfl
  have hx':a.eval x=.slice none 0 c:=hx
  unfold Oper.wp execOp
  simp only [ho,resolve,invoke,builtin,Sem.run_bind,Sem.run_pure,Result.andThen_ok,List.map_toArray,List.map_cons,List.map_nil,hs,hx',hrun]
  exact h _ w (World.ownsRow_nil _ _ _ _) (Below.refl _ _)
 | some ad=>
  have hnews:∀ (j:Nat) u,(l.flatMap Ent.En.cellsL)[j]?=some u->w.cell? (ad.add j)=some u:=by
   intro j u hj
   rcases h1 with h1 | ⟨b,off,h1,hb,hc⟩
   ·rw [List.length_eq_zero_iff.1 h1] at hj
    cases hj
   ·have hlt:j<(l.flatMap Ent.En.cellsL).length:=(List.getElem?_eq_some_iff.1 hj).1
    rw [Ent.flat_len Ent.En.cellsL 13 en_len] at hlt
    have hm:j % 13<13:=Nat.mod_lt _ (by omega)
    have hk:j / 13<l.length:=by omega
    have he:j / 13 * 13+j % 13=j:=by omega
    obtain ⟨x,hx⟩:∃ x,l[j / 13]?=some x:=⟨_,List.getElem?_eq_getElem hk⟩
    have hf:=Ent.flat_get Ent.En.cellsL 13 en_len l (j / 13) (j % 13) hm
    rw [he,hj,hx,Option.bind_some] at hf
    have:=hc (j / 13) x hx (j % 13) u hf.symm
    simp only [Option.some.injEq] at h1
    subst h1
    rw [show Addr.add ⟨b,off,none⟩ j=⟨b,off+j,none⟩ by by_cases e:j=0 <;> simp [Addr.add,e]]
    rw [show off+j=off+j / 13 * 13+j % 13 by omega]
    exact this
  refine step_append_at hg _ x 51 ho w.heap.size 39 i0 _ 13 104 Tryz.underlying51 hi hz0 hz1 hz2 rfl (by decide) (.slice none 0 0) 0 [] rfl (World.ownsRow_nil _ _ _ _) ad l.length c (l.flatMap Ent.En.cellsL) hx (Ent.flat_len Ent.En.cellsL 13 en_len l) hnews (en_one l) (by unfold maxLen;omega) (by omega) (Nat.le_refl _) ?_
  intro v' w' ho2 hg2 _
  refine h v' w' (by unfold flatE;simpa using ho2) (grown_below (World.ownsRow_nil w w.heap.size 39 13) hg2 (Nat.le_refl _))
theorem step_moreE {ops:Array Oper} {E:Prop} {w w0:World} {o:Oper} {a:Act} {K:Act->World->Prop} {Q:Exit->Act->World->Prop} (d:Option Tmp) (s x:Operand)
  (hg:o.guard=none) (hd:o.dst=d) (ho:o.op=.call { callee:=.builtin .append,args:=#[s,x],argTypes:=#[51,51] })
  {v:Value} {l:List En} {y:En} {B:Nat} (hs:a.eval s=v) (hx:a.eval x=.slice (some ⟨B,0,none⟩) 1 1) (hr:w.ownsRow w0.heap.size 39 13 v l.length (flatE l)) (hB:Blk w B 39 (enA y)) (hb:Below w0.heap.size w0 w) (hl:l.length<=1000)
  (h:∀ v' w',EnRow w' v' (l ++ [y])->Below w0.heap.size w0 w'->K (a.put d v') w') :
  if Region.wanted o (yielded ops a.tmps)=true then Oper.wp Tryz.prog o a w K Q else E:=by
 obtain ⟨i0,hi,hz0,hz1,hz2⟩:=info_parts infoEnt
 subst hd
 refine step_append_at hg s x 51 ho w0.heap.size 39 i0 _ 13 104 Tryz.underlying51 hi hz0 hz1 hz2 rfl (by decide) v l.length (flatE l) hs hr ⟨B,0,none⟩ 1 1 y.cellsL hx rfl (fun j u hj=>en_cells hB j u hj) (by simpa using en_one [y]) (by unfold maxLen;omega) (by omega) hb.size ?_
 intro v' w' ho2 hg2 _
 refine h v' w' (EnRow.of_owns (base:=w0.heap.size) ?_) (hb.trans (grown_below hr hg2 hb.size))
 have:(l ++ [y]).flatMap Ent.En.cellsL=flatE l ++ y.cellsL:=flatE_snoc l y
 rw [this,List.length_append]
 exact ho2
end Go.Proofs.YtnfbncgfpmcpnaaGreat.Mdl
