/-
  ReplayNext: its walks, part 37.
-/
import Derived.Test.YtnfbncgfpmcpnaaGreatQ36
set_option maxRecDepth 100000
set_option maxHeartbeats 12800000
namespace Go.Proofs.YtnfbncgfpmcpnaaGreat.Mdl
open Go.RowKit Go.Shelf
open Ent (En EnRow okB)
open Mch (Frm below1 below_nx)
attribute [local go_sem] Oper.semAt_some
theorem go_d (r:Rn):∀ l:List En,(r.go l).d<=r.d+l.length:=by
 intro l
 induction l generalizing r with
 | nil=>exact Nat.le_refl _
 | cons x t ih=>
  have h1:(r.step x).d<=r.d+1:=by
   unfold Rn.step;split
   ·omega
   ·split
    ·show r.d<=r.d+1;omega
    ·unfold Rn.do_;split
     ·exact Nat.le_refl _
     ·show r.d<=r.d+1;omega
  have h2:=ih (r.step x)
  show ((r.step x).go t).d<=_
  rw [List.length_cons];omega
structure ThAt (w0:World) (o:Nat->Nat) (R A:Nat) (r:Rn) (T1 T2:Nat) (sv:Value) (X:World):Prop where
 rn:RnAt w0 o R A r X
 b1:Blk X T1 51 #[sv]
 b2:Blk X T2 102 #[ptrV R]
 o1:o T1=0
 o2:o T2=0
 n1:T1 ≠ R
 n2:T2 ≠ R
section
variable {R A T1 T2:Nat} {o o':Nat->Nat} {w0 X Y:World} {r r':Rn} {sv:Value}
theorem ThAt.below (h:ThAt w0 o R A r T1 T2 sv X) (hb:Below X.heap.size X Y):ThAt w0 o R A r T1 T2 sv Y:=⟨h.rn.below hb,h.b1.on hb,h.b2.on hb,h.o1,h.o2,h.n1,h.n2⟩
theorem ThAt.trn (h:ThAt w0 o R A r T1 T2 sv X) (hr:RnAt w0 o' R A r' Y) (ht:Trn R o o' X Y):ThAt w0 o' R A r' T1 T2 sv Y:=
 ⟨hr,(ht.frm.block T1 h.b1.lt (fun e=>e.elim (fun e=>e h.o1) h.n1)).trans h.b1,(ht.frm.block T2 h.b2.lt (fun e=>e.elim (fun e=>e h.o2) h.n2)).trans h.b2,
  by rw [ht.old T1 h.b1.lt];exact h.o1,by rw [ht.old T2 h.b2.lt];exact h.o2,h.n1,h.n2⟩
theorem ThAt.aside (h:ThAt w0 o R A r T1 T2 sv X) {F:Nat->Prop} (hF:Frm F X Y) (h1:∀ k,F k->o k=0/\k ≠ R/\k ≠ T1/\k ≠ T2/\w0.heap.size<=k):ThAt w0 o R A r T1 T2 sv Y:=
 ⟨h.rn.aside hF (fun k hk=>⟨(h1 k hk).1,(h1 k hk).2.1,(h1 k hk).2.2.2.2⟩),(hF.block T1 h.b1.lt (fun e=>(h1 T1 e).2.2.1 rfl)).trans h.b1,(hF.block T2 h.b2.lt (fun e=>(h1 T2 e).2.2.2.1 rfl)).trans h.b2,h.o1,h.o2,h.n1,h.n2⟩
end
theorem putobj_blk {X:World} {B l:Nat} {t:TypeId} {cs:Array Value} {ob oc:Obj} (h:Blk X B t cs) (hl:X.heap[l]?=some oc) (hc:oc.isCells=false):Blk (X.putObj l ob) B t cs:=by
 have hne:B ≠ l:=fun e=>by
  subst e
  rw [show X.heap[B]?=_ from h] at hl
  cases hl
  cases hc
 exact (World.putObj_heap_other hne).trans h
theorem ThAt.putObj {R A T1 T2:Nat} {o:Nat->Nat} {w0 X:World} {r:Rn} {sv:Value} (h:ThAt w0 o R A r T1 T2 sv X) {l:Nat} {ob oc:Obj} (hw:w0.heap.size<=l) (ho:o l=0) (hl:X.heap[l]?=some oc) (hc:oc.isCells=false):ThAt w0 o R A r T1 T2 sv (X.putObj l ob):=by
 have hne:∀ {B:Nat} {t:TypeId} {cs:Array Value},Blk X B t cs->l ≠ B:=fun {B t cs} h e=>by
  subst e
  rw [show X.heap[l]?=_ from h] at hl
  cases hl
  cases hc
 exact h.aside (frm_obj X l ob) (fun k hk=>by rw [hk];exact ⟨ho,hne h.rn.blk,hne h.b1,hne h.b2,hw⟩)
theorem trn_blk {R B:Nat} {o o':Nat->Nat} {X Y:World} {t:TypeId} {cs:Array Value} (h:Trn R o o' X Y) (hb:Blk X B t cs) (h0:o B=0) (h1:B ≠ R):Blk Y B t cs:=
 (h.frm.block B hb.lt (fun e=>e.elim (fun e=>e h0) h1)).trans hb
structure HdAt (w0:World) (R A:Nat) (r0:Rn) (l:List En) (T1 T2:Nat) (sv:Value) (k:Nat) (x:En) (o:Nat->Nat) (b:Nat) (X:World):Prop where
 at_:l[k]?=some x
 sees:(r0.go (l.take k)).sees x
 th:ThAt w0 o R A (r0.go (l.take k)) T1 T2 sv X
 xb:Blk X b 39 (enA x)
 xo:o b=0
 xn:b ≠ R
def HdT (w0:World) (R A:Nat) (r0:Rn) (l:List En) (T1 T2:Nat) (sv:Value) (s:List En) (o:Nat->Nat) (b:Nat) (X:World):Prop:=
 ∃ k x,s=l.take k ++ [x]/\HdAt w0 R A r0 l T1 T2 sv k x o b X
theorem HdT.at_ {w0:World} {R A:Nat} {r0:Rn} {l:List En} {T1 T2:Nat} {sv:Value} {o:Nat->Nat} {b:Nat} {X:World} {k:Nat} {x:En} (h:HdT w0 R A r0 l T1 T2 sv (l.take k ++ [x]) o b X) (hk:l[k]?=some x):HdAt w0 R A r0 l T1 T2 sv k x o b X:=by
 obtain ⟨k',x',h1,h2⟩:=h
 have hk1:=(List.getElem?_eq_some_iff.1 hk).1
 have hk2:=(List.getElem?_eq_some_iff.1 h2.at_).1
 obtain ⟨h3,h4⟩:=List.append_inj' h1 rfl
 have h5:=congrArg List.length h3
 rw [List.length_take,List.length_take] at h5
 obtain rfl:k=k':=by omega
 obtain rfl:x=x':=by simpa using h4
 exact h2
def FinT (w0:World) (R A:Nat) (r0:Rn) (l:List En) (T1 T2:Nat) (sv:Value) (s:List En) (o:Nat->Nat) (X:World):Prop:=
 ThAt w0 o R A (r0.go l) T1 T2 sv X/\∃ k,k<=l.length/\s=l.take k/\∀ x,l[k]?=some x->¬ (r0.go (l.take k)).sees x
theorem through_any (R:Nat) (a:Option Addr) (n c:Nat) (w:World) :
  Calls Tryz.prog 76 #[ptrV R,.slice a n c] w fun e w'=>e=.returned (.func (.func 110) #[] #[.pointer (some ⟨w.heap.size+1,0,none⟩),.pointer (some ⟨w.heap.size,0,none⟩)])/\w'=(w.alloc (.cells #[ptrV R] 102)).alloc (.cells #[.slice a n c] 51):=by
 have hmf:∀ (fn:Fn) (first cap:Array Value) (w:World),(Instr.makeFunc fn first cap).run Tryz.prog w=.ok (.func fn first cap) w:=fun _ _ _ _=>rfl
 go_enter Tryz.func76,Tryz.ntmps76
 go_wp2_with fail
 go_ret
 exact ⟨rfl,rfl⟩
theorem through1_turn {R A T1 T2:Nat} {o0:Nat->Nat} {w0 w:World} {r0:Rn} {l:List En} {sv:Value} (h:ThAt w0 o0 R A r0 T1 T2 sv w) (hl:EnRow w0 sv l) (hn:l.length<=100000) (hd:r0.d<=1000) (hok:∀ x ∈ l,x.ok) :
  SeqT Fence.wide 3 Tryz.prog 110 #[.pointer (some ⟨T1,0,none⟩),.pointer (some ⟨T2,0,none⟩)] (fun x=>#[enV x]) R (HdT w0 R A r0 l T1 T2 sv) (FinT w0 R A r0 l T1 T2 sv) o0 w:=by
 intro L J W hW hJT hY h0
 obtain ⟨a,c,rfl⟩:=hl.slice
 have hT:=h.below hW
 have c1:W.cell? ⟨T1,0,none⟩=some (.slice a l.length c):=hT.b1.cell rfl
 obtain ⟨n,hnn⟩:∃ n,n=l.length:=⟨_,rfl⟩
 have HN:=Lib.hid hnn
 rw [<- hnn] at hl hn c1 hT hY ⊢
 clear h hnn
 refine callsIn_of_wp Tryz.func110 rfl trivial ?_ rfl
 simp only [Tryz.ntmps110,List.size_toArray,List.length_cons,List.length_nil,Nat.reduceAdd,Nat.reduceSub,Array.replicate_succ,Array.replicate_zero,List.push_toArray,List.append_toArray,List.nil_append,List.cons_append]
 gi_wp2
 clear c1
 gi_loopw [8] (fun iv wr=>∃ (k:Nat) (o:Nat->Nat),k<=n/\iv=.int .i64 (k:Int)/\J (l.take k) o wr/\ThAt w0 o R A (r0.go (l.take k)) T1 T2 (.slice a n c) wr) (fun iv _=>n - (intOf iv).toNat)
 case atStart=>exact ⟨0,o0,Nat.zero_le _,rfl,h0,hT⟩
 case round=>
  clear h0 hT
  obtain ⟨k,o,hk,rfl,hJ,hH⟩:=hrel
  by_cases hlt:k<n
  ·have hlt':(k:Int)<(n:Int):=by omega
   have k0:(0:Int)<=(k:Int):=by omega
   have hwk:IntKind.i64.wrap ((k:Int)+1)=(k:Int)+1:=by rw [IntKind.wrap_i64];omega
   obtain ⟨x,hx⟩:∃ x,l[k]?=some x:=⟨_,List.getElem?_eq_getElem (by rw [<- HN.out];exact hlt)⟩
   have hxo:=hok x (List.mem_of_getElem? hx)
   obtain ⟨b,off,rfl,-, x0,x1,x2,x3,x4,x5,x6,x7,x8,x9,x10,x11,x12⟩:=(hl.below hH.rn.run.bel).at hx
   obtain ⟨w1,hw1⟩:∃ w1,w1=wr.alloc (.cells (enA x) 39):=⟨_,rfl⟩
   have hb1:Below wr.heap.size wr w1:=by rw [hw1];exact below1 wr _
   have hX1:Blk w1 wr.heap.size 39 (enA x):=by rw [hw1];exact blk_new wr _ _
   have hH1:=hH.below hb1
   have hJ1:=hJT _ _ _ _ _ hJ (Trn.of_below (R:=R) (o:=o) hb1)
   have hoX:o wr.heap.size=0:=hH.rn.run.md.off (Nat.le_refl _)
   have hRX:R ≠ wr.heap.size:=fun e=>by have:=hH.rn.blk.lt;omega
   obtain ⟨rk,hrk⟩:∃ rk,rk=r0.go (l.take k):=⟨_,rfl⟩
   have hdk:rk.d<1000000:=by
    have h1:=go_d r0 (l.take k)
    have h2:(l.take k).length<=k:=by rw [List.length_take];omega
    rw [hrk];omega
   have HST:=Lib.hid (Rn.go_snoc r0 l hx)
   rw [<- hrk] at hH1 HST
   have HRK:=Lib.hid hrk
   have HX:=Lib.hid hx
   have t2:wr.cell? ⟨T2,0,none⟩=some (ptrV R):=hH.b2.cell rfl
   have t2':w1.cell? ⟨T2,0,none⟩=some (ptrV R):=hH1.b2.cell rfl
   have r3:w1.cell? ⟨R,3,none⟩=some (.int .i64 rk.e):=hH1.rn.blk.cell rfl
   clear hJ hH hrk hx hlt hb1
   by_cases he:rk.e=0
   ·have HE:=Lib.hid he
    rw [he] at r3
    have hjd:=judged_any x w1.drew hH1.rn.drew hxo
    obtain ⟨j,hj⟩:∃ j,j=judgeE rk.a x:=⟨_,rfl⟩
    rw [<- hj] at hjd
    have HJ:=Lib.hid hj
    have hXd:Blk w1.drew wr.heap.size 39 (enA x):=hX1
    clear he hj
    have t2a:(wr.alloc (.cells #[.int .i64 x.a,.int .u8 (x.k:Int),.int .i64 x.w,.int .i64 x.t,.int .i64 x.p,.int .i64 x.c,.int .i64 x.b,.int .i64 x.q,.int .i64 x.v,.int .i64 x.u,.bool x.o,.int .i64 x.e,.int .u64 (x.s:Int)] 39)).cell? ⟨T2,0,none⟩=some (ptrV R):=by rw [<- show w1=(wr.alloc (.cells #[.int .i64 x.a,.int .u8 (x.k:Int),.int .i64 x.w,.int .i64 x.t,.int .i64 x.p,.int .i64 x.c,.int .i64 x.b,.int .i64 x.q,.int .i64 x.v,.int .i64 x.u,.bool x.o,.int .i64 x.e,.int .u64 (x.s:Int)] 39)) from hw1];exact t2'
    have r3a:(wr.alloc (.cells #[.int .i64 x.a,.int .u8 (x.k:Int),.int .i64 x.w,.int .i64 x.t,.int .i64 x.p,.int .i64 x.c,.int .i64 x.b,.int .i64 x.q,.int .i64 x.v,.int .i64 x.u,.bool x.o,.int .i64 x.e,.int .u64 (x.s:Int)] 39)).cell? ⟨R,3,none⟩=some (.int .i64 0):=by rw [<- show w1=(wr.alloc (.cells #[.int .i64 x.a,.int .u8 (x.k:Int),.int .i64 x.w,.int .i64 x.t,.int .i64 x.p,.int .i64 x.c,.int .i64 x.b,.int .i64 x.q,.int .i64 x.v,.int .i64 x.u,.bool x.o,.int .i64 x.e,.int .u64 (x.s:Int)] 39)) from hw1];exact r3
    gi_wp2
    rw [<- hw1]
    clear t2a r3a hw1 t2 x0 x1 x2 x3 x4 x5 x6 x7 x8 x9 x10 x11 x12
    obtain ⟨X,hX⟩:∃ X,X=wr.heap.size:=⟨_,rfl⟩
    rw [<- hX] at hXd hX1 hoX hRX ⊢
    clear hX t2' r3
    have hkS:∀ W:World,Blk W T2 102 #[ptrV R]->Blk W X 39 (enA x)->(W.cell? ⟨T2,0,none⟩=some (ptrV R)/\W.cell? ⟨X,0,none⟩=some (.int .i64 x.a)/\W.cell? ⟨X,1,none⟩=some (.int .u8 (x.k:Int))/\W.cell? ⟨X,2,none⟩=some (.int .i64 x.w)/\W.cell? ⟨X,3,none⟩=some (.int .i64 x.t)/\W.cell? ⟨X,4,none⟩=some (.int .i64 x.p)/\W.cell? ⟨X,5,none⟩=some (.int .i64 x.c)/\W.cell? ⟨X,6,none⟩=some (.int .i64 x.b)/\W.cell? ⟨X,7,none⟩=some (.int .i64 x.q)/\W.cell? ⟨X,8,none⟩=some (.int .i64 x.v)/\W.cell? ⟨X,9,none⟩=some (.int .i64 x.u)/\W.cell? ⟨X,10,none⟩=some (.bool x.o)/\W.cell? ⟨X,11,none⟩=some (.int .i64 x.e)/\W.cell? ⟨X,12,none⟩=some (.int .u64 (x.s:Int))):=fun W h2 hX=>⟨h2.cell rfl,hX.cell rfl,hX.cell rfl,hX.cell rfl,hX.cell rfl,hX.cell rfl,hX.cell rfl,hX.cell rfl,hX.cell rfl,hX.cell rfl,hX.cell rfl,hX.cell rfl,hX.cell rfl,hX.cell rfl⟩
    have hH1d:=hH1.below (Below.refl _ _).drew
    have hS0:=hkS w1.drew hH1d.b2 hXd
    refine wpIn_wide.2 ?_
    go_region_held3 (fun W=>W.cell? ⟨T2,0,none⟩=some (ptrV R)/\W.cell? ⟨X,0,none⟩=some (.int .i64 x.a)/\W.cell? ⟨X,1,none⟩=some (.int .u8 (x.k:Int))/\W.cell? ⟨X,2,none⟩=some (.int .i64 x.w)/\W.cell? ⟨X,3,none⟩=some (.int .i64 x.t)/\W.cell? ⟨X,4,none⟩=some (.int .i64 x.p)/\W.cell? ⟨X,5,none⟩=some (.int .i64 x.c)/\W.cell? ⟨X,6,none⟩=some (.int .i64 x.b)/\W.cell? ⟨X,7,none⟩=some (.int .i64 x.q)/\W.cell? ⟨X,8,none⟩=some (.int .i64 x.v)/\W.cell? ⟨X,9,none⟩=some (.int .i64 x.u)/\W.cell? ⟨X,10,none⟩=some (.bool x.o)/\W.cell? ⟨X,11,none⟩=some (.int .i64 x.e)/\W.cell? ⟨X,12,none⟩=some (.int .u64 (x.s:Int)))
     (with_reducible first | exact hS0 | exact hS4 | exact hS5)
     ((with_reducible refine hjd.mono ?_;rintro e w4 ⟨rfl,hb4⟩;have hS4:=hkS w4 (hH1d.b2.on hb4) (hXd.on hb4);have r3:w4.cell? ⟨R,3,none⟩=some (.int .i64 rk.e):=(hH1.rn.drew.below hb4).blk.cell rfl;have f3:w4.frozen? ⟨R,3,none⟩=false:=(hH1.rn.drew.below hb4).blk.frozen 3;have hS5:=hkS (w4.setCell ⟨R,3,none⟩ (.int .i64 j)) ((hH1d.b2.on hb4).beside (p:=⟨R,3,none⟩) hH1.n2 _) ((hXd.on hb4).beside (p:=⟨R,3,none⟩) hRX.symm _)))
    have hH4:=hH1d.below hb4
    have hJ4:=hJT _ _ _ _ _ hJ1 ((Trn.of_below (R:=R) (o:=o) (Below.refl _ _).drew).trans (Trn.of_below hb4))
    have hX4:=hXd.on hb4
    obtain ⟨w5,hw5⟩:∃ w5,w5=w4.setCell ⟨R,3,none⟩ (.int .i64 j):=⟨_,rfl⟩
    obtain ⟨hn5,ht5⟩:=hH4.rn.set (k:=3) (v:=.int .i64 j) (r':={ rk with e:=j }) rfl rfl
    have hX5:Blk w5 X 39 (enA x):=by rw [hw5];exact hX4.beside (p:=⟨R,3,none⟩) hRX.symm _
    rw [<- hw5] at hn5 ht5 ⊢
    have hH5:=hH4.trn hn5 ht5
    have hJ5:=hJT _ _ _ _ _ hJ4 ht5
    have t2:w5.cell? ⟨T2,0,none⟩=some (ptrV R):=hH5.b2.cell rfl
    have r3:w5.cell? ⟨R,3,none⟩=some (.int .i64 j):=hn5.blk.cell rfl
    clear hw5 hX4 hJ4 hH4 hS4 hS5 f3 hS0 hkS hH1d hH1 hX1 hXd hJ1 hjd hn5 ht5 hb4 hwk
    by_cases hj0:j=0
    ·have hsee:rk.sees x:=⟨HE.out,by rw [<- HJ.out];exact hj0⟩
     subst hj0
     have hrk0:({ rk with e:=0 }:Rn)=rk:=by
      have:=HE.out
      cases rk;simp only at this;rw [this]
     rw [hrk0] at hH5
     have hst:r0.go (l.take (k+1))=rk.do_ x:=by rw [HST.out,Rn.step_sees hsee]
     have hHd:HdT w0 R A r0 l T1 T2 (.slice (some ⟨b,off,none⟩) n c) (l.take k ++ [x]) o X w5:=⟨k,x,rfl,HX.out,by rw [<- HRK.out];exact hsee,by rw [<- HRK.out];exact hH5,hX5,hoX,hRX.symm⟩
     obtain ⟨fn,tmps,assign,body,hyy,hR⟩:=hY (l.take k) x o X w5 hJ5 hHd
     have HSEE:=Lib.hid hsee
     have HSTT:=Lib.hid hst
     have htk:l.take k ++ [x]=l.take (k+1):=by rw [List.take_add_one,HX.out,Option.toList_some]
     have HTK:=Lib.hid htk
     have x0:w5.cell? ⟨X,0,none⟩=some (.int .i64 x.a):=hX5.cell rfl
     have x1:w5.cell? ⟨X,1,none⟩=some (.int .u8 (x.k:Int)):=hX5.cell rfl
     have x2:w5.cell? ⟨X,2,none⟩=some (.int .i64 x.w):=hX5.cell rfl
     have x3:w5.cell? ⟨X,3,none⟩=some (.int .i64 x.t):=hX5.cell rfl
     have x4:w5.cell? ⟨X,4,none⟩=some (.int .i64 x.p):=hX5.cell rfl
     have x5:w5.cell? ⟨X,5,none⟩=some (.int .i64 x.c):=hX5.cell rfl
     have x6:w5.cell? ⟨X,6,none⟩=some (.int .i64 x.b):=hX5.cell rfl
     have x7:w5.cell? ⟨X,7,none⟩=some (.int .i64 x.q):=hX5.cell rfl
     have x8:w5.cell? ⟨X,8,none⟩=some (.int .i64 x.v):=hX5.cell rfl
     have x9:w5.cell? ⟨X,9,none⟩=some (.int .i64 x.u):=hX5.cell rfl
     have x10:w5.cell? ⟨X,10,none⟩=some (.bool x.o):=hX5.cell rfl
     have x11:w5.cell? ⟨X,11,none⟩=some (.int .i64 x.e):=hX5.cell rfl
     have x12:w5.cell? ⟨X,12,none⟩=some (.int .u64 (x.s:Int)):=hX5.cell rfl
     simp only [enV] at hyy
     clear hY hHd hrk0 hst hsee htk hH5 hJ5 hX5
     gi_wp2
     refine hR.mono ?_
     clear hR hyy x0 x1 x2 x3 x4 x5 x6 x7 x8 x9 x10 x11 x12
     rintro e w6 ⟨rfl,o6,hJ6,hHd6⟩
     have hA6:=hHd6.at_ HX.out
     rw [HTK.out] at hJ6
     have hH6:=hA6.th
     rw [<- HRK.out] at hH6
     have hX6:=hA6.xb
     have hdo:=do_any x w6.drew hH6.rn.drew hxo HE.out hdk
     have hkS:∀ W:World,Blk W T2 102 #[ptrV R]->Blk W X 39 (enA x)->(W.cell? ⟨T2,0,none⟩=some (ptrV R)/\W.cell? ⟨X,0,none⟩=some (.int .i64 x.a)/\W.cell? ⟨X,1,none⟩=some (.int .u8 (x.k:Int))/\W.cell? ⟨X,2,none⟩=some (.int .i64 x.w)/\W.cell? ⟨X,3,none⟩=some (.int .i64 x.t)/\W.cell? ⟨X,4,none⟩=some (.int .i64 x.p)/\W.cell? ⟨X,5,none⟩=some (.int .i64 x.c)/\W.cell? ⟨X,6,none⟩=some (.int .i64 x.b)/\W.cell? ⟨X,7,none⟩=some (.int .i64 x.q)/\W.cell? ⟨X,8,none⟩=some (.int .i64 x.v)/\W.cell? ⟨X,9,none⟩=some (.int .i64 x.u)/\W.cell? ⟨X,10,none⟩=some (.bool x.o)/\W.cell? ⟨X,11,none⟩=some (.int .i64 x.e)/\W.cell? ⟨X,12,none⟩=some (.int .u64 (x.s:Int))):=fun W h2 hX=>⟨h2.cell rfl,hX.cell rfl,hX.cell rfl,hX.cell rfl,hX.cell rfl,hX.cell rfl,hX.cell rfl,hX.cell rfl,hX.cell rfl,hX.cell rfl,hX.cell rfl,hX.cell rfl,hX.cell rfl,hX.cell rfl⟩
     have hH6d:=hH6.below (Below.refl _ _).drew
     have hX6d:Blk w6.drew X 39 (enA x):=hX6
     have hS0:=hkS w6.drew hH6d.b2 hX6d
     have t2:w6.cell? ⟨T2,0,none⟩=some (ptrV R):=hH6.b2.cell rfl
     have hx6o:=hA6.xo
     obtain ⟨d,hd0⟩:∃ d,d=doE rk.M x:=⟨_,rfl⟩
     have HD:=Lib.hid hd0
     unfold DoPost at hdo
     rw [<- hd0] at hdo
     clear hA6 hHd6 hd0
     gi_wp2
     clear t2
     refine wpIn_wide.2 ?_
     go_region_held3 (fun W=>W.cell? ⟨T2,0,none⟩=some (ptrV R)/\W.cell? ⟨X,0,none⟩=some (.int .i64 x.a)/\W.cell? ⟨X,1,none⟩=some (.int .u8 (x.k:Int))/\W.cell? ⟨X,2,none⟩=some (.int .i64 x.w)/\W.cell? ⟨X,3,none⟩=some (.int .i64 x.t)/\W.cell? ⟨X,4,none⟩=some (.int .i64 x.p)/\W.cell? ⟨X,5,none⟩=some (.int .i64 x.c)/\W.cell? ⟨X,6,none⟩=some (.int .i64 x.b)/\W.cell? ⟨X,7,none⟩=some (.int .i64 x.q)/\W.cell? ⟨X,8,none⟩=some (.int .i64 x.v)/\W.cell? ⟨X,9,none⟩=some (.int .i64 x.u)/\W.cell? ⟨X,10,none⟩=some (.bool x.o)/\W.cell? ⟨X,11,none⟩=some (.int .i64 x.e)/\W.cell? ⟨X,12,none⟩=some (.int .u64 (x.s:Int)))
      (with_reducible first | exact hS0 | exact hS7 | exact hS8)
      ((with_reducible refine hdo.mono ?_;rintro e w7 ⟨rfl,o7,hn7,ht7⟩;have hH7:=hH6d.trn hn7 ht7;have hX7:=trn_blk ht7 hX6d hx6o hRX.symm;have hS7:=hkS w7 hH7.b2 hX7;have r7:w7.cell? ⟨R,3,none⟩=some (.int .i64 _):=hn7.blk.cell rfl;have f7:w7.frozen? ⟨R,3,none⟩=false:=hn7.blk.frozen 3;have hS8:=hkS (w7.setCell ⟨R,3,none⟩ (.int .i64 d)) (hH7.b2.beside (p:=⟨R,3,none⟩) hH7.n2 _) (hX7.beside (p:=⟨R,3,none⟩) hRX.symm _)))
     have hrs:RnAt w0 o7 R A (r0.go (l.take (k+1))) (w7.setCell ⟨R,3,none⟩ (.int .i64 d))/\Trn R o7 o7 w7 (w7.setCell ⟨R,3,none⟩ (.int .i64 d)):=by
      rw [HSTT.out]
      by_cases hd:d=0
      ·have h0:doE rk.M x=0:=by rw [<- HD.out];exact hd
       rw [if_pos hd] at hn7
       refine hn7.set (k:=3) (v:=.int .i64 d) (r':=rk.do_ x) rfl ?_
       unfold Rn.do_
       rw [if_pos h0,hd]
       rfl
      ·have h0 : ¬ doE rk.M x=0:=by rw [<- HD.out];exact hd
       rw [if_neg hd] at hn7
       refine hn7.set (k:=3) (v:=.int .i64 d) (r':=rk.do_ x) (by unfold Rn.do_;rw [if_neg h0]) ?_
       unfold Rn.do_
       rw [if_neg h0, <- HD.out]
       rfl
     obtain ⟨w8,hw8⟩:∃ w8,w8=w7.setCell ⟨R,3,none⟩ (.int .i64 d):=⟨_,rfl⟩
     rw [<- hw8] at hrs ⊢
     obtain ⟨hn8,ht8⟩:=hrs
     have hH8:=hH7.trn hn8 ht8
     have hJ8:=hJT _ _ _ _ _ (hJT _ _ _ _ _ (hJT _ _ _ _ _ hJ6 (Trn.of_below (R:=R) (o:=o6) (Below.refl _ _).drew)) ht7) ht8
     have hwk:IntKind.i64.wrap ((k:Int)+1)=(k:Int)+1:=by rw [IntKind.wrap_i64];omega
     clear hw8 hS7 hS8 f7 r7 hS0 hkS hH6 hH6d hX6 hX6d hX7 hdo hn7 ht7 hn8 ht8 hH7 hJ6
     gi_wp2
     go_roundw
     case rel=>exact ⟨k+1,o7,by omega,by go_num,hJ8,hH8⟩
     case measure=>simp [intOf];omega
    ·have d1:(j != 0)=true:=by simpa using hj0
     have hw:=HJ.out ▸ hj0
     have hst:r0.go (l.take (k+1)) = { rk with e:=j }:=by rw [HST.out,Rn.step_wrong HE.out (by rw [<- HJ.out];exact hj0), <- HJ.out]
     have hgo:r0.go l = { rk with e:=j }:=by
      rw [<- hst];exact Rn.go_stays l (k+1) (by rw [hst];exact hj0)
     have HGO:=Lib.hid hgo
     have HNS:Hid (¬ rk.sees x):=Lib.hid (fun e=>hj0 (by rw [HJ.out];exact e.2))
     clear hw hst hgo hj0
     gi_wp2
     refine ⟨fun _ h=>(by cases h),?_⟩
     gi_wp2
     refine bodyPost_ret (results_none rfl _ _ _) rfl ?_
     refine ⟨⟨_,rfl⟩,l.take k,o,⟨by rw [HGO.out];exact hH5,k,by rw [<- HN.out];omega,rfl,fun x' hx'=>?_⟩,hJ5⟩
     rw [HX.out] at hx'
     cases hx'
     rw [<- HRK.out]
     exact HNS.out
   ·have d1:(rk.e == 0)=false:=by simpa using he
    have d2:(rk.e != 0)=true:=by simpa using he
    obtain ⟨g,hg⟩:∃ g,g=rk.e:=⟨_,rfl⟩
    rw [<- hg] at d1 d2 r3
    have HGO:Hid (r0.go l=rk):=Lib.hid (by rw [HRK.out];exact Rn.go_stays l k (by rw [<- HRK.out];exact he))
    have HNS:Hid (¬ rk.sees x):=Lib.hid (fun e=>he e.1)
    have t2a:(wr.alloc (.cells #[.int .i64 x.a,.int .u8 (x.k:Int),.int .i64 x.w,.int .i64 x.t,.int .i64 x.p,.int .i64 x.c,.int .i64 x.b,.int .i64 x.q,.int .i64 x.v,.int .i64 x.u,.bool x.o,.int .i64 x.e,.int .u64 (x.s:Int)] 39)).cell? ⟨T2,0,none⟩=some (ptrV R):=by rw [<- show w1=(wr.alloc (.cells #[.int .i64 x.a,.int .u8 (x.k:Int),.int .i64 x.w,.int .i64 x.t,.int .i64 x.p,.int .i64 x.c,.int .i64 x.b,.int .i64 x.q,.int .i64 x.v,.int .i64 x.u,.bool x.o,.int .i64 x.e,.int .u64 (x.s:Int)] 39)) from hw1];exact t2'
    have r3a:(wr.alloc (.cells #[.int .i64 x.a,.int .u8 (x.k:Int),.int .i64 x.w,.int .i64 x.t,.int .i64 x.p,.int .i64 x.c,.int .i64 x.b,.int .i64 x.q,.int .i64 x.v,.int .i64 x.u,.bool x.o,.int .i64 x.e,.int .u64 (x.s:Int)] 39)).cell? ⟨R,3,none⟩=some (.int .i64 g):=by rw [<- show w1=(wr.alloc (.cells #[.int .i64 x.a,.int .u8 (x.k:Int),.int .i64 x.w,.int .i64 x.t,.int .i64 x.p,.int .i64 x.c,.int .i64 x.b,.int .i64 x.q,.int .i64 x.v,.int .i64 x.u,.bool x.o,.int .i64 x.e,.int .u64 (x.s:Int)] 39)) from hw1];exact r3
    clear he hg
    gi_wp2
    refine ⟨fun _ h=>(by cases h),?_⟩
    gi_wp2
    rw [<- hw1]
    refine bodyPost_ret (results_none rfl _ _ _) rfl ?_
    refine ⟨⟨_,rfl⟩,l.take k,o,⟨by rw [HGO.out];exact hH1,k,by rw [<- HN.out];omega,rfl,fun x' hx'=>?_⟩,hJ1⟩
    rw [HX.out] at hx'
    cases hx'
    rw [<- HRK.out]
    exact HNS.out
  ·obtain rfl:k=n:=by omega
   have hlt' : ¬ (k:Int)<(k:Int):=by omega
   have hall:l.take k=l:=List.take_of_length_le (by rw [<- HN.out];omega)
   have HAL:=Lib.hid hall
   rw [hall] at hJ hH
   have HJJ:=hJ
   clear hlt hall
   gi_wp2
   go_end0
   exact ⟨⟨_,rfl⟩,l,o,⟨hH,k,by rw [<- HN.out];omega,HAL.out.symm,fun x hx=>by
    have:=(List.getElem?_eq_some_iff.1 hx).1
    rw [<- HN.out] at this;omega⟩,HJJ⟩
open Go.RowKit
open Mch (Chn Frm Fw Fl below1 below_nx owns_slice' boxed_below)
section
variable {lo hi:Nat} {v1 v2 v3:Value} {p:Prg}
theorem new_most (most:Int) (w:World) (h:PrgAt lo hi w v1 v2 v3 p) (hs:Small p) (hc:checkW p=none) (hm : ¬ (1<=most/\most<=32)) :
  Calls Tryz.prog 7 #[.agg #[v1,v2,v3],.int .i64 most] w fun e w'=>e=.returned (.tuple #[.pointer none,.int .i64 2])/\Below w.heap.size w w':=by
 obtain ⟨a1,c1,rfl⟩:=h.caps.slice
 obtain ⟨a2,c2,rfl⟩:=h.codes.slice
 obtain ⟨a3,c3,rfl⟩:=h.sites.slice
 obtain ⟨w2,hw2⟩:∃ w2,w2=(w.alloc (.cells #[.slice a1 p.caps.length c1,.slice a2 p.codes.length c2,.slice a3 p.sites.length c3] 26)).alloc (.cells #[.int .i64 0] 31):=⟨_,rfl⟩
 have hB2:Below w.heap.size w w2:=by rw [hw2];exact below2 w _ _
 have hX2:Blk w2 w.heap.size 26 #[.slice a1 p.caps.length c1,.slice a2 p.codes.length c2,.slice a3 p.sites.length c3]:=by rw [hw2];exact (blk_new w _ _).alloc _
 have hE2:Boxed w2 (w.heap.size+1) 31 (.int .i64 0):=by
  have h1:=Boxed.new (w.alloc (.cells #[.slice a1 p.caps.length c1,.slice a2 p.codes.length c2,.slice a3 p.sites.length c3] 26)) 31 (.int .i64 0)
  rw [World.size_alloc] at h1
  rw [hw2];exact h1
 have hP2:=h.later hB2
 have hmf:∀ (fn:Fn) (first cap:Array Value) (w:World),(Instr.makeFunc fn first cap).run Tryz.prog w=.ok (.func fn first cap) w:=fun _ _ _ _=>rfl
 have x0:w2.cell? ⟨w.heap.size,0,none⟩=some (.slice a1 p.caps.length c1):=hX2.cell rfl
 have x1:w2.cell? ⟨w.heap.size,1,none⟩=some (.slice a2 p.codes.length c2):=hX2.cell rfl
 have x2:w2.cell? ⟨w.heap.size,2,none⟩=some (.slice a3 p.sites.length c3):=hX2.cell rfl
 have hck:=Go.Proofs.YtnfbncgfpmcpnaaGreat.progCheck_any w2 hP2 hs
 rw [check_zero.2 hc] at hck
 obtain ⟨y0,hy0⟩:∃ z,z=(checkT p).1:=⟨_,rfl⟩
 obtain ⟨y1,hy1⟩:∃ z,z=(checkT p).2.1:=⟨_,rfl⟩
 rw [<- hy0, <- hy1] at hck
 clear hy0 hy1 hc hs h hP2 hX2
 by_cases h1:1<=most
 ·have h2 : ¬ most<=32:=fun e=>hm ⟨h1,e⟩
  have d1:decide (1<=most)=true:=by simpa using h1
  have d2:decide (most<=32)=false:=by simpa using h2
  clear hm
  go_enter_defers Tryz.func7,Tryz.ntmps7
  go_wp2_with fail
  rw [<- hw2]
  clear hw2
  refine hck.mono ?_
  rintro e w3 ⟨rfl,hb3⟩
  have hE3:=boxed_below hE2 hb3
  have hB3:=below_nx hB2 hb3 (Nat.le_refl _)
  clear x0 x1 x2 hck hE2 hb3
  go_wp2_with fail
  refine (mneed_ok 2 w3).mono ?_
  rintro e w3 ⟨rfl,rfl⟩
  go_wp2_with fail
  refine (mneed_bad 2 w3).mono ?_
  rintro e w3 ⟨rfl,rfl⟩
  go_wp2_with fail
  exact new_dies (w.heap.size+1) _ _ 2 0 rfl rfl hE3 hB3 (by omega)
 ·have d1:decide (1<=most)=false:=by simpa using h1
  clear hm
  go_enter_defers Tryz.func7,Tryz.ntmps7
  go_wp2_with fail
  rw [<- hw2]
  clear hw2
  refine hck.mono ?_
  rintro e w3 ⟨rfl,hb3⟩
  have hE3:=boxed_below hE2 hb3
  have hB3:=below_nx hB2 hb3 (Nat.le_refl _)
  clear x0 x1 x2 hck hE2 hb3
  go_wp2_with fail
  refine (mneed_ok 2 w3).mono ?_
  rintro e w3 ⟨rfl,rfl⟩
  go_wp2_with fail
  refine (mneed_bad 2 w3).mono ?_
  rintro e w3 ⟨rfl,rfl⟩
  go_wp2_with fail
  exact new_dies (w.heap.size+1) _ _ 2 0 rfl rfl hE3 hB3 (by omega)
theorem new_not (most:Int) (w:World) (h:PrgAt lo hi w v1 v2 v3 p) (hs:Small p) (hc : ¬ (checkW p=none/\1<=most/\most<=32)) :
  Calls Tryz.prog 7 #[.agg #[v1,v2,v3],.int .i64 most] w fun e w'=>e=.returned (.tuple #[.pointer none,.int .i64 2])/\Below w.heap.size w w':=by
 by_cases h0:checkW p=none
 ·exact new_most most w h hs h0 (fun e=>hc ⟨h0,e⟩)
 ·exact new_bad most w h hs h0
end
open Go.RowKit Go.Shelf
open Ent (En EnRow okB)
open Mch (Frm below1 below_nx)
section
variable {R A:Nat} {o:Nat->Nat} {w w0 X Y:World} {r:Rn}
theorem RnAt.rebase (h:RnAt w0 o R A r X) (hb:Below w.heap.size w w0):RnAt w o R A r X:=
 ⟨⟨h.run.md,h.run.inv,below_nx hb h.run.bel (Nat.le_refl _),fun k hk=>Nat.le_trans hb.size (h.run.new k hk)⟩,h.blk,h.off,Nat.le_trans hb.size h.low⟩
end
section
variable {lo hi:Nat} {v1 v2 v3:Value} {p:Prg}
def BegPost (w:World) (p:Prg) (most:Nat) (e:Ending) (w':World):Prop:=∃ R A o,e=.returned (ptrV R)/\RnAt w o R A (rn0 (newM p most)) w'
theorem begun_ok (most:Nat) (w:World) (h:PrgAt lo hi w v1 v2 v3 p) (hs:Small p) (hc:checkW p=none) (hm1:1<=most) (hm2:most<=32) :
  Calls Tryz.prog 75 #[.agg #[v1,v2,v3],.int .i64 (most:Int)] w (BegPost w p most):=by
 obtain ⟨w1,hw1⟩:∃ w1,w1=w.alloc (.cells #[v1,v2,v3] 26):=⟨_,rfl⟩
 have hB1:Below w.heap.size w w1:=by rw [hw1];exact below1 w _
 have hX1:Blk w1 w.heap.size 26 #[v1,v2,v3]:=by rw [hw1];exact blk_new w _ _
 have hnew:Calls Tryz.prog 7 #[.agg #[v1,v2,v3],.int .i64 (most:Int)] w1 (NewPost w1 p most):=new_ok most w1 (h.later hB1) hs hc hm1 hm2
 have hi0:=inv_new hc hs h.fit hm1 hm2
 have x0:w1.cell? ⟨w.heap.size,0,none⟩=some v1:=hX1.cell rfl
 have x1:w1.cell? ⟨w.heap.size,1,none⟩=some v2:=hX1.cell rfl
 have x2:w1.cell? ⟨w.heap.size,2,none⟩=some v3:=hX1.cell rfl
 clear h hX1 hc hm1 hm2
 go_enter Tryz.func75,Tryz.ntmps75
 go_upto_region 1 with fail
 rw [<- hw1]
 clear hw1
 go_wp2_with fail
 refine hnew.mono ?_
 clear hnew x0 x1 x2
 rintro e w2 ⟨A,rfl,⟨o,hM,hn⟩,hb2⟩
 have hR2:Runs w o A (newM p most) w2:=⟨hM,hi0,below_nx hB1 hb2 (Nat.le_refl _),fun k hk=>Nat.le_trans hB1.size (hn k hk)⟩
 have hR3:RnAt w o w2.heap.size A (rn0 (newM p most)) (w2.alloc (.cells #[ptrV A,.int .i64 0,.int .i64 0,.int .i64 0] 105)):=
  ⟨hR2.below (below1 w2 _),blk_new w2 _ _,hM.off (Nat.le_refl _),hR2.bel.size⟩
 clear hM hn hb2 hR2 hB1
 go_wp2_with fail
 go_ret
 exact ⟨_,A,o,rfl,hR3⟩
def Nil2 (W:World) (R:Nat):Prop:=Blk W R 105 #[.pointer none,.int .i64 0,.int .i64 0,.int .i64 2]
theorem begun_bad (most:Int) (w:World) (h:PrgAt lo hi w v1 v2 v3 p) (hs:Small p) (hc : ¬ (checkW p=none/\1<=most/\most<=32)) :
  Calls Tryz.prog 75 #[.agg #[v1,v2,v3],.int .i64 most] w fun e w'=>∃ R,e=.returned (ptrV R)/\Nil2 w' R/\w.heap.size<=R/\Below w.heap.size w w':=by
 obtain ⟨w1,hw1⟩:∃ w1,w1=w.alloc (.cells #[v1,v2,v3] 26):=⟨_,rfl⟩
 have hB1:Below w.heap.size w w1:=by rw [hw1];exact below1 w _
 have hX1:Blk w1 w.heap.size 26 #[v1,v2,v3]:=by rw [hw1];exact blk_new w _ _
 have hnew:=new_not most w1 (h.later hB1) hs hc
 have x0:w1.cell? ⟨w.heap.size,0,none⟩=some v1:=hX1.cell rfl
 have x1:w1.cell? ⟨w.heap.size,1,none⟩=some v2:=hX1.cell rfl
 have x2:w1.cell? ⟨w.heap.size,2,none⟩=some v3:=hX1.cell rfl
 clear h hX1 hc
 go_enter Tryz.func75,Tryz.ntmps75
 go_upto_region 1 with fail
 rw [<- hw1]
 clear hw1
 go_wp2_with fail
 refine hnew.mono ?_
 clear hnew x0 x1 x2
 rintro e w2 ⟨rfl,hb2⟩
 have hB2:=below_nx hB1 hb2 (Nat.le_refl _)
 have hX3:Nil2 (w2.alloc (.cells #[.pointer none,.int .i64 0,.int .i64 0,.int .i64 2] 105)) w2.heap.size:=blk_new w2 _ _
 have hB3:Below w.heap.size w (w2.alloc (.cells #[.pointer none,.int .i64 0,.int .i64 0,.int .i64 2] 105)):=below_nx hB2 (below1 w2 _) (Nat.le_refl _)
 clear hb2 hB1
 go_wp2_with fail
 go_ret
 exact ⟨_,rfl,hX3,hB2.size,hB3⟩
end
attribute [local go_sem] Oper.semAt_some
section
variable {lo hi:Nat} {v1 v2 v3:Value} {p:Prg} {sv:Value} {l:List En}
def GonePost (w:World) (r:Rn) (e:Ending) (w':World):Prop:=∃ R A o,e=.returned (ptrV R)/\RnAt w o R A r w'
theorem gone_ok (most:Nat) (w:World) (h:PrgAt lo hi w v1 v2 v3 p) (hs:Small p) (hc:checkW p=none) (hm1:1<=most) (hm2:most<=32) (hl:EnRow w sv l) (hn:l.length<=100000) (hok:∀ x ∈ l,x.ok) :
  Calls Tryz.prog 40 #[.agg #[v1,v2,v3],.int .i64 (most:Int),sv] w (GonePost w ((rn0 (newM p most)).go l)):=by
 obtain ⟨a,c,rfl⟩:=hl.slice
 obtain ⟨w1,hw1⟩:∃ w1,w1=w.alloc (.cells #[v1,v2,v3] 26):=⟨_,rfl⟩
 have hB1:Below w.heap.size w w1:=by rw [hw1];exact below1 w _
 have hX1:Blk w1 w.heap.size 26 #[v1,v2,v3]:=by rw [hw1];exact blk_new w _ _
 have hbg:=begun_ok most w1 (h.later hB1) hs hc hm1 hm2
 have x0:w1.cell? ⟨w.heap.size,0,none⟩=some v1:=hX1.cell rfl
 have x1:w1.cell? ⟨w.heap.size,1,none⟩=some v2:=hX1.cell rfl
 have x2:w1.cell? ⟨w.heap.size,2,none⟩=some v3:=hX1.cell rfl
 clear h hX1 hs hc hm1 hm2
 refine (callsIn_wide (n:=4)).1 ?_
 refine callsIn_of_wp_marks Tryz.func40 rfl trivial ?_ rfl
 simp only [Tryz.ntmps40,List.size_toArray,List.length_cons,List.length_nil,Nat.reduceAdd,Nat.reduceSub,Array.replicate_succ,Array.replicate_zero,List.push_toArray,List.append_toArray,List.nil_append,List.cons_append]
 refine wpIn_wide.2 ?_
 go_upto_region 1 with fail
 rw [<- hw1]
 clear hw1
 go_wp2_with fail
 unfold BegPost at hbg
 refine hbg.mono ?_
 clear hbg x0 x1 x2
 rintro e w2 ⟨R,A,o,rfl,hR2'⟩
 have hR2:=hR2'.rebase hB1
 clear hR2' hB1
 have hth:=through_any R a l.length c w2
 obtain ⟨w3,hw3⟩:∃ w3,w3=(w2.alloc (.cells #[ptrV R] 102)).alloc (.cells #[.slice a l.length c] 51):=⟨_,rfl⟩
 have hb3:Below w2.heap.size w2 w3:=by rw [hw3];exact below2 w2 _ _
 have hlt:=hR2.blk.lt
 have hT3:ThAt w o R A (rn0 (newM p most)) (w2.heap.size+1) w2.heap.size (.slice a l.length c) w3:=
  ⟨hR2.below hb3,by rw [hw3];exact blk_at (by simp),by rw [hw3];exact (blk_new w2 _ _).alloc _,hR2.run.md.off (by omega),hR2.run.md.off (Nat.le_refl _),by omega,by omega⟩
 have hw3s:=hR2.run.bel.size
 have hb3s:=hb3.size
 rw [<- hw3] at hth
 go_wp2_with fail
 refine hth.mono ?_
 clear hth hw3
 rintro e w3 ⟨rfl,rfl⟩
 go_wp2_with fail
 refine (wpIn_wide (n:=4)).1 ?_
 refine range_turn rfl (by omega) (gf:=110) (lb:=#[.pointer (some ⟨w2.heap.size+1,0,none⟩),.pointer (some ⟨w2.heap.size,0,none⟩)]) rfl trivial (enters_of Tryz.func110 (by kernel_rfl) rfl)
  (through1_turn hT3 hl hn (Nat.zero_le 1000) hok) hT3.rn.blk.lt (fun k hk=>by
   by_cases e:k<w3.heap.size
   ·exact e
   ·exact absurd (hT3.rn.run.md.off (Nat.le_of_not_lt e)) hk) (fun _=>rfl) (fun _ _ _=>True) (fun _ _ _ _ _ _ _=>trivial) (fun _ _ _ _ _ _ _ _=>trivial) ?HO ?FO trivial (fun _ _ _=>True) (fun _ _ _ _ _ _ _ _ _=>trivial) ?assign ?body ?done
 case HO=>
  rintro s o1 b X l1 ob oc ⟨k,x,hs1,hA⟩ hw ho hl1 hc1
  exact ⟨k,x,hs1,hA.at_,hA.sees,hA.th.putObj (by omega) ho hl1 hc1,putobj_blk hA.xb hl1 hc1,hA.xo,hA.xn⟩
 case FO=>
  rintro s o1 X l1 ob oc ⟨hT,hk⟩ hw ho hl1 hc1
  exact ⟨hT.putObj (by omega) ho hl1 hc1,hk⟩
 case assign=>
  rintro l1 s x o1 b W K hI hH hK
  gi_wp2
  exact hK _ _ (Below.refl _ _) trivial hH trivial
 case body=>
  rintro l1 s x a' o1 b W hI hH -
  gi_wp2
  exact ⟨KeepsFrom.refl _ _,o1,fun _ _=>rfl,hH⟩
 case done=>
  rintro D s o1 W hD ho ⟨hT,-⟩ - hK
  clear hT3 hn hok hR2
  go_wp2_with fail
  refine ⟨by simp,.inl ⟨_,_,rfl,run_takeDeferred hK,?_⟩⟩
  refine ⟨ptrV R,?_,R,A,o1,rfl,(hT.putObj (by omega) ho hK rfl).rn⟩
  simp [results,Tryz.f40,go_sem]
end
end Go.Proofs.YtnfbncgfpmcpnaaGreat.Mdl
