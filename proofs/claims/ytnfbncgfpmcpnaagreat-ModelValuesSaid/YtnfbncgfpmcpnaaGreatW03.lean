/-
  ModelValues: its walks, part W3.
-/
import Derived.Test.YtnfbncgfpmcpnaaGreatW02
set_option maxRecDepth 100000
set_option maxHeartbeats 12800000
namespace Go.Proofs.YtnfbncgfpmcpnaaGreat.Mdl
open Go.RowKit
open Ent (En EnRow okB)
open Mch (below1 below_nx owns_slice')
def noP:Prg:=⟨[],[],[]⟩
theorem no_chk:checkW noP ≠ none:=by decide
theorem no_small:Small noP:=⟨by decide,by decide,by decide,by decide,by decide⟩
theorem no_fit:Fit noP:=⟨fun x hx=>by simp [noP] at hx,fun x hx=>by simp [noP] at hx,fun x hx=>by simp [noP] at hx⟩
theorem no_at (W:World):PrgAt W.heap.size W.heap.size W (.slice none 0 0) (.slice none 0 0) (.slice none 0 0) noP:=by
 refine OwnPrg.at ?_ no_fit
 exact ⟨World.ownsRow_nil _ _ _ _,⟨[],World.ownsRow_nil _ _ _ _,fun k u x hu hx=>by simp [noP] at hx⟩,⟨[],World.ownsRow_nil _ _ _ _,fun k x hx=>by simp [noP] at hx⟩⟩
theorem lies_cells {o:Nat->Nat} {W:World} {a:Option Addr} {c:Nat} {x:En} {l:List Value} (hx:x.cellsL=l) (h:Lies o W (.slice a 1 c) [x]) :
  ∃ b off,a=some ⟨b,off,none⟩/\∀ i u,l[i]?=some u->W.cell? ⟨b,off+i,none⟩=some u:=by
 obtain ⟨a',c',h1,h2⟩:=h.1
 simp only [Value.slice.injEq] at h1
 rcases h2 with h2 | ⟨b,off,h3,h4,h5⟩
 ·simp at h2
 ·exact ⟨b,off,h1.1.trans h3,fun i u hi=>by
   have:=h5 0 x rfl i u (by rw [hx];exact hi)
   simpa using this⟩
theorem ve0:enV e0=.agg #[.int .i64 0,.int .u8 9,.int .i64 0,.int .i64 0,.int .i64 1,.int .i64 0,.int .i64 1,.int .i64 0,.int .i64 0,.int .i64 0,.bool false,.int .i64 0,.int .u64 0]:=by kernel_rfl
theorem ve1:enV e1=.agg #[.int .i64 3,.int .u8 9,.int .i64 0,.int .i64 0,.int .i64 1,.int .i64 0,.int .i64 1,.int .i64 0,.int .i64 0,.int .i64 0,.bool false,.int .i64 0,.int .u64 0]:=by kernel_rfl
theorem ve2:enV e2=.agg #[.int .i64 0,.int .u8 8,.int .i64 0,.int .i64 0,.int .i64 0,.int .i64 0,.int .i64 0,.int .i64 0,.int .i64 0,.int .i64 0,.bool false,.int .i64 0,.int .u64 0]:=by kernel_rfl
theorem ve3:enV e3=.agg #[.int .i64 0,.int .u8 3,.int .i64 0,.int .i64 1,.int .i64 0,.int .i64 0,.int .i64 (-1),.int .i64 (-1),.int .i64 0,.int .i64 0,.bool false,.int .i64 0,.int .u64 0]:=by kernel_rfl
theorem ve4:enV e4=.agg #[.int .i64 0,.int .u8 10,.int .i64 0,.int .i64 1,.int .i64 0,.int .i64 0,.int .i64 0,.int .i64 0,.int .i64 0,.int .i64 0,.bool false,.int .i64 0,.int .u64 0]:=by kernel_rfl
theorem vl0:e0.cellsL = [.int .i64 0,.int .u8 9,.int .i64 0,.int .i64 0,.int .i64 1,.int .i64 0,.int .i64 1,.int .i64 0,.int .i64 0,.int .i64 0,.bool false,.int .i64 0,.int .u64 0]:=by kernel_rfl
theorem vl3:e3.cellsL = [.int .i64 0,.int .u8 3,.int .i64 0,.int .i64 1,.int .i64 0,.int .i64 0,.int .i64 (-1),.int .i64 (-1),.int .i64 0,.int .i64 0,.bool false,.int .i64 0,.int .u64 0]:=by kernel_rfl
theorem qe0 (W:World):(binOp .eql 39 (.agg #[.int .i64 0,.int .u8 9,.int .i64 0,.int .i64 0,.int .i64 1,.int .i64 0,.int .i64 1,.int .i64 0,.int .i64 0,.int .i64 0,.bool false,.int .i64 0,.int .u64 0]) (.agg #[.int .i64 0,.int .u8 9,.int .i64 0,.int .i64 0,.int .i64 1,.int .i64 0,.int .i64 1,.int .i64 0,.int .i64 0,.int .i64 0,.bool false,.int .i64 0,.int .u64 0])).run Tryz.prog W=.ok (.bool true) W:=by
 have h:=eq_run e0 e0 W
 rw [show En.eq e0 e0=true by kernel_rfl] at h
 rw [<- ve0];exact h
theorem qe3 (W:World):(binOp .eql 39 (.agg #[.int .i64 0,.int .u8 3,.int .i64 0,.int .i64 1,.int .i64 0,.int .i64 0,.int .i64 (-1),.int .i64 (-1),.int .i64 0,.int .i64 0,.bool false,.int .i64 0,.int .u64 0]) (.agg #[.int .i64 0,.int .u8 3,.int .i64 0,.int .i64 1,.int .i64 0,.int .i64 0,.int .i64 (-1),.int .i64 (-1),.int .i64 0,.int .i64 0,.bool false,.int .i64 0,.int .u64 0])).run Tryz.prog W=.ok (.bool true) W:=by
 have h:=eq_run e3 e3 W
 rw [show En.eq e3 e3=true by kernel_rfl] at h
 rw [<- ve3];exact h
theorem vp5:plaV p5=.agg #[.int .u8 1,.int .i64 1,.int .i64 1,.int .i64 0,.int .i64 0,.int .i64 1,.int .i64 0,.int .i64 0,.int .i64 0,.int .i64 0,.int .i64 0]:=by kernel_rfl
theorem qp5 (W:World):(binOp .eql 63 (.agg #[.int .u8 1,.int .i64 1,.int .i64 1,.int .i64 0,.int .i64 0,.int .i64 1,.int .i64 0,.int .i64 0,.int .i64 0,.int .i64 0,.int .i64 0]) (.agg #[.int .u8 1,.int .i64 1,.int .i64 1,.int .i64 0,.int .i64 0,.int .i64 1,.int .i64 0,.int .i64 0,.int .i64 0,.int .i64 0,.int .i64 0])).run Tryz.prog W=.ok (.bool true) W:=by
 have h:=pla_eq p5 W
 rw [vp5] at h;exact h
theorem alive_any (w:World):Calls Tryz.prog 6 #[] w fun e w'=>e=.returned (.bool true)/\Below w.heap.size w w':=by
 go_enter Tryz.func6,Tryz.ntmps6
 go_wp2_with fail
 refine (two_any _).mono ?_
 rintro e w1 ⟨u1,u2,u3,lo,rfl,hP,hb1⟩
 have hn:Calls Tryz.prog 7 #[.agg #[u1,u2,u3],.int .i64 4] w1 (NewPost w1 twoP 4):=new_ok 4 w1 hP two_small two_chk (by decide) (by decide)
 go_wp2_with fail
 refine hn.mono ?_
 clear hn hP
 rintro e w2 ⟨A,rfl,⟨o0,hM0,hnew⟩,hb2⟩
 have hR2:Runs w o0 A m0 w2:=⟨hM0,inv0,below_nx hb1 hb2 (Nat.le_refl _),fun k hk=>by have:=hnew k hk;have:=hb1.size;omega⟩
 clear hM0 hnew hb1 hb2
 have hbad:Calls Tryz.prog 7 #[.agg #[.slice none 0 0,.slice none 0 0,.slice none 0 0],.int .i64 4] w2 _:=new_bad 4 w2 (no_at w2) no_small no_chk
 go_wp2_with fail
 refine hbad.mono ?_
 clear hbad
 rintro e w3 ⟨rfl,hb3⟩
 have hR3:=hR2.below hb3
 clear hR2 hb3
 have hmv:Calls Tryz.prog 15 #[ptrV A,.int .i64 0] w3 _:=mmoves_any 0 w3 hR3.md hR3.inv.sane
 rw [a_moves] at hmv
 go_wp2_with fail
 refine hmv.mono ?_
 clear hmv
 rintro e w4 ⟨v,rfl,hE,hb4⟩
 have hR4:=hR3.below hb4
 have hL4:Lies o0 w4 v [e0]:=Lies.of_new hE (fun k hk=>hR3.md.off hk)
 obtain ⟨a1,c1,rfl⟩:=hE.slice
 simp only [List.length_cons,List.length_nil,Nat.zero_add] at hL4 ⊢
 clear hR3 hb4 hE
 have hap:=hR4.apply e1_ok
 rw [ve1,a_g] at hap
 go_wp2_with fail
 refine hap.mono ?_
 clear hap
 rintro e w5 ⟨rfl,o1,hG5,hR5⟩
 have hL5:=hL4.goes hG5
 change Runs w o1 A m1 w5 at hR5
 clear hR4 hL4 hG5
 have hap:=hR5.apply e2_ok
 rw [ve2,a_h] at hap
 go_wp2_with fail
 refine hap.mono ?_
 clear hap
 rintro e w6 ⟨rfl,o2,hG6,hR6⟩
 have hL6:=hL5.goes hG6
 change Runs w o2 A m2 w6 at hR6
 clear hR5 hL5 hG6
 have hmv:Calls Tryz.prog 15 #[ptrV A,.int .i64 1] w6 _:=mmoves_any 1 w6 hR6.md hR6.inv.sane
 rw [a_b] at hmv
 go_wp2_with fail
 refine hmv.mono ?_
 clear hmv
 rintro e w7 ⟨v,rfl,hE,hb7⟩
 have hR7:=hR6.below hb7
 have hL7:=hL6.below hb7
 have hK7:Lies o2 w7 v [e3]:=Lies.of_new hE (fun k hk=>hR6.md.off hk)
 obtain ⟨a2,c2,rfl⟩:=hE.slice
 simp only [List.length_cons,List.length_nil,Nat.zero_add] at hK7 ⊢
 clear hR6 hb7 hE hL6
 have hap:=hR7.apply e4_ok
 rw [ve4,a_i] at hap
 go_wp2_with fail
 refine hap.mono ?_
 clear hap
 rintro e w8 ⟨rfl,o3,hG8,hR8⟩
 have hL8:=hL7.goes hG8
 have hK8:=hK7.goes hG8
 change Runs w o3 A m3 w8 at hR8
 clear hR7 hL7 hK7 hG8
 have hap:=hR8.apply e3_ok
 rw [ve3,a_j] at hap
 go_wp2_with fail
 refine hap.mono ?_
 clear hap
 rintro e w9 ⟨rfl,o4,hG9,hR9⟩
 have hL9:=hL8.goes hG9
 have hK9:=hK8.goes hG9
 change Runs w o4 A m4 w9 at hR9
 clear hR8 hL8 hK8 hG9
 have htk:Calls Tryz.prog 20 #[ptrV A,.int .i64 1] w9 _:=task_any 1 w9 hR9.md (by rw [a_n];decide)
 rw [a_x,a_is,vp5] at htk
 go_wp2_with fail
 refine htk.mono ?_
 clear htk
 rintro e w10 ⟨rfl,hb10⟩
 obtain ⟨w11,hw11⟩:∃ w11,w11=w10.alloc (.cells #[.int .u8 1,.int .i64 1,.int .i64 1,.int .i64 0,.int .i64 0,.int .i64 1,.int .i64 0,.int .i64 0,.int .i64 0,.int .i64 0,.int .i64 0] 63):=⟨_,rfl⟩
 have hb11:Below w9.heap.size w9 w11:=by rw [hw11];exact Mch.Below.al hb10 hb10.size _
 have hX11:Blk w11 w10.heap.size 63 #[.int .u8 1,.int .i64 1,.int .i64 1,.int .i64 0,.int .i64 0,.int .i64 1,.int .i64 0,.int .i64 0,.int .i64 0,.int .i64 0,.int .i64 0]:=by rw [hw11];exact blk_new w10 _ _
 have hR11:=hR9.below hb11
 have hL11:=hL9.below hb11
 have hK11:=hK9.below hb11
 have hta:Calls Tryz.prog 21 #[ptrV A] w11 _:=tasks_any w11 hR11.md (by rw [a_n];decide)
 rw [a_n] at hta
 have hbel:=hR11.bel
 obtain ⟨b1,f1,rfl,hy⟩:=lies_cells vl0 hL11
 obtain ⟨b2,f2,rfl,hz⟩:=lies_cells vl3 hK11
 have y0:w11.cell? ⟨b1,f1,none⟩=some (.int .i64 0):=hy 0 _ rfl
 have y1:w11.cell? ⟨b1,f1+1,none⟩=some (.int .u8 9):=hy 1 _ rfl
 have y2:w11.cell? ⟨b1,f1+2,none⟩=some (.int .i64 0):=hy 2 _ rfl
 have y3:w11.cell? ⟨b1,f1+3,none⟩=some (.int .i64 0):=hy 3 _ rfl
 have y4:w11.cell? ⟨b1,f1+4,none⟩=some (.int .i64 1):=hy 4 _ rfl
 have y5:w11.cell? ⟨b1,f1+5,none⟩=some (.int .i64 0):=hy 5 _ rfl
 have y6:w11.cell? ⟨b1,f1+6,none⟩=some (.int .i64 1):=hy 6 _ rfl
 have y7:w11.cell? ⟨b1,f1+7,none⟩=some (.int .i64 0):=hy 7 _ rfl
 have y8:w11.cell? ⟨b1,f1+8,none⟩=some (.int .i64 0):=hy 8 _ rfl
 have y9:w11.cell? ⟨b1,f1+9,none⟩=some (.int .i64 0):=hy 9 _ rfl
 have y10:w11.cell? ⟨b1,f1+10,none⟩=some (.bool false):=hy 10 _ rfl
 have y11:w11.cell? ⟨b1,f1+11,none⟩=some (.int .i64 0):=hy 11 _ rfl
 have y12:w11.cell? ⟨b1,f1+12,none⟩=some (.int .u64 0):=hy 12 _ rfl
 have z0:w11.cell? ⟨b2,f2,none⟩=some (.int .i64 0):=hz 0 _ rfl
 have z1:w11.cell? ⟨b2,f2+1,none⟩=some (.int .u8 3):=hz 1 _ rfl
 have z2:w11.cell? ⟨b2,f2+2,none⟩=some (.int .i64 0):=hz 2 _ rfl
 have z3:w11.cell? ⟨b2,f2+3,none⟩=some (.int .i64 1):=hz 3 _ rfl
 have z4:w11.cell? ⟨b2,f2+4,none⟩=some (.int .i64 0):=hz 4 _ rfl
 have z5:w11.cell? ⟨b2,f2+5,none⟩=some (.int .i64 0):=hz 5 _ rfl
 have z6:w11.cell? ⟨b2,f2+6,none⟩=some (.int .i64 (-1)):=hz 6 _ rfl
 have z7:w11.cell? ⟨b2,f2+7,none⟩=some (.int .i64 (-1)):=hz 7 _ rfl
 have z8:w11.cell? ⟨b2,f2+8,none⟩=some (.int .i64 0):=hz 8 _ rfl
 have z9:w11.cell? ⟨b2,f2+9,none⟩=some (.int .i64 0):=hz 9 _ rfl
 have z10:w11.cell? ⟨b2,f2+10,none⟩=some (.bool false):=hz 10 _ rfl
 have z11:w11.cell? ⟨b2,f2+11,none⟩=some (.int .i64 0):=hz 11 _ rfl
 have z12:w11.cell? ⟨b2,f2+12,none⟩=some (.int .u64 0):=hz 12 _ rfl
 have q1:=qe0
 have q2:=qe3
 have q3:=qp5
 clear hy hz
 clear hR9 hL9 hK9 hR11 hL11 hK11
 have p0:w11.cell? ⟨w10.heap.size,0,none⟩=some (.int .u8 1):=hX11.cell rfl
 have p1:w11.cell? ⟨w10.heap.size,1,none⟩=some (.int .i64 1):=hX11.cell rfl
 have p2:w11.cell? ⟨w10.heap.size,2,none⟩=some (.int .i64 1):=hX11.cell rfl
 have p3:w11.cell? ⟨w10.heap.size,3,none⟩=some (.int .i64 0):=hX11.cell rfl
 have p4:w11.cell? ⟨w10.heap.size,4,none⟩=some (.int .i64 0):=hX11.cell rfl
 have p5:w11.cell? ⟨w10.heap.size,5,none⟩=some (.int .i64 1):=hX11.cell rfl
 have p6:w11.cell? ⟨w10.heap.size,6,none⟩=some (.int .i64 0):=hX11.cell rfl
 have p7:w11.cell? ⟨w10.heap.size,7,none⟩=some (.int .i64 0):=hX11.cell rfl
 have p8:w11.cell? ⟨w10.heap.size,8,none⟩=some (.int .i64 0):=hX11.cell rfl
 have p9:w11.cell? ⟨w10.heap.size,9,none⟩=some (.int .i64 0):=hX11.cell rfl
 have p10:w11.cell? ⟨w10.heap.size,10,none⟩=some (.int .i64 0):=hX11.cell rfl
 clear hX11
 go_upto_region 12 with fail
 rw [<- hw11]
 clear hw11 hb10 hb11
 go_wp2_with fail
 refine hta.mono ?_
 rintro e w12 ⟨rfl,hb12⟩
 have hB:=below_nx hbel hb12 (Nat.le_refl _)
 clear hta
 go_wp2_with fail
 go_ret
 exact ⟨rfl,hB⟩
open Go.RowKit
def leavesF (l:List In):Nat->Nat->Bool->Bool
 | 0,_,is=>is
 | n+1,i,is=>match l[i]? with
  | none=>is
  | some x=>if x.o=3 \/ x.o=4 then false else leavesF l n (i+1) (is || decide (4<x.o))
theorem leaves_any {lo hi:Nat} {a:Option Addr} {c n:Nat} {l:List In} (f t:Nat) (w:World) (h:CodeAt lo hi w (.slice a n c) l) (ht:t<=l.length) (hl:l.length<=100000) :
  Calls Tryz.prog 44 #[.slice a n c,.int .i64 (f:Int),.int .i64 (t:Int)] w fun e w'=>e=.returned (.bool (leavesF l (t - f) f false))/\w'=w:=by
 obtain ⟨r,hr⟩:∃ r,r=leavesF l (t - f) f false:=⟨_,rfl⟩
 rw [<- hr]
 obtain ⟨a',c',hs⟩:=h.slice
 cases hs
 have HR:=Lib.hid hr
 clear hr
 go_enter Tryz.func44,Tryz.ntmps44
 go_wp2_with fail
 go_loop [7,8] (fun bv iv=>∃ (b:Bool) (i:Nat),bv=.bool b/\iv=.int .i64 (i:Int)/\Hid (r=leavesF l (t - i) i b)) (fun _ iv=>t - (intOf iv).toNat)
 case atStart=>exact ⟨false,f,rfl,rfl,HR⟩
 case round=>
  obtain ⟨b,i,rfl,rfl,HI⟩:=hrel
  by_cases hlt:i<t
  ·have hlt':(i:Int)<(t:Int):=by omega
   have q0:(0:Int)<=(i:Int):=by omega
   have q1:(i:Int)<(l.length:Int):=by omega
   have hw1:IntKind.i64.wrap ((i:Int)+1)=(i:Int)+1:=by rw [IntKind.wrap_i64];omega
   obtain ⟨B,off,x,rfl,-, -, hx,hok,x0,-⟩:=h.at (show i<l.length by omega)
   have ho:=hok.o
   have hstep:leavesF l (t - i) i b=if x.o=3 \/ x.o=4 then false else leavesF l (t - (i+1)) (i+1) (b || decide (4<x.o)):=by
    rw [show t - i=(t - (i+1))+1 by omega,leavesF,hx]
   clear hx hok
   by_cases h3:x.o=3
   ·have e3:((x.o:Int) == 3)=true:=by rw [h3];rfl
    have HF:Hid (r=false):=Lib.hid (by rw [HI.out,hstep,if_pos (.inl h3)])
    rw [h3] at x0
    clear hstep h3 ho
    go_wp2_with fail
    go_ret
    rw [HF.out]
    exact ⟨rfl,rfl⟩
   ·have e3:((x.o:Int) == 3)=false:=by simp;omega
    by_cases h4:x.o=4
    ·have e4:((x.o:Int) == 4)=true:=by rw [h4];rfl
     have HF:Hid (r=false):=Lib.hid (by rw [HI.out,hstep,if_pos (.inr h4)])
     rw [h4] at x0
     clear hstep h3 h4 ho e3 e4
     go_wp2_with fail
     go_ret
     rw [HF.out]
     exact ⟨rfl,rfl⟩
    ·have e4:((x.o:Int) == 4)=false:=by simp;omega
     cases b with
     | true=>
      have HF:Hid (r=leavesF l (t - (i+1)) (i+1) true):=Lib.hid (by rw [HI.out,hstep,if_neg (by omega)];rfl)
      clear hstep h3 h4 HI
      go_wp2_with fail
      go_round
      case rel=>exact ⟨true,i+1,rfl,by go_num,HF⟩
      case measure=>simp [intOf];omega
     | false=>
      by_cases h5:4<x.o
      ·have d5:decide ((4:Int)<(x.o:Int))=true:=by simp;omega
       have d5':(4:Int)<(x.o:Int):=by omega
       have HF:Hid (r=leavesF l (t - (i+1)) (i+1) true):=Lib.hid (by rw [HI.out,hstep,if_neg (by omega)];simp [h5])
       clear hstep h3 h4 HI h5
       go_wp2_with fail
       go_round
       case rel=>exact ⟨true,i+1,by first | rfl | simp [d5],by go_num,HF⟩
       case measure=>simp [intOf];omega
      ·have d5:decide ((4:Int)<(x.o:Int))=false:=by simp;omega
       have d5' : ¬ (4:Int)<(x.o:Int):=by omega
       have HF:Hid (r=leavesF l (t - (i+1)) (i+1) false):=Lib.hid (by rw [HI.out,hstep,if_neg (by omega)];simp [h5])
       clear hstep h3 h4 HI h5
       go_wp2_with fail
       go_round
       case rel=>exact ⟨false,i+1,by first | rfl | simp [d5],by go_num,HF⟩
       case measure=>simp [intOf];omega
  ·have HF:Hid (r=b):=Lib.hid (by rw [HI.out,show t - i=0 by omega];rfl)
   have hlt' : ¬ (i:Int)<(t:Int):=by omega
   clear HI
   go_wp2_with fail
   go_ret
   rw [HF.out]
   exact ⟨rfl,rfl⟩
end Go.Proofs.YtnfbncgfpmcpnaaGreat.Mdl
