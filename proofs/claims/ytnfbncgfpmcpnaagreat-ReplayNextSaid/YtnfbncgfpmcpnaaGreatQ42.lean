/-
  ReplayNext: its walks, part 42.
-/
import Derived.Test.YtnfbncgfpmcpnaaGreatQ35
set_option maxRecDepth 100000
set_option maxHeartbeats 12800000
namespace Go.Proofs.YtnfbncgfpmcpnaaGreat.Mdl
open Go.RowKit
open Ent (En EnRow okB)
def setA (y:En) (a:Int):En:={ y with a:=a }
theorem at0_setA (y:En) (a:Int):En.at0 (setA y a)=En.at0 y:=rfl
theorem step_ok {r:Rn} {x:En} (he:r.e=0) (h:(r.step x).e=0):okB x=true/\r.a<=x.a/\doE r.M x=0/\r.step x=⟨doM r.M x,r.d+1,x.a,0⟩:=by
 by_cases hj:judgeE r.a x=0
 ·have hs:r.sees x:=⟨he,hj⟩
  rw [Rn.step_sees hs] at h ⊢
  unfold Rn.do_ at h ⊢
  by_cases hd:doE r.M x=0
  ·rw [if_pos hd]
   unfold judgeE at hj
   by_cases hb:okB x=false
   ·rw [if_pos hb] at hj;exact absurd hj (by decide)
   ·rw [if_neg hb] at hj
    by_cases hl:x.a<r.a
    ·rw [if_pos hl] at hj;exact absurd hj (by decide)
    ·exact ⟨by simpa using hb,by omega,hd,rfl⟩
  ·rw [if_neg hd] at h;exact absurd h hd
 ·rw [Rn.step_wrong he hj] at h
  exact absurd h hj
theorem step_of {r:Rn} {x:En} (he:r.e=0) (hb:okB x=true) (ha:r.a<=x.a) (hd:doE r.M x=0):r.step x=⟨doM r.M x,r.d+1,x.a,0⟩:=by
 have hs:r.sees x:=⟨he,by unfold judgeE;rw [if_neg (by rw [hb];decide),if_neg (by omega)]⟩
 rw [Rn.step_sees hs];unfold Rn.do_;rw [if_pos hd]
theorem go_ok (r:Rn):∀ l:List En,r.e=0->(r.go l).e=0->(r.go l).d=r.d+l.length/\r.a<=(r.go l).a:=by
 intro l
 induction l generalizing r with
 | nil=>intro _ _;exact ⟨rfl,Int.le_refl _⟩
 | cons x t ih=>
  intro he h
  have hg:r.go (x::t)=(r.step x).go t:=rfl
  rw [hg] at h ⊢
  have he1:(r.step x).e=0:=by
   by_cases e:(r.step x).e=0
   ·exact e
   ·rw [Rn.go_bad e] at h;exact absurd h e
  obtain ⟨_,h2,_,h4⟩:=step_ok he he1
  have:=ih (r.step x) he1 h
  rw [h4] at this ⊢
  simp only at this
  refine ⟨?_,by omega⟩
  rw [this.1,List.length_cons];omega
theorem go_last (r:Rn) (l:List En) {k:Nat} {x:En} (hk:l[k]?=some x) (hl:l.length=k+1) (h:(r.go l).e=0):(r.go l).a=x.a:=by
 have h1:=Rn.go_snoc r l hk
 rw [List.take_of_length_le (by omega)] at h1
 have he1:(r.go (l.take k)).e=0:=by
  by_cases e:(r.go (l.take k)).e=0
  ·exact e
  ·rw [Rn.go_stays l k e] at h;exact absurd h e
 rw [h1] at h ⊢
 rw [(step_ok he1 h).2.2.2]
theorem next_ok {r:Rn} (hI:Inv r.M) (he:r.e=0) (ha:0<=r.a) {t:Int} {y:En} (hy:y ∈ r.M.moves t):r.step (setA y r.a)=⟨doM r.M (setA y r.a),r.d+1,r.a,0⟩:=by
 obtain ⟨hm,_,_⟩:=moves_ok hI y hy
 have h0:=at0_move hm
 have hz:En.at0 (setA y r.a)=y:=by rw [at0_setA,h0]
 have hb:okB (setA y r.a)=true:=ok_at0.2 ⟨by rw [hz];exact hm.ok,ha⟩
 refine step_of he hb (Int.le_refl _) ?_
 unfold doE
 rw [if_pos (show comB (setA y r.a).k=true by unfold comB;have:=hm.k;show (decide (1<=y.k) && decide (y.k<=11))=true;simp [this.1,this.2])]
 refine (applyE_zero hI).2 ⟨?_,ha⟩
 show En.at0 (setA y r.a) ∈ r.M.moves y.t
 rw [hz,hm.tt];exact hy
def isA (L:List En) (x:En) (c:Nat):Bool:=(L.take c).any fun y=>Ent.En.eq y (En.at0 x)
theorem isA_snoc (L:List En) (x:En) {c:Nat} {y:En} (hy:L[c]?=some y):isA L x (c+1)=(isA L x c || Ent.En.eq y (En.at0 x)):=by
 unfold isA
 rw [List.take_add_one,hy,Option.toList_some,List.any_append]
 simp
theorem next_is {r:Rn} (hI:Inv r.M) (he:r.e=0) (ha:0<=r.a) (x:En) (hk:x.k<=11):((r.step x).e == 0)=(isA (r.M.moves x.t) x (r.M.moves x.t).length && decide (r.a<=x.a)):=by
 rw [Bool.eq_iff_iff,beq_iff_eq,Bool.and_eq_true,decide_eq_true_iff]
 unfold isA
 rw [List.take_length,List.any_eq_true]
 constructor
 ·intro h
  obtain ⟨hb,h2,hd,_⟩:=step_ok he h
  have hkn:1<=x.k:=by
   have h1:=(Ent.okB_iff.1 hb).1
   have:((1<=x.k/\x.k<=11) \/ (21<=x.k/\x.k<=26)):=by simpa [Ent.known] using h1
   omega
  unfold doE at hd
  rw [if_pos (show comB x.k=true by unfold comB;simp [hkn,hk])] at hd
  exact ⟨⟨_,((applyE_zero hI).1 hd).1,Ent.En.eq_iff.2 rfl⟩,h2⟩
 ·rintro ⟨⟨y,h1,h3⟩,h2⟩
  rw [Ent.En.eq_iff.1 h3] at h1
  obtain ⟨hm,_,_⟩:=moves_ok hI _ h1
  have h0:0<=x.a:=by omega
  have hb:okB x=true:=ok_at0.2 ⟨hm.ok,h0⟩
  have hd:doE r.M x=0:=by
   unfold doE
   have hk':=hm.k
   rw [if_pos (show comB x.k=true by unfold comB;have h5:1<=x.k:=hk'.1;simp [h5,hk])]
   exact (applyE_zero hI).2 ⟨h1,h0⟩
  rw [step_of he hb h2 hd]
open Go.RowKit
def leavesF (l:List In):Nat->Nat->Bool->Bool
 | 0,_,is=>is
 | n+1,i,is=>match l[i]? with
  | none=>is
  | some x=>if x.o=3 \/ x.o=4 then false else leavesF l n (i+1) (is || decide (4<x.o))
theorem leaves_any {lo hi:Nat} {a:Option Addr} {c n:Nat} {l:List In} (f t:Nat) (w:World) (h:CodeAt lo hi w (.slice a n c) l) (ht:t<=l.length) (hl:l.length<=100000) :
  Calls Tryz.prog 44 #[.slice a n c,.int .i64 (f:Int),.int .i64 (t:Int)] w fun e w'=>e=.returned (.bool (leavesF l (t - f) f false))/\w'=w:=by
 obtain ⟨r,hr⟩:∃ r,r=leavesF l (t - f) f false:=⟨_,rfl⟩
 rw [<- hr]
 obtain ⟨a',c',hs⟩:=h.slice
 cases hs
 have HR:=Lib.hid hr
 clear hr
 go_enter Tryz.func44,Tryz.ntmps44
 go_wp2_with fail
 go_loop [7,8] (fun bv iv=>∃ (b:Bool) (i:Nat),bv=.bool b/\iv=.int .i64 (i:Int)/\Hid (r=leavesF l (t - i) i b)) (fun _ iv=>t - (intOf iv).toNat)
 case atStart=>exact ⟨false,f,rfl,rfl,HR⟩
 case round=>
  obtain ⟨b,i,rfl,rfl,HI⟩:=hrel
  by_cases hlt:i<t
  ·have hlt':(i:Int)<(t:Int):=by omega
   have q0:(0:Int)<=(i:Int):=by omega
   have q1:(i:Int)<(l.length:Int):=by omega
   have hw1:IntKind.i64.wrap ((i:Int)+1)=(i:Int)+1:=by rw [IntKind.wrap_i64];omega
   obtain ⟨B,off,x,rfl,-, -, hx,hok,x0,-⟩:=h.at (show i<l.length by omega)
   have ho:=hok.o
   have hstep:leavesF l (t - i) i b=if x.o=3 \/ x.o=4 then false else leavesF l (t - (i+1)) (i+1) (b || decide (4<x.o)):=by
    rw [show t - i=(t - (i+1))+1 by omega,leavesF,hx]
   clear hx hok
   by_cases h3:x.o=3
   ·have e3:((x.o:Int) == 3)=true:=by rw [h3];rfl
    have HF:Hid (r=false):=Lib.hid (by rw [HI.out,hstep,if_pos (.inl h3)])
    rw [h3] at x0
    clear hstep h3 ho
    go_wp2_with fail
    go_ret
    rw [HF.out]
    exact ⟨rfl,rfl⟩
   ·have e3:((x.o:Int) == 3)=false:=by simp;omega
    by_cases h4:x.o=4
    ·have e4:((x.o:Int) == 4)=true:=by rw [h4];rfl
     have HF:Hid (r=false):=Lib.hid (by rw [HI.out,hstep,if_pos (.inr h4)])
     rw [h4] at x0
     clear hstep h3 h4 ho e3 e4
     go_wp2_with fail
     go_ret
     rw [HF.out]
     exact ⟨rfl,rfl⟩
    ·have e4:((x.o:Int) == 4)=false:=by simp;omega
     cases b with
     | true=>
      have HF:Hid (r=leavesF l (t - (i+1)) (i+1) true):=Lib.hid (by rw [HI.out,hstep,if_neg (by omega)];rfl)
      clear hstep h3 h4 HI
      go_wp2_with fail
      go_round
      case rel=>exact ⟨true,i+1,rfl,by go_num,HF⟩
      case measure=>simp [intOf];omega
     | false=>
      by_cases h5:4<x.o
      ·have d5:decide ((4:Int)<(x.o:Int))=true:=by simp;omega
       have d5':(4:Int)<(x.o:Int):=by omega
       have HF:Hid (r=leavesF l (t - (i+1)) (i+1) true):=Lib.hid (by rw [HI.out,hstep,if_neg (by omega)];simp [h5])
       clear hstep h3 h4 HI h5
       go_wp2_with fail
       go_round
       case rel=>exact ⟨true,i+1,by first | rfl | simp [d5],by go_num,HF⟩
       case measure=>simp [intOf];omega
      ·have d5:decide ((4:Int)<(x.o:Int))=false:=by simp;omega
       have d5' : ¬ (4:Int)<(x.o:Int):=by omega
       have HF:Hid (r=leavesF l (t - (i+1)) (i+1) false):=Lib.hid (by rw [HI.out,hstep,if_neg (by omega)];simp [h5])
       clear hstep h3 h4 HI h5
       go_wp2_with fail
       go_round
       case rel=>exact ⟨false,i+1,by first | rfl | simp [d5],by go_num,HF⟩
       case measure=>simp [intOf];omega
  ·have HF:Hid (r=b):=Lib.hid (by rw [HI.out,show t - i=0 by omega];rfl)
   have hlt' : ¬ (i:Int)<(t:Int):=by omega
   clear HI
   go_wp2_with fail
   go_ret
   rw [HF.out]
   exact ⟨rfl,rfl⟩
open Go.RowKit
open Mch (below1 below_nx)
def SlowPost (w:World) (e:Ending) (w':World):Prop:=∃ b:Bool,e=.returned (.bool b)/\Below w.heap.size w w'
abbrev insAr (x:In):Array Value:=#[.int .u8 (x.o:Int),.int .i64 x.a,.int .i64 x.b,.int .i64 x.c,.int .i64 x.k]
theorem maxE (a:Int) (f:Nat) (h:max a 0=(f:Int)):(a<=0/\f=0) \/ (0<=a/\a=(f:Int)):=by omega
theorem slow_any {lo hi:Nat} {v1 v2 v3:Value} {p:Prg} (w:World) (h:PrgAt lo hi w v1 v2 v3 p) (hT:Tame p) :
  Calls Tryz.prog 18 #[.agg #[v1,v2,v3]] w (SlowPost w):=by
 obtain ⟨a1,c1,rfl⟩:=h.caps.slice
 obtain ⟨a2,c2,rfl⟩:=h.codes.slice
 obtain ⟨a3,c3,rfl⟩:=h.sites.slice
 obtain ⟨w1,hw1⟩:∃ w1,w1=w.alloc (.cells #[.slice a1 p.caps.length c1,.slice a2 p.codes.length c2,.slice a3 p.sites.length c3] 26):=⟨_,rfl⟩
 have hB1:Below w.heap.size w w1:=by rw [hw1];exact below1 w _
 have hX1:Blk w1 w.heap.size 26 #[.slice a1 p.caps.length c1,.slice a2 p.codes.length c2,.slice a3 p.sites.length c3]:=by rw [hw1];exact blk_new w _ _
 have hP1:=h.later hB1
 have hcode:=hT.code
 have hcl:=hT.codes
 clear h hT
 go_enter Tryz.func18,Tryz.ntmps18
 go_upto_region 1 with fail
 rw [<- hw1]
 clear hw1
 go_wp2_with fail
 go_loopw [2,3] (fun _ iv wr=>∃ i:Nat,i<=p.codes.length/\iv=.int .i64 (i:Int)/\Below w1.heap.size w1 wr) (fun _ iv _=>p.codes.length - (intOf iv).toNat)
 case atStart=>exact ⟨0,Nat.zero_le _,rfl,Below.refl _ _⟩
 case round=>
  obtain ⟨i,hil,rfl,hB⟩:=hrel
  have x1:wr.cell? ⟨w.heap.size,1,none⟩=some (.slice a2 p.codes.length c2):=Blk.cell (Blk.later hX1 hB hX1.lt) rfl
  by_cases hlt:i<p.codes.length
  ·have hlt':(i:Int)<(p.codes.length:Int):=by omega
   have q0:(0:Int)<=(i:Int):=by omega
   have q20:(i:Int)<20:=by omega
   have d20:decide ((i:Int)<20)=true:=by simpa using q20
   have hwi:IntKind.i64.wrap ((i:Int)+1)=(i:Int)+1:=by rw [IntKind.wrap_i64];omega
   go_wp2_with fail
   obtain ⟨wo,rfl⟩:∃ wo:World,wo=wr:=⟨_,rfl⟩
   clear x1
   go_loopw [2,4] (fun _ iv wr=>∃ k:Nat,k<=100/\iv=.int .i64 (k:Int)/\Below w1.heap.size w1 wr) (fun _ iv _=>100 - (intOf iv).toNat)
   case atStart=>exact ⟨0,Nat.zero_le _,rfl,hB⟩
   case round=>
    clear hB
    obtain ⟨k,hk,rfl,hB⟩:=hrel
    have x1:wr.cell? ⟨w.heap.size,1,none⟩=some (.slice a2 p.codes.length c2):=Blk.cell (Blk.later hX1 hB hX1.lt) rfl
    obtain ⟨b,off,ra,rc,l,rfl,-, hbh,hl,hc,hC⟩:=(hP1.later hB).codes.at hlt
    have hll:=hcode l (List.mem_of_getElem? hl)
    have k0:(0:Int)<=(k:Int):=by omega
    have hwk:IntKind.i64.wrap ((k:Int)+1)=(k:Int)+1:=by rw [IntKind.wrap_i64];omega
    clear hl
    by_cases hkl:k<l.length
    ·have hkl':(k:Int)<(l.length:Int):=by omega
     have k100:(k:Int)<100:=by omega
     have d100:decide ((k:Int)<100)=true:=by simpa using k100
     obtain ⟨B,of2,x,rfl,-, -, hx,hok,y0,y1,y2,y3,y4⟩:=hC.at hkl
     have ho:=hok.o
     obtain ⟨w4,hw4⟩:∃ w4,w4=wr.alloc (.cells (insAr x) 95):=⟨_,rfl⟩
     have hB4:Below w1.heap.size w1 w4:=by rw [hw4];exact Mch.Below.al hB hB.size _
     have hb4:Below wr.heap.size wr w4:=by rw [hw4];exact below1 wr _
     have hX4:Blk w4 wr.heap.size 95 (insAr x):=by rw [hw4];exact blk_new wr _ _
     have hC4:CodeAt lo hi w4 (.slice (some ⟨B,of2,none⟩) l.length rc) l:=hC.stay (stay_below' hb4 (by have:=(hP1.later hB).top;exact this))
     have z0:w4.cell? ⟨wr.heap.size,0,none⟩=some (.int .u8 (x.o:Int)):=hX4.cell rfl
     have z4:w4.cell? ⟨wr.heap.size,4,none⟩=some (.int .i64 x.k):=hX4.cell rfl
     have zz0:w4.drew.cell? ⟨wr.heap.size,0,none⟩=some (.int .u8 (x.o:Int)):=z0
     have zz4:w4.drew.cell? ⟨wr.heap.size,4,none⟩=some (.int .i64 x.k):=z4
     have hcc:w4.cell? ⟨b,off+i,none⟩=some (.slice (some ⟨B,of2,none⟩) l.length rc):=(hb4.cell (Nat.lt_of_lt_of_le hbh (hP1.later hB).top)).trans hc
     have x4:w4.cell? ⟨w.heap.size,1,none⟩=some (.slice (some ⟨b,off,none⟩) p.codes.length c2):=Blk.cell (Blk.later hX1 hB4 hX1.lt) rfl
     clear hx hok
     go_upto_region 8 with fail
     rw [<- hw4]
     clear hw4 x1 hc y0 y1 y2 y3 y4
     have hB5:∀ n,Below w.heap.size w (w4.drewN n):=fun n=>Mch.below_drewN (below_nx hB1 hB4 (Nat.le_refl _)) n
     have hB6:∀ n,Below w1.heap.size w1 (w4.drewN n):=fun n=>Mch.below_drewN hB4 n
     by_cases hj:x.o=3 \/ x.o=4
     ·have hj3:(x.o=3/\((x.o:Int) == 3)=true) \/ (((x.o:Int) == 3)=false/\((x.o:Int) == 4)=true):=by
       rcases hj with e | e
       ·left;rw [e];exact ⟨rfl,rfl⟩
       ·right;rw [e];exact ⟨rfl,rfl⟩
      by_cases hK:x.k<=(k:Int)
      ·have dK:decide (x.k<=(k:Int))=true:=by simpa using hK
       obtain ⟨f,hf⟩:∃ f:Nat,max x.k 0=(f:Int):=⟨(max x.k 0).toNat,by omega⟩
       have hmx:=maxE x.k f hf
       have hC5:CodeAt lo hi w4.drew (.slice (some ⟨B,of2,none⟩) l.length rc) l:=hC4.stay (stay_below' (Below.refl _ _).drew (by have:=((hP1.later hB4)).top;exact this))
       have hlv:=leaves_any f k w4.drew hC5 (by omega) (by omega)
       obtain ⟨r,hr⟩:∃ r,r=leavesF l (k - f) f false:=⟨_,rfl⟩
       rw [<- hr] at hlv
       clear hr hj ho hC hC4 hC5
       obtain ⟨X,hX⟩:∃ X,X=wr.heap.size:=⟨_,rfl⟩
       have hSS:w4.drew.cell? ⟨X,0,none⟩=some (.int .u8 (x.o:Int))/\w4.drew.cell? ⟨X,4,none⟩=some (.int .i64 x.k)/\w4.drew.cell? ⟨w.heap.size,1,none⟩=some (.slice (some ⟨b,off,none⟩) p.codes.length c2)/\w4.drew.cell? ⟨b,off+i,none⟩=some (.slice (some ⟨B,of2,none⟩) l.length rc):=⟨by rw [hX];exact zz0,by rw [hX];exact zz4,x4,hcc⟩
       rw [<- hX]
       clear hX zz0 zz4 z0 z4 x4 hcc
       rcases hj3 with ⟨e0,e3⟩ | ⟨e3,e4⟩
       ·clear e0
        refine wp_region_held_drew (S:=fun W=>W.cell? ⟨X,0,none⟩=some (.int .u8 (x.o:Int))/\W.cell? ⟨X,4,none⟩=some (.int .i64 x.k)/\W.cell? ⟨w.heap.size,1,none⟩=some (.slice (some ⟨b,off,none⟩) p.codes.length c2)/\W.cell? ⟨b,off+i,none⟩=some (.slice (some ⟨B,of2,none⟩) l.length rc)) (by kernel_rfl) hSS (fun hHeld=>?_)
        refine takeD (i:=0) (d:=some 39) (v:=.pointer (some ⟨X,0,none⟩)) (by kernel_rfl) (by kernel_rfl) (by kernel_rfl) (by kernel_rfl) (fun _ _ _ h=>h) (fun oi h=>?_) hHeld ?_
        ·simp only [uA,uZ,Option.some.injEq] at h
         subst h
         refine Or.inl ⟨by rfl,fun w' hSw=>?_⟩
         obtain ⟨x0,x1,x2,x3⟩:=hSw
         go_simp
        try simp only [Act.put,tA,tZ,tS]
        refine takeD (i:=1) (d:=some 40) (v:=.int .u8 (x.o:Int)) (by kernel_rfl) (by kernel_rfl) (by kernel_rfl) (by kernel_rfl) (fun _ _ _ h=>h) (fun oi h=>?_) hHeld ?_
        ·simp only [uA,uS,uZ,Option.some.injEq] at h
         subst h
         refine Or.inl ⟨by rfl,fun w' hSw=>?_⟩
         obtain ⟨x0,x1,x2,x3⟩:=hSw
         go_simp
        try simp only [Act.put,tA,tZ,tS]
        refine takeD (i:=2) (d:=some 41) (v:=.bool true) (by kernel_rfl) (by kernel_rfl) (by kernel_rfl) (by kernel_rfl) (fun _ _ _ h=>h) (fun oi h=>?_) hHeld ?_
        ·simp only [uA,uS,uZ,Option.some.injEq] at h
         subst h
         refine Or.inl ⟨by rfl,fun w' hSw=>?_⟩
         obtain ⟨x0,x1,x2,x3⟩:=hSw
         go_simp
        try simp only [Act.put,tA,tZ,tS]
        refine takeD (i:=3) (d:=some 42) (v:=.bool true) (by kernel_rfl) (by kernel_rfl) (by kernel_rfl) (by kernel_rfl) (fun _ _ _ h=>h) (fun oi h=>?_) hHeld ?_
        ·simp only [uA,uS,uZ,Option.some.injEq] at h
         subst h
         refine Or.inl ⟨by rfl,fun w' hSw=>?_⟩
         obtain ⟨x0,x1,x2,x3⟩:=hSw
         go_simp
        try simp only [Act.put,tA,tZ,tS]
        refine takeD (i:=4) (d:=some 43) (v:=undef) (by kernel_rfl) (by kernel_rfl) (by kernel_rfl) (by kernel_rfl) (fun _ _ _ h=>h) (fun oi h=>?_) hHeld ?_
        ·simp only [uA,uS,uZ,Option.some.injEq] at h
         subst h
         exact Or.inr ⟨by rfl,rfl⟩
        try simp only [Act.put,tA,tZ,tS]
        refine takeD (i:=5) (d:=some 44) (v:=undef) (by kernel_rfl) (by kernel_rfl) (by kernel_rfl) (by kernel_rfl) (fun _ _ _ h=>h) (fun oi h=>?_) hHeld ?_
        ·simp only [uA,uS,uZ,Option.some.injEq] at h
         subst h
         exact Or.inr ⟨by rfl,rfl⟩
        try simp only [Act.put,tA,tZ,tS]
        refine takeD (i:=6) (d:=some 45) (v:=undef) (by kernel_rfl) (by kernel_rfl) (by kernel_rfl) (by kernel_rfl) (fun _ _ _ h=>h) (fun oi h=>?_) hHeld ?_
        ·simp only [uA,uS,uZ,Option.some.injEq] at h
         subst h
         exact Or.inr ⟨by rfl,rfl⟩
        try simp only [Act.put,tA,tZ,tS]
        refine takeD (i:=7) (d:=some 46) (v:=.bool true) (by kernel_rfl) (by kernel_rfl) (by kernel_rfl) (by kernel_rfl) (fun _ _ _ h=>h) (fun oi h=>?_) hHeld ?_
        ·simp only [uA,uS,uZ,Option.some.injEq] at h
         subst h
         refine Or.inl ⟨by rfl,fun w' hSw=>?_⟩
         obtain ⟨x0,x1,x2,x3⟩:=hSw
         go_simp
        try simp only [Act.put,tA,tZ,tS]
        refine takeD (i:=8) (d:=some 47) (v:=.bool true) (by kernel_rfl) (by kernel_rfl) (by kernel_rfl) (by kernel_rfl) (fun _ _ _ h=>h) (fun oi h=>?_) hHeld ?_
        ·simp only [uA,uS,uZ,Option.some.injEq] at h
         subst h
         refine Or.inl ⟨by rfl,fun w' hSw=>?_⟩
         obtain ⟨x0,x1,x2,x3⟩:=hSw
         go_simp
        try simp only [Act.put,tA,tZ,tS]
        refine takeD (i:=9) (d:=some 48) (v:=.pointer (some ⟨X,4,none⟩)) (by kernel_rfl) (by kernel_rfl) (by kernel_rfl) (by kernel_rfl) (fun _ _ _ h=>h) (fun oi h=>?_) hHeld ?_
        ·simp only [uA,uS,uZ,Option.some.injEq] at h
         subst h
         refine Or.inl ⟨by rfl,fun w' hSw=>?_⟩
         obtain ⟨x0,x1,x2,x3⟩:=hSw
         go_simp
        try simp only [Act.put,tA,tZ,tS]
        refine takeD (i:=10) (d:=some 49) (v:=.int .i64 x.k) (by kernel_rfl) (by kernel_rfl) (by kernel_rfl) (by kernel_rfl) (fun _ _ _ h=>h) (fun oi h=>?_) hHeld ?_
        ·simp only [uA,uS,uZ,Option.some.injEq] at h
         subst h
         refine Or.inl ⟨by rfl,fun w' hSw=>?_⟩
         obtain ⟨x0,x1,x2,x3⟩:=hSw
         go_simp
        try simp only [Act.put,tA,tZ,tS]
        refine takeD (i:=11) (d:=some 50) (v:=.int .i64 (k:Int)) (by kernel_rfl) (by kernel_rfl) (by kernel_rfl) (by kernel_rfl) (fun _ _ _ h=>h) (fun oi h=>?_) hHeld ?_
        ·simp only [uA,uS,uZ,Option.some.injEq] at h
         subst h
         refine Or.inl ⟨by rfl,fun w' hSw=>?_⟩
         obtain ⟨x0,x1,x2,x3⟩:=hSw
         go_simp
        try simp only [Act.put,tA,tZ,tS]
        refine takeD (i:=12) (d:=some 51) (v:=.bool true) (by kernel_rfl) (by kernel_rfl) (by kernel_rfl) (by kernel_rfl) (fun _ _ _ h=>h) (fun oi h=>?_) hHeld ?_
        ·simp only [uA,uS,uZ,Option.some.injEq] at h
         subst h
         refine Or.inl ⟨by rfl,fun w' hSw=>?_⟩
         obtain ⟨x0,x1,x2,x3⟩:=hSw
         go_simp
        try simp only [Act.put,tA,tZ,tS]
        refine takeD (i:=13) (d:=some 52) (v:=.bool true) (by kernel_rfl) (by kernel_rfl) (by kernel_rfl) (by kernel_rfl) (fun _ _ _ h=>h) (fun oi h=>?_) hHeld ?_
        ·simp only [uA,uS,uZ,Option.some.injEq] at h
         subst h
         refine Or.inl ⟨by rfl,fun w' hSw=>?_⟩
         obtain ⟨x0,x1,x2,x3⟩:=hSw
         go_simp
        try simp only [Act.put,tA,tZ,tS]
        refine takeD (i:=14) (d:=some 53) (v:=.bool true) (by kernel_rfl) (by kernel_rfl) (by kernel_rfl) (by kernel_rfl) (fun _ _ _ h=>h) (fun oi h=>?_) hHeld ?_
        ·simp only [uA,uS,uZ,Option.some.injEq] at h
         subst h
         refine Or.inl ⟨by rfl,fun w' hSw=>?_⟩
         obtain ⟨x0,x1,x2,x3⟩:=hSw
         go_simp
        try simp only [Act.put,tA,tZ,tS]
        refine takeD (i:=15) (d:=some 54) (v:=.pointer (some ⟨w.heap.size,1,none⟩)) (by kernel_rfl) (by kernel_rfl) (by kernel_rfl) (by kernel_rfl) (fun _ _ _ h=>h) (fun oi h=>?_) hHeld ?_
        ·simp only [uA,uS,uZ,Option.some.injEq] at h
         subst h
         refine Or.inl ⟨by rfl,fun w' hSw=>?_⟩
         obtain ⟨x0,x1,x2,x3⟩:=hSw
         go_simp
        try simp only [Act.put,tA,tZ,tS]
        refine takeD (i:=16) (d:=some 55) (v:=.slice (some ⟨b,off,none⟩) p.codes.length c2) (by kernel_rfl) (by kernel_rfl) (by kernel_rfl) (by kernel_rfl) (fun _ _ _ h=>h) (fun oi h=>?_) hHeld ?_
        ·simp only [uA,uS,uZ,Option.some.injEq] at h
         subst h
         refine Or.inl ⟨by rfl,fun w' hSw=>?_⟩
         obtain ⟨x0,x1,x2,x3⟩:=hSw
         go_simp
        try simp only [Act.put,tA,tZ,tS]
        refine takeD (i:=17) (d:=some 56) (v:=.int .i64 (i:Int)) (by kernel_rfl) (by kernel_rfl) (by kernel_rfl) (by kernel_rfl) (fun _ _ _ h=>h) (fun oi h=>?_) hHeld ?_
        ·simp only [uA,uS,uZ,Option.some.injEq] at h
         subst h
         refine Or.inl ⟨by rfl,fun w' hSw=>?_⟩
         obtain ⟨x0,x1,x2,x3⟩:=hSw
         go_simp
        try simp only [Act.put,tA,tZ,tS]
        refine takeD (i:=18) (d:=some 57) (v:=.pointer (some ⟨b,off+i,none⟩)) (by kernel_rfl) (by kernel_rfl) (by kernel_rfl) (by kernel_rfl) (fun _ _ _ h=>h) (fun oi h=>?_) hHeld ?_
        ·simp only [uA,uS,uZ,Option.some.injEq] at h
         subst h
         refine Or.inl ⟨by rfl,fun w' hSw=>?_⟩
         obtain ⟨x0,x1,x2,x3⟩:=hSw
         go_simp
        try simp only [Act.put,tA,tZ,tS]
        refine takeD (i:=19) (d:=some 58) (v:=.slice (some ⟨B,of2,none⟩) l.length rc) (by kernel_rfl) (by kernel_rfl) (by kernel_rfl) (by kernel_rfl) (fun _ _ _ h=>h) (fun oi h=>?_) hHeld ?_
        ·simp only [uA,uS,uZ,Option.some.injEq] at h
         subst h
         refine Or.inl ⟨by rfl,fun w' hSw=>?_⟩
         obtain ⟨x0,x1,x2,x3⟩:=hSw
         go_simp
        try simp only [Act.put,tA,tZ,tS]
        refine takeD (i:=20) (d:=some 59) (v:=.pointer (some ⟨X,4,none⟩)) (by kernel_rfl) (by kernel_rfl) (by kernel_rfl) (by kernel_rfl) (fun _ _ _ h=>h) (fun oi h=>?_) hHeld ?_
        ·simp only [uA,uS,uZ,Option.some.injEq] at h
         subst h
         refine Or.inl ⟨by rfl,fun w' hSw=>?_⟩
         obtain ⟨x0,x1,x2,x3⟩:=hSw
         go_simp
        try simp only [Act.put,tA,tZ,tS]
        refine takeD (i:=21) (d:=some 60) (v:=.int .i64 x.k) (by kernel_rfl) (by kernel_rfl) (by kernel_rfl) (by kernel_rfl) (fun _ _ _ h=>h) (fun oi h=>?_) hHeld ?_
        ·simp only [uA,uS,uZ,Option.some.injEq] at h
         subst h
         refine Or.inl ⟨by rfl,fun w' hSw=>?_⟩
         obtain ⟨x0,x1,x2,x3⟩:=hSw
         go_simp
        try simp only [Act.put,tA,tZ,tS]
        refine takeD (i:=22) (d:=some 61) (v:=.int .i64 (f:Int)) (by kernel_rfl) (by kernel_rfl) (by kernel_rfl) (by kernel_rfl) (fun _ _ _ h=>h) (fun oi h=>?_) hHeld ?_
        ·simp only [uA,uS,uZ,Option.some.injEq] at h
         subst h
         refine Or.inl ⟨by rfl,fun w' hSw=>?_⟩
         obtain ⟨x0,x1,x2,x3⟩:=hSw
         go_simp
         rcases hmx with e | e <;> split <;> omega
        try simp only [Act.put,tA,tZ,tS]
        refine takeD (i:=23) (d:=some 62) (v:=.int .i64 (k:Int)) (by kernel_rfl) (by kernel_rfl) (by kernel_rfl) (by kernel_rfl) (fun _ _ _ h=>h) (fun oi h=>?_) hHeld ?_
        ·simp only [uA,uS,uZ,Option.some.injEq] at h
         subst h
         refine Or.inl ⟨by rfl,fun w' hSw=>?_⟩
         obtain ⟨x0,x1,x2,x3⟩:=hSw
         go_simp
        try simp only [Act.put,tA,tZ,tS]
        refine wpAnyH_ready (rs:=[24]) (by kernel_rfl) (by simp) ?_
        refine AllReadyH.cons rfl (fun K hKK=>?_) AllReadyH.nil
        go_simp
        refine hlv.mono ?_
        rintro e w6 ⟨rfl,rfl⟩
        refine hKK.out _ _ hSS (fun hHeld=>?_)
        clear hKK K
        try simp only [Act.put,tA,tZ,tS]
        refine takeD (i:=25) (d:=some 64) (v:=.bool (!r)) (by kernel_rfl) (by kernel_rfl) (by kernel_rfl) (by kernel_rfl) (fun _ _ _ h=>h) (fun oi h=>?_) hHeld ?_
        ·simp only [uA,uS,uZ,Option.some.injEq] at h
         subst h
         refine Or.inl ⟨by rfl,fun w' hSw=>?_⟩
         obtain ⟨x0,x1,x2,x3⟩:=hSw
         go_simp
        try simp only [Act.put,tA,tZ,tS]
        refine takeD (i:=26) (d:=some 65) (v:=.bool (!r)) (by kernel_rfl) (by kernel_rfl) (by kernel_rfl) (by kernel_rfl) (fun _ _ _ h=>h) (fun oi h=>?_) hHeld ?_
        ·simp only [uA,uS,uZ,Option.some.injEq] at h
         subst h
         refine Or.inl ⟨by rfl,fun w' hSw=>?_⟩
         obtain ⟨x0,x1,x2,x3⟩:=hSw
         go_simp
        try simp only [Act.put,tA,tZ,tS]
        refine wpAnyH_done (by kernel_rfl) ?_ _
        cases r with
        | true=>
         go_wp2_with fail
         go_roundw
         case rel=>exact ⟨k+1,by omega,by go_num,hB6 1⟩
         case measure=>simp [intOf];omega
        | false=>
         go_wp2_with fail
         go_ret
         exact ⟨true,rfl,hB5 1⟩
       ·refine wp_region_held_drew (S:=fun W=>W.cell? ⟨X,0,none⟩=some (.int .u8 (x.o:Int))/\W.cell? ⟨X,4,none⟩=some (.int .i64 x.k)/\W.cell? ⟨w.heap.size,1,none⟩=some (.slice (some ⟨b,off,none⟩) p.codes.length c2)/\W.cell? ⟨b,off+i,none⟩=some (.slice (some ⟨B,of2,none⟩) l.length rc)) (by kernel_rfl) hSS (fun hHeld=>?_)
        refine takeD (i:=0) (d:=some 39) (v:=.pointer (some ⟨X,0,none⟩)) (by kernel_rfl) (by kernel_rfl) (by kernel_rfl) (by kernel_rfl) (fun _ _ _ h=>h) (fun oi h=>?_) hHeld ?_
        ·simp only [uA,uZ,Option.some.injEq] at h
         subst h
         refine Or.inl ⟨by rfl,fun w' hSw=>?_⟩
         obtain ⟨x0,x1,x2,x3⟩:=hSw
         go_simp
        try simp only [Act.put,tA,tZ,tS]
        refine takeD (i:=1) (d:=some 40) (v:=.int .u8 (x.o:Int)) (by kernel_rfl) (by kernel_rfl) (by kernel_rfl) (by kernel_rfl) (fun _ _ _ h=>h) (fun oi h=>?_) hHeld ?_
        ·simp only [uA,uS,uZ,Option.some.injEq] at h
         subst h
         refine Or.inl ⟨by rfl,fun w' hSw=>?_⟩
         obtain ⟨x0,x1,x2,x3⟩:=hSw
         go_simp
        try simp only [Act.put,tA,tZ,tS]
        refine takeD (i:=2) (d:=some 41) (v:=.bool false) (by kernel_rfl) (by kernel_rfl) (by kernel_rfl) (by kernel_rfl) (fun _ _ _ h=>h) (fun oi h=>?_) hHeld ?_
        ·simp only [uA,uS,uZ,Option.some.injEq] at h
         subst h
         refine Or.inl ⟨by rfl,fun w' hSw=>?_⟩
         obtain ⟨x0,x1,x2,x3⟩:=hSw
         go_simp
        try simp only [Act.put,tA,tZ,tS]
        refine takeD (i:=3) (d:=some 42) (v:=.bool false) (by kernel_rfl) (by kernel_rfl) (by kernel_rfl) (by kernel_rfl) (fun _ _ _ h=>h) (fun oi h=>?_) hHeld ?_
        ·simp only [uA,uS,uZ,Option.some.injEq] at h
         subst h
         refine Or.inl ⟨by rfl,fun w' hSw=>?_⟩
         obtain ⟨x0,x1,x2,x3⟩:=hSw
         go_simp
        try simp only [Act.put,tA,tZ,tS]
        refine takeD (i:=4) (d:=some 43) (v:=.pointer (some ⟨X,0,none⟩)) (by kernel_rfl) (by kernel_rfl) (by kernel_rfl) (by kernel_rfl) (fun _ _ _ h=>h) (fun oi h=>?_) hHeld ?_
        ·simp only [uA,uS,uZ,Option.some.injEq] at h
         subst h
         refine Or.inl ⟨by rfl,fun w' hSw=>?_⟩
         obtain ⟨x0,x1,x2,x3⟩:=hSw
         go_simp
        try simp only [Act.put,tA,tZ,tS]
        refine takeD (i:=5) (d:=some 44) (v:=.int .u8 (x.o:Int)) (by kernel_rfl) (by kernel_rfl) (by kernel_rfl) (by kernel_rfl) (fun _ _ _ h=>h) (fun oi h=>?_) hHeld ?_
        ·simp only [uA,uS,uZ,Option.some.injEq] at h
         subst h
         refine Or.inl ⟨by rfl,fun w' hSw=>?_⟩
         obtain ⟨x0,x1,x2,x3⟩:=hSw
         go_simp
        try simp only [Act.put,tA,tZ,tS]
        refine takeD (i:=6) (d:=some 45) (v:=.bool true) (by kernel_rfl) (by kernel_rfl) (by kernel_rfl) (by kernel_rfl) (fun _ _ _ h=>h) (fun oi h=>?_) hHeld ?_
        ·simp only [uA,uS,uZ,Option.some.injEq] at h
         subst h
         refine Or.inl ⟨by rfl,fun w' hSw=>?_⟩
         obtain ⟨x0,x1,x2,x3⟩:=hSw
         go_simp
        try simp only [Act.put,tA,tZ,tS]
        refine takeD (i:=7) (d:=some 46) (v:=.bool true) (by kernel_rfl) (by kernel_rfl) (by kernel_rfl) (by kernel_rfl) (fun _ _ _ h=>h) (fun oi h=>?_) hHeld ?_
        ·simp only [uA,uS,uZ,Option.some.injEq] at h
         subst h
         refine Or.inl ⟨by rfl,fun w' hSw=>?_⟩
         obtain ⟨x0,x1,x2,x3⟩:=hSw
         go_simp
        try simp only [Act.put,tA,tZ,tS]
        refine takeD (i:=8) (d:=some 47) (v:=.bool true) (by kernel_rfl) (by kernel_rfl) (by kernel_rfl) (by kernel_rfl) (fun _ _ _ h=>h) (fun oi h=>?_) hHeld ?_
        ·simp only [uA,uS,uZ,Option.some.injEq] at h
         subst h
         refine Or.inl ⟨by rfl,fun w' hSw=>?_⟩
         obtain ⟨x0,x1,x2,x3⟩:=hSw
         go_simp
        try simp only [Act.put,tA,tZ,tS]
        refine takeD (i:=9) (d:=some 48) (v:=.pointer (some ⟨X,4,none⟩)) (by kernel_rfl) (by kernel_rfl) (by kernel_rfl) (by kernel_rfl) (fun _ _ _ h=>h) (fun oi h=>?_) hHeld ?_
        ·simp only [uA,uS,uZ,Option.some.injEq] at h
         subst h
         refine Or.inl ⟨by rfl,fun w' hSw=>?_⟩
         obtain ⟨x0,x1,x2,x3⟩:=hSw
         go_simp
        try simp only [Act.put,tA,tZ,tS]
        refine takeD (i:=10) (d:=some 49) (v:=.int .i64 x.k) (by kernel_rfl) (by kernel_rfl) (by kernel_rfl) (by kernel_rfl) (fun _ _ _ h=>h) (fun oi h=>?_) hHeld ?_
        ·simp only [uA,uS,uZ,Option.some.injEq] at h
         subst h
         refine Or.inl ⟨by rfl,fun w' hSw=>?_⟩
         obtain ⟨x0,x1,x2,x3⟩:=hSw
         go_simp
        try simp only [Act.put,tA,tZ,tS]
        refine takeD (i:=11) (d:=some 50) (v:=.int .i64 (k:Int)) (by kernel_rfl) (by kernel_rfl) (by kernel_rfl) (by kernel_rfl) (fun _ _ _ h=>h) (fun oi h=>?_) hHeld ?_
        ·simp only [uA,uS,uZ,Option.some.injEq] at h
         subst h
         refine Or.inl ⟨by rfl,fun w' hSw=>?_⟩
         obtain ⟨x0,x1,x2,x3⟩:=hSw
         go_simp
        try simp only [Act.put,tA,tZ,tS]
        refine takeD (i:=12) (d:=some 51) (v:=.bool true) (by kernel_rfl) (by kernel_rfl) (by kernel_rfl) (by kernel_rfl) (fun _ _ _ h=>h) (fun oi h=>?_) hHeld ?_
        ·simp only [uA,uS,uZ,Option.some.injEq] at h
         subst h
         refine Or.inl ⟨by rfl,fun w' hSw=>?_⟩
         obtain ⟨x0,x1,x2,x3⟩:=hSw
         go_simp
        try simp only [Act.put,tA,tZ,tS]
        refine takeD (i:=13) (d:=some 52) (v:=.bool true) (by kernel_rfl) (by kernel_rfl) (by kernel_rfl) (by kernel_rfl) (fun _ _ _ h=>h) (fun oi h=>?_) hHeld ?_
        ·simp only [uA,uS,uZ,Option.some.injEq] at h
         subst h
         refine Or.inl ⟨by rfl,fun w' hSw=>?_⟩
         obtain ⟨x0,x1,x2,x3⟩:=hSw
         go_simp
        try simp only [Act.put,tA,tZ,tS]
        refine takeD (i:=14) (d:=some 53) (v:=.bool true) (by kernel_rfl) (by kernel_rfl) (by kernel_rfl) (by kernel_rfl) (fun _ _ _ h=>h) (fun oi h=>?_) hHeld ?_
        ·simp only [uA,uS,uZ,Option.some.injEq] at h
         subst h
         refine Or.inl ⟨by rfl,fun w' hSw=>?_⟩
         obtain ⟨x0,x1,x2,x3⟩:=hSw
         go_simp
        try simp only [Act.put,tA,tZ,tS]
        refine takeD (i:=15) (d:=some 54) (v:=.pointer (some ⟨w.heap.size,1,none⟩)) (by kernel_rfl) (by kernel_rfl) (by kernel_rfl) (by kernel_rfl) (fun _ _ _ h=>h) (fun oi h=>?_) hHeld ?_
        ·simp only [uA,uS,uZ,Option.some.injEq] at h
         subst h
         refine Or.inl ⟨by rfl,fun w' hSw=>?_⟩
         obtain ⟨x0,x1,x2,x3⟩:=hSw
         go_simp
        try simp only [Act.put,tA,tZ,tS]
        refine takeD (i:=16) (d:=some 55) (v:=.slice (some ⟨b,off,none⟩) p.codes.length c2) (by kernel_rfl) (by kernel_rfl) (by kernel_rfl) (by kernel_rfl) (fun _ _ _ h=>h) (fun oi h=>?_) hHeld ?_
        ·simp only [uA,uS,uZ,Option.some.injEq] at h
         subst h
         refine Or.inl ⟨by rfl,fun w' hSw=>?_⟩
         obtain ⟨x0,x1,x2,x3⟩:=hSw
         go_simp
        try simp only [Act.put,tA,tZ,tS]
        refine takeD (i:=17) (d:=some 56) (v:=.int .i64 (i:Int)) (by kernel_rfl) (by kernel_rfl) (by kernel_rfl) (by kernel_rfl) (fun _ _ _ h=>h) (fun oi h=>?_) hHeld ?_
        ·simp only [uA,uS,uZ,Option.some.injEq] at h
         subst h
         refine Or.inl ⟨by rfl,fun w' hSw=>?_⟩
         obtain ⟨x0,x1,x2,x3⟩:=hSw
         go_simp
        try simp only [Act.put,tA,tZ,tS]
        refine takeD (i:=18) (d:=some 57) (v:=.pointer (some ⟨b,off+i,none⟩)) (by kernel_rfl) (by kernel_rfl) (by kernel_rfl) (by kernel_rfl) (fun _ _ _ h=>h) (fun oi h=>?_) hHeld ?_
        ·simp only [uA,uS,uZ,Option.some.injEq] at h
         subst h
         refine Or.inl ⟨by rfl,fun w' hSw=>?_⟩
         obtain ⟨x0,x1,x2,x3⟩:=hSw
         go_simp
        try simp only [Act.put,tA,tZ,tS]
        refine takeD (i:=19) (d:=some 58) (v:=.slice (some ⟨B,of2,none⟩) l.length rc) (by kernel_rfl) (by kernel_rfl) (by kernel_rfl) (by kernel_rfl) (fun _ _ _ h=>h) (fun oi h=>?_) hHeld ?_
        ·simp only [uA,uS,uZ,Option.some.injEq] at h
         subst h
         refine Or.inl ⟨by rfl,fun w' hSw=>?_⟩
         obtain ⟨x0,x1,x2,x3⟩:=hSw
         go_simp
        try simp only [Act.put,tA,tZ,tS]
        refine takeD (i:=20) (d:=some 59) (v:=.pointer (some ⟨X,4,none⟩)) (by kernel_rfl) (by kernel_rfl) (by kernel_rfl) (by kernel_rfl) (fun _ _ _ h=>h) (fun oi h=>?_) hHeld ?_
        ·simp only [uA,uS,uZ,Option.some.injEq] at h
         subst h
         refine Or.inl ⟨by rfl,fun w' hSw=>?_⟩
         obtain ⟨x0,x1,x2,x3⟩:=hSw
         go_simp
        try simp only [Act.put,tA,tZ,tS]
        refine takeD (i:=21) (d:=some 60) (v:=.int .i64 x.k) (by kernel_rfl) (by kernel_rfl) (by kernel_rfl) (by kernel_rfl) (fun _ _ _ h=>h) (fun oi h=>?_) hHeld ?_
        ·simp only [uA,uS,uZ,Option.some.injEq] at h
         subst h
         refine Or.inl ⟨by rfl,fun w' hSw=>?_⟩
         obtain ⟨x0,x1,x2,x3⟩:=hSw
         go_simp
        try simp only [Act.put,tA,tZ,tS]
        refine takeD (i:=22) (d:=some 61) (v:=.int .i64 (f:Int)) (by kernel_rfl) (by kernel_rfl) (by kernel_rfl) (by kernel_rfl) (fun _ _ _ h=>h) (fun oi h=>?_) hHeld ?_
        ·simp only [uA,uS,uZ,Option.some.injEq] at h
         subst h
         refine Or.inl ⟨by rfl,fun w' hSw=>?_⟩
         obtain ⟨x0,x1,x2,x3⟩:=hSw
         go_simp
         rcases hmx with e | e <;> split <;> omega
        try simp only [Act.put,tA,tZ,tS]
        refine takeD (i:=23) (d:=some 62) (v:=.int .i64 (k:Int)) (by kernel_rfl) (by kernel_rfl) (by kernel_rfl) (by kernel_rfl) (fun _ _ _ h=>h) (fun oi h=>?_) hHeld ?_
        ·simp only [uA,uS,uZ,Option.some.injEq] at h
         subst h
         refine Or.inl ⟨by rfl,fun w' hSw=>?_⟩
         obtain ⟨x0,x1,x2,x3⟩:=hSw
         go_simp
        try simp only [Act.put,tA,tZ,tS]
        refine wpAnyH_ready (rs:=[24]) (by kernel_rfl) (by simp) ?_
        refine AllReadyH.cons rfl (fun K hKK=>?_) AllReadyH.nil
        go_simp
        refine hlv.mono ?_
        rintro e w6 ⟨rfl,rfl⟩
        refine hKK.out _ _ hSS (fun hHeld=>?_)
        clear hKK K
        try simp only [Act.put,tA,tZ,tS]
        refine takeD (i:=25) (d:=some 64) (v:=.bool (!r)) (by kernel_rfl) (by kernel_rfl) (by kernel_rfl) (by kernel_rfl) (fun _ _ _ h=>h) (fun oi h=>?_) hHeld ?_
        ·simp only [uA,uS,uZ,Option.some.injEq] at h
         subst h
         refine Or.inl ⟨by rfl,fun w' hSw=>?_⟩
         obtain ⟨x0,x1,x2,x3⟩:=hSw
         go_simp
        try simp only [Act.put,tA,tZ,tS]
        refine takeD (i:=26) (d:=some 65) (v:=.bool (!r)) (by kernel_rfl) (by kernel_rfl) (by kernel_rfl) (by kernel_rfl) (fun _ _ _ h=>h) (fun oi h=>?_) hHeld ?_
        ·simp only [uA,uS,uZ,Option.some.injEq] at h
         subst h
         refine Or.inl ⟨by rfl,fun w' hSw=>?_⟩
         obtain ⟨x0,x1,x2,x3⟩:=hSw
         go_simp
        try simp only [Act.put,tA,tZ,tS]
        refine wpAnyH_done (by kernel_rfl) ?_ _
        cases r with
        | true=>
         go_wp2_with fail
         go_roundw
         case rel=>exact ⟨k+1,by omega,by go_num,hB6 1⟩
         case measure=>simp [intOf];omega
        | false=>
         go_wp2_with fail
         go_ret
         exact ⟨true,rfl,hB5 1⟩
      ·have dK:decide (x.k<=(k:Int))=false:=by simpa using hK
       rcases hj3 with ⟨e0,e3⟩ | ⟨e3,e4⟩
       ·clear hj ho hC hC4
        rw [e0] at z0 zz0
        clear e0 e3
        go_quiet (fail)
        go_wp2_with fail
        go_roundw
        case rel=>exact ⟨k+1,by omega,by go_num,hB6 _⟩
        case measure=>simp [intOf];omega
       ·clear hj ho hC hC4
        go_quiet (fail)
        go_wp2_with fail
        go_roundw
        case rel=>exact ⟨k+1,by omega,by go_num,hB6 _⟩
        case measure=>simp [intOf];omega
     ·have e3:((x.o:Int) == 3)=false:=by simp;omega
      have e4:((x.o:Int) == 4)=false:=by simp;omega
      clear hj ho hC hC4
      go_quiet (fail)
      go_wp2_with fail
      go_roundw
      case rel=>exact ⟨k+1,by omega,by go_num,hB6 _⟩
      case measure=>simp [intOf];omega
    ·have hkl' : ¬ (k:Int)<(l.length:Int):=by omega
     go_wp2_with fail
     go_roundw
     case rel=>exact ⟨i+1,by omega,by go_num,hB⟩
     case measure=>simp [intOf];omega
  ·have hlt' : ¬ (i:Int)<(p.codes.length:Int):=by omega
   go_wp2_with fail
   go_ret
   exact ⟨false,rfl,below_nx hB1 hB (Nat.le_refl _)⟩
end Go.Proofs.YtnfbncgfpmcpnaaGreat.Mdl
