/-
  ModelValues: its walks, part W4.
-/
import Derived.Test.YtnfbncgfpmcpnaaGreatW03
set_option maxRecDepth 100000
set_option maxHeartbeats 12800000
namespace Go.Proofs.YtnfbncgfpmcpnaaGreat.Mdl
open Go.RowKit
open Mch (below1 below_nx)
def SlowPost (w:World) (e:Ending) (w':World):Prop:=∃ b:Bool,e=.returned (.bool b)/\Below w.heap.size w w'
abbrev insAr (x:In):Array Value:=#[.int .u8 (x.o:Int),.int .i64 x.a,.int .i64 x.b,.int .i64 x.c,.int .i64 x.k]
theorem maxE (a:Int) (f:Nat) (h:max a 0=(f:Int)):(a<=0/\f=0) \/ (0<=a/\a=(f:Int)):=by omega
theorem slow_any {lo hi:Nat} {v1 v2 v3:Value} {p:Prg} (w:World) (h:PrgAt lo hi w v1 v2 v3 p) (hT:Tame p) :
  Calls Tryz.prog 18 #[.agg #[v1,v2,v3]] w (SlowPost w):=by
 obtain ⟨a1,c1,rfl⟩:=h.caps.slice
 obtain ⟨a2,c2,rfl⟩:=h.codes.slice
 obtain ⟨a3,c3,rfl⟩:=h.sites.slice
 obtain ⟨w1,hw1⟩:∃ w1,w1=w.alloc (.cells #[.slice a1 p.caps.length c1,.slice a2 p.codes.length c2,.slice a3 p.sites.length c3] 26):=⟨_,rfl⟩
 have hB1:Below w.heap.size w w1:=by rw [hw1];exact below1 w _
 have hX1:Blk w1 w.heap.size 26 #[.slice a1 p.caps.length c1,.slice a2 p.codes.length c2,.slice a3 p.sites.length c3]:=by rw [hw1];exact blk_new w _ _
 have hP1:=h.later hB1
 have hcode:=hT.code
 have hcl:=hT.codes
 clear h hT
 go_enter Tryz.func18,Tryz.ntmps18
 go_upto_region 1 with fail
 rw [<- hw1]
 clear hw1
 go_wp2_with fail
 go_loopw [2,3] (fun _ iv wr=>∃ i:Nat,i<=p.codes.length/\iv=.int .i64 (i:Int)/\Below w1.heap.size w1 wr) (fun _ iv _=>p.codes.length - (intOf iv).toNat)
 case atStart=>exact ⟨0,Nat.zero_le _,rfl,Below.refl _ _⟩
 case round=>
  obtain ⟨i,hil,rfl,hB⟩:=hrel
  have x1:wr.cell? ⟨w.heap.size,1,none⟩=some (.slice a2 p.codes.length c2):=Blk.cell (Blk.later hX1 hB hX1.lt) rfl
  by_cases hlt:i<p.codes.length
  ·have hlt':(i:Int)<(p.codes.length:Int):=by omega
   have q0:(0:Int)<=(i:Int):=by omega
   have q20:(i:Int)<20:=by omega
   have d20:decide ((i:Int)<20)=true:=by simpa using q20
   have hwi:IntKind.i64.wrap ((i:Int)+1)=(i:Int)+1:=by rw [IntKind.wrap_i64];omega
   go_wp2_with fail
   obtain ⟨wo,rfl⟩:∃ wo:World,wo=wr:=⟨_,rfl⟩
   clear x1
   go_loopw [2,4] (fun _ iv wr=>∃ k:Nat,k<=100/\iv=.int .i64 (k:Int)/\Below w1.heap.size w1 wr) (fun _ iv _=>100 - (intOf iv).toNat)
   case atStart=>exact ⟨0,Nat.zero_le _,rfl,hB⟩
   case round=>
    clear hB
    obtain ⟨k,hk,rfl,hB⟩:=hrel
    have x1:wr.cell? ⟨w.heap.size,1,none⟩=some (.slice a2 p.codes.length c2):=Blk.cell (Blk.later hX1 hB hX1.lt) rfl
    obtain ⟨b,off,ra,rc,l,rfl,-, hbh,hl,hc,hC⟩:=(hP1.later hB).codes.at hlt
    have hll:=hcode l (List.mem_of_getElem? hl)
    have k0:(0:Int)<=(k:Int):=by omega
    have hwk:IntKind.i64.wrap ((k:Int)+1)=(k:Int)+1:=by rw [IntKind.wrap_i64];omega
    clear hl
    by_cases hkl:k<l.length
    ·have hkl':(k:Int)<(l.length:Int):=by omega
     have k100:(k:Int)<100:=by omega
     have d100:decide ((k:Int)<100)=true:=by simpa using k100
     obtain ⟨B,of2,x,rfl,-, -, hx,hok,y0,y1,y2,y3,y4⟩:=hC.at hkl
     have ho:=hok.o
     obtain ⟨w4,hw4⟩:∃ w4,w4=wr.alloc (.cells (insAr x) 95):=⟨_,rfl⟩
     have hB4:Below w1.heap.size w1 w4:=by rw [hw4];exact Mch.Below.al hB hB.size _
     have hb4:Below wr.heap.size wr w4:=by rw [hw4];exact below1 wr _
     have hX4:Blk w4 wr.heap.size 95 (insAr x):=by rw [hw4];exact blk_new wr _ _
     have hC4:CodeAt lo hi w4 (.slice (some ⟨B,of2,none⟩) l.length rc) l:=hC.stay (stay_below' hb4 (by have:=(hP1.later hB).top;exact this))
     have z0:w4.cell? ⟨wr.heap.size,0,none⟩=some (.int .u8 (x.o:Int)):=hX4.cell rfl
     have z4:w4.cell? ⟨wr.heap.size,4,none⟩=some (.int .i64 x.k):=hX4.cell rfl
     have zz0:w4.drew.cell? ⟨wr.heap.size,0,none⟩=some (.int .u8 (x.o:Int)):=z0
     have zz4:w4.drew.cell? ⟨wr.heap.size,4,none⟩=some (.int .i64 x.k):=z4
     have hcc:w4.cell? ⟨b,off+i,none⟩=some (.slice (some ⟨B,of2,none⟩) l.length rc):=(hb4.cell (Nat.lt_of_lt_of_le hbh (hP1.later hB).top)).trans hc
     have x4:w4.cell? ⟨w.heap.size,1,none⟩=some (.slice (some ⟨b,off,none⟩) p.codes.length c2):=Blk.cell (Blk.later hX1 hB4 hX1.lt) rfl
     clear hx hok
     go_upto_region 8 with fail
     rw [<- hw4]
     clear hw4 x1 hc y0 y1 y2 y3 y4
     have hB5:∀ n,Below w.heap.size w (w4.drewN n):=fun n=>Mch.below_drewN (below_nx hB1 hB4 (Nat.le_refl _)) n
     have hB6:∀ n,Below w1.heap.size w1 (w4.drewN n):=fun n=>Mch.below_drewN hB4 n
     by_cases hj:x.o=3 \/ x.o=4
     ·have hj3:(x.o=3/\((x.o:Int) == 3)=true) \/ (((x.o:Int) == 3)=false/\((x.o:Int) == 4)=true):=by
       rcases hj with e | e
       ·left;rw [e];exact ⟨rfl,rfl⟩
       ·right;rw [e];exact ⟨rfl,rfl⟩
      by_cases hK:x.k<=(k:Int)
      ·have dK:decide (x.k<=(k:Int))=true:=by simpa using hK
       obtain ⟨f,hf⟩:∃ f:Nat,max x.k 0=(f:Int):=⟨(max x.k 0).toNat,by omega⟩
       have hmx:=maxE x.k f hf
       have hC5:CodeAt lo hi w4.drew (.slice (some ⟨B,of2,none⟩) l.length rc) l:=hC4.stay (stay_below' (Below.refl _ _).drew (by have:=((hP1.later hB4)).top;exact this))
       have hlv:=leaves_any f k w4.drew hC5 (by omega) (by omega)
       obtain ⟨r,hr⟩:∃ r,r=leavesF l (k - f) f false:=⟨_,rfl⟩
       rw [<- hr] at hlv
       clear hr hj ho hC hC4 hC5
       obtain ⟨X,hX⟩:∃ X,X=wr.heap.size:=⟨_,rfl⟩
       have hSS:w4.drew.cell? ⟨X,0,none⟩=some (.int .u8 (x.o:Int))/\w4.drew.cell? ⟨X,4,none⟩=some (.int .i64 x.k)/\w4.drew.cell? ⟨w.heap.size,1,none⟩=some (.slice (some ⟨b,off,none⟩) p.codes.length c2)/\w4.drew.cell? ⟨b,off+i,none⟩=some (.slice (some ⟨B,of2,none⟩) l.length rc):=⟨by rw [hX];exact zz0,by rw [hX];exact zz4,x4,hcc⟩
       rw [<- hX]
       clear hX zz0 zz4 z0 z4 x4 hcc
       rcases hj3 with ⟨e0,e3⟩ | ⟨e3,e4⟩
       ·clear e0
        refine wp_region_held_drew (S:=fun W=>W.cell? ⟨X,0,none⟩=some (.int .u8 (x.o:Int))/\W.cell? ⟨X,4,none⟩=some (.int .i64 x.k)/\W.cell? ⟨w.heap.size,1,none⟩=some (.slice (some ⟨b,off,none⟩) p.codes.length c2)/\W.cell? ⟨b,off+i,none⟩=some (.slice (some ⟨B,of2,none⟩) l.length rc)) (by kernel_rfl) hSS (fun hHeld=>?_)
        refine takeD (i:=0) (d:=some 39) (v:=.pointer (some ⟨X,0,none⟩)) (by kernel_rfl) (by kernel_rfl) (by kernel_rfl) (by kernel_rfl) (fun _ _ _ h=>h) (fun oi h=>?_) hHeld ?_
        ·simp only [uA,uZ,Option.some.injEq] at h
         subst h
         refine Or.inl ⟨by rfl,fun w' hSw=>?_⟩
         obtain ⟨x0,x1,x2,x3⟩:=hSw
         go_simp
        try simp only [Act.put,tA,tZ,tS]
        refine takeD (i:=1) (d:=some 40) (v:=.int .u8 (x.o:Int)) (by kernel_rfl) (by kernel_rfl) (by kernel_rfl) (by kernel_rfl) (fun _ _ _ h=>h) (fun oi h=>?_) hHeld ?_
        ·simp only [uA,uS,uZ,Option.some.injEq] at h
         subst h
         refine Or.inl ⟨by rfl,fun w' hSw=>?_⟩
         obtain ⟨x0,x1,x2,x3⟩:=hSw
         go_simp
        try simp only [Act.put,tA,tZ,tS]
        refine takeD (i:=2) (d:=some 41) (v:=.bool true) (by kernel_rfl) (by kernel_rfl) (by kernel_rfl) (by kernel_rfl) (fun _ _ _ h=>h) (fun oi h=>?_) hHeld ?_
        ·simp only [uA,uS,uZ,Option.some.injEq] at h
         subst h
         refine Or.inl ⟨by rfl,fun w' hSw=>?_⟩
         obtain ⟨x0,x1,x2,x3⟩:=hSw
         go_simp
        try simp only [Act.put,tA,tZ,tS]
        refine takeD (i:=3) (d:=some 42) (v:=.bool true) (by kernel_rfl) (by kernel_rfl) (by kernel_rfl) (by kernel_rfl) (fun _ _ _ h=>h) (fun oi h=>?_) hHeld ?_
        ·simp only [uA,uS,uZ,Option.some.injEq] at h
         subst h
         refine Or.inl ⟨by rfl,fun w' hSw=>?_⟩
         obtain ⟨x0,x1,x2,x3⟩:=hSw
         go_simp
        try simp only [Act.put,tA,tZ,tS]
        refine takeD (i:=4) (d:=some 43) (v:=undef) (by kernel_rfl) (by kernel_rfl) (by kernel_rfl) (by kernel_rfl) (fun _ _ _ h=>h) (fun oi h=>?_) hHeld ?_
        ·simp only [uA,uS,uZ,Option.some.injEq] at h
         subst h
         exact Or.inr ⟨by rfl,rfl⟩
        try simp only [Act.put,tA,tZ,tS]
        refine takeD (i:=5) (d:=some 44) (v:=undef) (by kernel_rfl) (by kernel_rfl) (by kernel_rfl) (by kernel_rfl) (fun _ _ _ h=>h) (fun oi h=>?_) hHeld ?_
        ·simp only [uA,uS,uZ,Option.some.injEq] at h
         subst h
         exact Or.inr ⟨by rfl,rfl⟩
        try simp only [Act.put,tA,tZ,tS]
        refine takeD (i:=6) (d:=some 45) (v:=undef) (by kernel_rfl) (by kernel_rfl) (by kernel_rfl) (by kernel_rfl) (fun _ _ _ h=>h) (fun oi h=>?_) hHeld ?_
        ·simp only [uA,uS,uZ,Option.some.injEq] at h
         subst h
         exact Or.inr ⟨by rfl,rfl⟩
        try simp only [Act.put,tA,tZ,tS]
        refine takeD (i:=7) (d:=some 46) (v:=.bool true) (by kernel_rfl) (by kernel_rfl) (by kernel_rfl) (by kernel_rfl) (fun _ _ _ h=>h) (fun oi h=>?_) hHeld ?_
        ·simp only [uA,uS,uZ,Option.some.injEq] at h
         subst h
         refine Or.inl ⟨by rfl,fun w' hSw=>?_⟩
         obtain ⟨x0,x1,x2,x3⟩:=hSw
         go_simp
        try simp only [Act.put,tA,tZ,tS]
        refine takeD (i:=8) (d:=some 47) (v:=.bool true) (by kernel_rfl) (by kernel_rfl) (by kernel_rfl) (by kernel_rfl) (fun _ _ _ h=>h) (fun oi h=>?_) hHeld ?_
        ·simp only [uA,uS,uZ,Option.some.injEq] at h
         subst h
         refine Or.inl ⟨by rfl,fun w' hSw=>?_⟩
         obtain ⟨x0,x1,x2,x3⟩:=hSw
         go_simp
        try simp only [Act.put,tA,tZ,tS]
        refine takeD (i:=9) (d:=some 48) (v:=.pointer (some ⟨X,4,none⟩)) (by kernel_rfl) (by kernel_rfl) (by kernel_rfl) (by kernel_rfl) (fun _ _ _ h=>h) (fun oi h=>?_) hHeld ?_
        ·simp only [uA,uS,uZ,Option.some.injEq] at h
         subst h
         refine Or.inl ⟨by rfl,fun w' hSw=>?_⟩
         obtain ⟨x0,x1,x2,x3⟩:=hSw
         go_simp
        try simp only [Act.put,tA,tZ,tS]
        refine takeD (i:=10) (d:=some 49) (v:=.int .i64 x.k) (by kernel_rfl) (by kernel_rfl) (by kernel_rfl) (by kernel_rfl) (fun _ _ _ h=>h) (fun oi h=>?_) hHeld ?_
        ·simp only [uA,uS,uZ,Option.some.injEq] at h
         subst h
         refine Or.inl ⟨by rfl,fun w' hSw=>?_⟩
         obtain ⟨x0,x1,x2,x3⟩:=hSw
         go_simp
        try simp only [Act.put,tA,tZ,tS]
        refine takeD (i:=11) (d:=some 50) (v:=.int .i64 (k:Int)) (by kernel_rfl) (by kernel_rfl) (by kernel_rfl) (by kernel_rfl) (fun _ _ _ h=>h) (fun oi h=>?_) hHeld ?_
        ·simp only [uA,uS,uZ,Option.some.injEq] at h
         subst h
         refine Or.inl ⟨by rfl,fun w' hSw=>?_⟩
         obtain ⟨x0,x1,x2,x3⟩:=hSw
         go_simp
        try simp only [Act.put,tA,tZ,tS]
        refine takeD (i:=12) (d:=some 51) (v:=.bool true) (by kernel_rfl) (by kernel_rfl) (by kernel_rfl) (by kernel_rfl) (fun _ _ _ h=>h) (fun oi h=>?_) hHeld ?_
        ·simp only [uA,uS,uZ,Option.some.injEq] at h
         subst h
         refine Or.inl ⟨by rfl,fun w' hSw=>?_⟩
         obtain ⟨x0,x1,x2,x3⟩:=hSw
         go_simp
        try simp only [Act.put,tA,tZ,tS]
        refine takeD (i:=13) (d:=some 52) (v:=.bool true) (by kernel_rfl) (by kernel_rfl) (by kernel_rfl) (by kernel_rfl) (fun _ _ _ h=>h) (fun oi h=>?_) hHeld ?_
        ·simp only [uA,uS,uZ,Option.some.injEq] at h
         subst h
         refine Or.inl ⟨by rfl,fun w' hSw=>?_⟩
         obtain ⟨x0,x1,x2,x3⟩:=hSw
         go_simp
        try simp only [Act.put,tA,tZ,tS]
        refine takeD (i:=14) (d:=some 53) (v:=.bool true) (by kernel_rfl) (by kernel_rfl) (by kernel_rfl) (by kernel_rfl) (fun _ _ _ h=>h) (fun oi h=>?_) hHeld ?_
        ·simp only [uA,uS,uZ,Option.some.injEq] at h
         subst h
         refine Or.inl ⟨by rfl,fun w' hSw=>?_⟩
         obtain ⟨x0,x1,x2,x3⟩:=hSw
         go_simp
        try simp only [Act.put,tA,tZ,tS]
        refine takeD (i:=15) (d:=some 54) (v:=.pointer (some ⟨w.heap.size,1,none⟩)) (by kernel_rfl) (by kernel_rfl) (by kernel_rfl) (by kernel_rfl) (fun _ _ _ h=>h) (fun oi h=>?_) hHeld ?_
        ·simp only [uA,uS,uZ,Option.some.injEq] at h
         subst h
         refine Or.inl ⟨by rfl,fun w' hSw=>?_⟩
         obtain ⟨x0,x1,x2,x3⟩:=hSw
         go_simp
        try simp only [Act.put,tA,tZ,tS]
        refine takeD (i:=16) (d:=some 55) (v:=.slice (some ⟨b,off,none⟩) p.codes.length c2) (by kernel_rfl) (by kernel_rfl) (by kernel_rfl) (by kernel_rfl) (fun _ _ _ h=>h) (fun oi h=>?_) hHeld ?_
        ·simp only [uA,uS,uZ,Option.some.injEq] at h
         subst h
         refine Or.inl ⟨by rfl,fun w' hSw=>?_⟩
         obtain ⟨x0,x1,x2,x3⟩:=hSw
         go_simp
        try simp only [Act.put,tA,tZ,tS]
        refine takeD (i:=17) (d:=some 56) (v:=.int .i64 (i:Int)) (by kernel_rfl) (by kernel_rfl) (by kernel_rfl) (by kernel_rfl) (fun _ _ _ h=>h) (fun oi h=>?_) hHeld ?_
        ·simp only [uA,uS,uZ,Option.some.injEq] at h
         subst h
         refine Or.inl ⟨by rfl,fun w' hSw=>?_⟩
         obtain ⟨x0,x1,x2,x3⟩:=hSw
         go_simp
        try simp only [Act.put,tA,tZ,tS]
        refine takeD (i:=18) (d:=some 57) (v:=.pointer (some ⟨b,off+i,none⟩)) (by kernel_rfl) (by kernel_rfl) (by kernel_rfl) (by kernel_rfl) (fun _ _ _ h=>h) (fun oi h=>?_) hHeld ?_
        ·simp only [uA,uS,uZ,Option.some.injEq] at h
         subst h
         refine Or.inl ⟨by rfl,fun w' hSw=>?_⟩
         obtain ⟨x0,x1,x2,x3⟩:=hSw
         go_simp
        try simp only [Act.put,tA,tZ,tS]
        refine takeD (i:=19) (d:=some 58) (v:=.slice (some ⟨B,of2,none⟩) l.length rc) (by kernel_rfl) (by kernel_rfl) (by kernel_rfl) (by kernel_rfl) (fun _ _ _ h=>h) (fun oi h=>?_) hHeld ?_
        ·simp only [uA,uS,uZ,Option.some.injEq] at h
         subst h
         refine Or.inl ⟨by rfl,fun w' hSw=>?_⟩
         obtain ⟨x0,x1,x2,x3⟩:=hSw
         go_simp
        try simp only [Act.put,tA,tZ,tS]
        refine takeD (i:=20) (d:=some 59) (v:=.pointer (some ⟨X,4,none⟩)) (by kernel_rfl) (by kernel_rfl) (by kernel_rfl) (by kernel_rfl) (fun _ _ _ h=>h) (fun oi h=>?_) hHeld ?_
        ·simp only [uA,uS,uZ,Option.some.injEq] at h
         subst h
         refine Or.inl ⟨by rfl,fun w' hSw=>?_⟩
         obtain ⟨x0,x1,x2,x3⟩:=hSw
         go_simp
        try simp only [Act.put,tA,tZ,tS]
        refine takeD (i:=21) (d:=some 60) (v:=.int .i64 x.k) (by kernel_rfl) (by kernel_rfl) (by kernel_rfl) (by kernel_rfl) (fun _ _ _ h=>h) (fun oi h=>?_) hHeld ?_
        ·simp only [uA,uS,uZ,Option.some.injEq] at h
         subst h
         refine Or.inl ⟨by rfl,fun w' hSw=>?_⟩
         obtain ⟨x0,x1,x2,x3⟩:=hSw
         go_simp
        try simp only [Act.put,tA,tZ,tS]
        refine takeD (i:=22) (d:=some 61) (v:=.int .i64 (f:Int)) (by kernel_rfl) (by kernel_rfl) (by kernel_rfl) (by kernel_rfl) (fun _ _ _ h=>h) (fun oi h=>?_) hHeld ?_
        ·simp only [uA,uS,uZ,Option.some.injEq] at h
         subst h
         refine Or.inl ⟨by rfl,fun w' hSw=>?_⟩
         obtain ⟨x0,x1,x2,x3⟩:=hSw
         go_simp
         rcases hmx with e | e <;> split <;> omega
        try simp only [Act.put,tA,tZ,tS]
        refine takeD (i:=23) (d:=some 62) (v:=.int .i64 (k:Int)) (by kernel_rfl) (by kernel_rfl) (by kernel_rfl) (by kernel_rfl) (fun _ _ _ h=>h) (fun oi h=>?_) hHeld ?_
        ·simp only [uA,uS,uZ,Option.some.injEq] at h
         subst h
         refine Or.inl ⟨by rfl,fun w' hSw=>?_⟩
         obtain ⟨x0,x1,x2,x3⟩:=hSw
         go_simp
        try simp only [Act.put,tA,tZ,tS]
        refine wpAnyH_ready (rs:=[24]) (by kernel_rfl) (by simp) ?_
        refine AllReadyH.cons rfl (fun K hKK=>?_) AllReadyH.nil
        go_simp
        refine hlv.mono ?_
        rintro e w6 ⟨rfl,rfl⟩
        refine hKK.out _ _ hSS (fun hHeld=>?_)
        clear hKK K
        try simp only [Act.put,tA,tZ,tS]
        refine takeD (i:=25) (d:=some 64) (v:=.bool (!r)) (by kernel_rfl) (by kernel_rfl) (by kernel_rfl) (by kernel_rfl) (fun _ _ _ h=>h) (fun oi h=>?_) hHeld ?_
        ·simp only [uA,uS,uZ,Option.some.injEq] at h
         subst h
         refine Or.inl ⟨by rfl,fun w' hSw=>?_⟩
         obtain ⟨x0,x1,x2,x3⟩:=hSw
         go_simp
        try simp only [Act.put,tA,tZ,tS]
        refine takeD (i:=26) (d:=some 65) (v:=.bool (!r)) (by kernel_rfl) (by kernel_rfl) (by kernel_rfl) (by kernel_rfl) (fun _ _ _ h=>h) (fun oi h=>?_) hHeld ?_
        ·simp only [uA,uS,uZ,Option.some.injEq] at h
         subst h
         refine Or.inl ⟨by rfl,fun w' hSw=>?_⟩
         obtain ⟨x0,x1,x2,x3⟩:=hSw
         go_simp
        try simp only [Act.put,tA,tZ,tS]
        refine wpAnyH_done (by kernel_rfl) ?_ _
        cases r with
        | true=>
         go_wp2_with fail
         go_roundw
         case rel=>exact ⟨k+1,by omega,by go_num,hB6 1⟩
         case measure=>simp [intOf];omega
        | false=>
         go_wp2_with fail
         go_ret
         exact ⟨true,rfl,hB5 1⟩
       ·refine wp_region_held_drew (S:=fun W=>W.cell? ⟨X,0,none⟩=some (.int .u8 (x.o:Int))/\W.cell? ⟨X,4,none⟩=some (.int .i64 x.k)/\W.cell? ⟨w.heap.size,1,none⟩=some (.slice (some ⟨b,off,none⟩) p.codes.length c2)/\W.cell? ⟨b,off+i,none⟩=some (.slice (some ⟨B,of2,none⟩) l.length rc)) (by kernel_rfl) hSS (fun hHeld=>?_)
        refine takeD (i:=0) (d:=some 39) (v:=.pointer (some ⟨X,0,none⟩)) (by kernel_rfl) (by kernel_rfl) (by kernel_rfl) (by kernel_rfl) (fun _ _ _ h=>h) (fun oi h=>?_) hHeld ?_
        ·simp only [uA,uZ,Option.some.injEq] at h
         subst h
         refine Or.inl ⟨by rfl,fun w' hSw=>?_⟩
         obtain ⟨x0,x1,x2,x3⟩:=hSw
         go_simp
        try simp only [Act.put,tA,tZ,tS]
        refine takeD (i:=1) (d:=some 40) (v:=.int .u8 (x.o:Int)) (by kernel_rfl) (by kernel_rfl) (by kernel_rfl) (by kernel_rfl) (fun _ _ _ h=>h) (fun oi h=>?_) hHeld ?_
        ·simp only [uA,uS,uZ,Option.some.injEq] at h
         subst h
         refine Or.inl ⟨by rfl,fun w' hSw=>?_⟩
         obtain ⟨x0,x1,x2,x3⟩:=hSw
         go_simp
        try simp only [Act.put,tA,tZ,tS]
        refine takeD (i:=2) (d:=some 41) (v:=.bool false) (by kernel_rfl) (by kernel_rfl) (by kernel_rfl) (by kernel_rfl) (fun _ _ _ h=>h) (fun oi h=>?_) hHeld ?_
        ·simp only [uA,uS,uZ,Option.some.injEq] at h
         subst h
         refine Or.inl ⟨by rfl,fun w' hSw=>?_⟩
         obtain ⟨x0,x1,x2,x3⟩:=hSw
         go_simp
        try simp only [Act.put,tA,tZ,tS]
        refine takeD (i:=3) (d:=some 42) (v:=.bool false) (by kernel_rfl) (by kernel_rfl) (by kernel_rfl) (by kernel_rfl) (fun _ _ _ h=>h) (fun oi h=>?_) hHeld ?_
        ·simp only [uA,uS,uZ,Option.some.injEq] at h
         subst h
         refine Or.inl ⟨by rfl,fun w' hSw=>?_⟩
         obtain ⟨x0,x1,x2,x3⟩:=hSw
         go_simp
        try simp only [Act.put,tA,tZ,tS]
        refine takeD (i:=4) (d:=some 43) (v:=.pointer (some ⟨X,0,none⟩)) (by kernel_rfl) (by kernel_rfl) (by kernel_rfl) (by kernel_rfl) (fun _ _ _ h=>h) (fun oi h=>?_) hHeld ?_
        ·simp only [uA,uS,uZ,Option.some.injEq] at h
         subst h
         refine Or.inl ⟨by rfl,fun w' hSw=>?_⟩
         obtain ⟨x0,x1,x2,x3⟩:=hSw
         go_simp
        try simp only [Act.put,tA,tZ,tS]
        refine takeD (i:=5) (d:=some 44) (v:=.int .u8 (x.o:Int)) (by kernel_rfl) (by kernel_rfl) (by kernel_rfl) (by kernel_rfl) (fun _ _ _ h=>h) (fun oi h=>?_) hHeld ?_
        ·simp only [uA,uS,uZ,Option.some.injEq] at h
         subst h
         refine Or.inl ⟨by rfl,fun w' hSw=>?_⟩
         obtain ⟨x0,x1,x2,x3⟩:=hSw
         go_simp
        try simp only [Act.put,tA,tZ,tS]
        refine takeD (i:=6) (d:=some 45) (v:=.bool true) (by kernel_rfl) (by kernel_rfl) (by kernel_rfl) (by kernel_rfl) (fun _ _ _ h=>h) (fun oi h=>?_) hHeld ?_
        ·simp only [uA,uS,uZ,Option.some.injEq] at h
         subst h
         refine Or.inl ⟨by rfl,fun w' hSw=>?_⟩
         obtain ⟨x0,x1,x2,x3⟩:=hSw
         go_simp
        try simp only [Act.put,tA,tZ,tS]
        refine takeD (i:=7) (d:=some 46) (v:=.bool true) (by kernel_rfl) (by kernel_rfl) (by kernel_rfl) (by kernel_rfl) (fun _ _ _ h=>h) (fun oi h=>?_) hHeld ?_
        ·simp only [uA,uS,uZ,Option.some.injEq] at h
         subst h
         refine Or.inl ⟨by rfl,fun w' hSw=>?_⟩
         obtain ⟨x0,x1,x2,x3⟩:=hSw
         go_simp
        try simp only [Act.put,tA,tZ,tS]
        refine takeD (i:=8) (d:=some 47) (v:=.bool true) (by kernel_rfl) (by kernel_rfl) (by kernel_rfl) (by kernel_rfl) (fun _ _ _ h=>h) (fun oi h=>?_) hHeld ?_
        ·simp only [uA,uS,uZ,Option.some.injEq] at h
         subst h
         refine Or.inl ⟨by rfl,fun w' hSw=>?_⟩
         obtain ⟨x0,x1,x2,x3⟩:=hSw
         go_simp
        try simp only [Act.put,tA,tZ,tS]
        refine takeD (i:=9) (d:=some 48) (v:=.pointer (some ⟨X,4,none⟩)) (by kernel_rfl) (by kernel_rfl) (by kernel_rfl) (by kernel_rfl) (fun _ _ _ h=>h) (fun oi h=>?_) hHeld ?_
        ·simp only [uA,uS,uZ,Option.some.injEq] at h
         subst h
         refine Or.inl ⟨by rfl,fun w' hSw=>?_⟩
         obtain ⟨x0,x1,x2,x3⟩:=hSw
         go_simp
        try simp only [Act.put,tA,tZ,tS]
        refine takeD (i:=10) (d:=some 49) (v:=.int .i64 x.k) (by kernel_rfl) (by kernel_rfl) (by kernel_rfl) (by kernel_rfl) (fun _ _ _ h=>h) (fun oi h=>?_) hHeld ?_
        ·simp only [uA,uS,uZ,Option.some.injEq] at h
         subst h
         refine Or.inl ⟨by rfl,fun w' hSw=>?_⟩
         obtain ⟨x0,x1,x2,x3⟩:=hSw
         go_simp
        try simp only [Act.put,tA,tZ,tS]
        refine takeD (i:=11) (d:=some 50) (v:=.int .i64 (k:Int)) (by kernel_rfl) (by kernel_rfl) (by kernel_rfl) (by kernel_rfl) (fun _ _ _ h=>h) (fun oi h=>?_) hHeld ?_
        ·simp only [uA,uS,uZ,Option.some.injEq] at h
         subst h
         refine Or.inl ⟨by rfl,fun w' hSw=>?_⟩
         obtain ⟨x0,x1,x2,x3⟩:=hSw
         go_simp
        try simp only [Act.put,tA,tZ,tS]
        refine takeD (i:=12) (d:=some 51) (v:=.bool true) (by kernel_rfl) (by kernel_rfl) (by kernel_rfl) (by kernel_rfl) (fun _ _ _ h=>h) (fun oi h=>?_) hHeld ?_
        ·simp only [uA,uS,uZ,Option.some.injEq] at h
         subst h
         refine Or.inl ⟨by rfl,fun w' hSw=>?_⟩
         obtain ⟨x0,x1,x2,x3⟩:=hSw
         go_simp
        try simp only [Act.put,tA,tZ,tS]
        refine takeD (i:=13) (d:=some 52) (v:=.bool true) (by kernel_rfl) (by kernel_rfl) (by kernel_rfl) (by kernel_rfl) (fun _ _ _ h=>h) (fun oi h=>?_) hHeld ?_
        ·simp only [uA,uS,uZ,Option.some.injEq] at h
         subst h
         refine Or.inl ⟨by rfl,fun w' hSw=>?_⟩
         obtain ⟨x0,x1,x2,x3⟩:=hSw
         go_simp
        try simp only [Act.put,tA,tZ,tS]
        refine takeD (i:=14) (d:=some 53) (v:=.bool true) (by kernel_rfl) (by kernel_rfl) (by kernel_rfl) (by kernel_rfl) (fun _ _ _ h=>h) (fun oi h=>?_) hHeld ?_
        ·simp only [uA,uS,uZ,Option.some.injEq] at h
         subst h
         refine Or.inl ⟨by rfl,fun w' hSw=>?_⟩
         obtain ⟨x0,x1,x2,x3⟩:=hSw
         go_simp
        try simp only [Act.put,tA,tZ,tS]
        refine takeD (i:=15) (d:=some 54) (v:=.pointer (some ⟨w.heap.size,1,none⟩)) (by kernel_rfl) (by kernel_rfl) (by kernel_rfl) (by kernel_rfl) (fun _ _ _ h=>h) (fun oi h=>?_) hHeld ?_
        ·simp only [uA,uS,uZ,Option.some.injEq] at h
         subst h
         refine Or.inl ⟨by rfl,fun w' hSw=>?_⟩
         obtain ⟨x0,x1,x2,x3⟩:=hSw
         go_simp
        try simp only [Act.put,tA,tZ,tS]
        refine takeD (i:=16) (d:=some 55) (v:=.slice (some ⟨b,off,none⟩) p.codes.length c2) (by kernel_rfl) (by kernel_rfl) (by kernel_rfl) (by kernel_rfl) (fun _ _ _ h=>h) (fun oi h=>?_) hHeld ?_
        ·simp only [uA,uS,uZ,Option.some.injEq] at h
         subst h
         refine Or.inl ⟨by rfl,fun w' hSw=>?_⟩
         obtain ⟨x0,x1,x2,x3⟩:=hSw
         go_simp
        try simp only [Act.put,tA,tZ,tS]
        refine takeD (i:=17) (d:=some 56) (v:=.int .i64 (i:Int)) (by kernel_rfl) (by kernel_rfl) (by kernel_rfl) (by kernel_rfl) (fun _ _ _ h=>h) (fun oi h=>?_) hHeld ?_
        ·simp only [uA,uS,uZ,Option.some.injEq] at h
         subst h
         refine Or.inl ⟨by rfl,fun w' hSw=>?_⟩
         obtain ⟨x0,x1,x2,x3⟩:=hSw
         go_simp
        try simp only [Act.put,tA,tZ,tS]
        refine takeD (i:=18) (d:=some 57) (v:=.pointer (some ⟨b,off+i,none⟩)) (by kernel_rfl) (by kernel_rfl) (by kernel_rfl) (by kernel_rfl) (fun _ _ _ h=>h) (fun oi h=>?_) hHeld ?_
        ·simp only [uA,uS,uZ,Option.some.injEq] at h
         subst h
         refine Or.inl ⟨by rfl,fun w' hSw=>?_⟩
         obtain ⟨x0,x1,x2,x3⟩:=hSw
         go_simp
        try simp only [Act.put,tA,tZ,tS]
        refine takeD (i:=19) (d:=some 58) (v:=.slice (some ⟨B,of2,none⟩) l.length rc) (by kernel_rfl) (by kernel_rfl) (by kernel_rfl) (by kernel_rfl) (fun _ _ _ h=>h) (fun oi h=>?_) hHeld ?_
        ·simp only [uA,uS,uZ,Option.some.injEq] at h
         subst h
         refine Or.inl ⟨by rfl,fun w' hSw=>?_⟩
         obtain ⟨x0,x1,x2,x3⟩:=hSw
         go_simp
        try simp only [Act.put,tA,tZ,tS]
        refine takeD (i:=20) (d:=some 59) (v:=.pointer (some ⟨X,4,none⟩)) (by kernel_rfl) (by kernel_rfl) (by kernel_rfl) (by kernel_rfl) (fun _ _ _ h=>h) (fun oi h=>?_) hHeld ?_
        ·simp only [uA,uS,uZ,Option.some.injEq] at h
         subst h
         refine Or.inl ⟨by rfl,fun w' hSw=>?_⟩
         obtain ⟨x0,x1,x2,x3⟩:=hSw
         go_simp
        try simp only [Act.put,tA,tZ,tS]
        refine takeD (i:=21) (d:=some 60) (v:=.int .i64 x.k) (by kernel_rfl) (by kernel_rfl) (by kernel_rfl) (by kernel_rfl) (fun _ _ _ h=>h) (fun oi h=>?_) hHeld ?_
        ·simp only [uA,uS,uZ,Option.some.injEq] at h
         subst h
         refine Or.inl ⟨by rfl,fun w' hSw=>?_⟩
         obtain ⟨x0,x1,x2,x3⟩:=hSw
         go_simp
        try simp only [Act.put,tA,tZ,tS]
        refine takeD (i:=22) (d:=some 61) (v:=.int .i64 (f:Int)) (by kernel_rfl) (by kernel_rfl) (by kernel_rfl) (by kernel_rfl) (fun _ _ _ h=>h) (fun oi h=>?_) hHeld ?_
        ·simp only [uA,uS,uZ,Option.some.injEq] at h
         subst h
         refine Or.inl ⟨by rfl,fun w' hSw=>?_⟩
         obtain ⟨x0,x1,x2,x3⟩:=hSw
         go_simp
         rcases hmx with e | e <;> split <;> omega
        try simp only [Act.put,tA,tZ,tS]
        refine takeD (i:=23) (d:=some 62) (v:=.int .i64 (k:Int)) (by kernel_rfl) (by kernel_rfl) (by kernel_rfl) (by kernel_rfl) (fun _ _ _ h=>h) (fun oi h=>?_) hHeld ?_
        ·simp only [uA,uS,uZ,Option.some.injEq] at h
         subst h
         refine Or.inl ⟨by rfl,fun w' hSw=>?_⟩
         obtain ⟨x0,x1,x2,x3⟩:=hSw
         go_simp
        try simp only [Act.put,tA,tZ,tS]
        refine wpAnyH_ready (rs:=[24]) (by kernel_rfl) (by simp) ?_
        refine AllReadyH.cons rfl (fun K hKK=>?_) AllReadyH.nil
        go_simp
        refine hlv.mono ?_
        rintro e w6 ⟨rfl,rfl⟩
        refine hKK.out _ _ hSS (fun hHeld=>?_)
        clear hKK K
        try simp only [Act.put,tA,tZ,tS]
        refine takeD (i:=25) (d:=some 64) (v:=.bool (!r)) (by kernel_rfl) (by kernel_rfl) (by kernel_rfl) (by kernel_rfl) (fun _ _ _ h=>h) (fun oi h=>?_) hHeld ?_
        ·simp only [uA,uS,uZ,Option.some.injEq] at h
         subst h
         refine Or.inl ⟨by rfl,fun w' hSw=>?_⟩
         obtain ⟨x0,x1,x2,x3⟩:=hSw
         go_simp
        try simp only [Act.put,tA,tZ,tS]
        refine takeD (i:=26) (d:=some 65) (v:=.bool (!r)) (by kernel_rfl) (by kernel_rfl) (by kernel_rfl) (by kernel_rfl) (fun _ _ _ h=>h) (fun oi h=>?_) hHeld ?_
        ·simp only [uA,uS,uZ,Option.some.injEq] at h
         subst h
         refine Or.inl ⟨by rfl,fun w' hSw=>?_⟩
         obtain ⟨x0,x1,x2,x3⟩:=hSw
         go_simp
        try simp only [Act.put,tA,tZ,tS]
        refine wpAnyH_done (by kernel_rfl) ?_ _
        cases r with
        | true=>
         go_wp2_with fail
         go_roundw
         case rel=>exact ⟨k+1,by omega,by go_num,hB6 1⟩
         case measure=>simp [intOf];omega
        | false=>
         go_wp2_with fail
         go_ret
         exact ⟨true,rfl,hB5 1⟩
      ·have dK:decide (x.k<=(k:Int))=false:=by simpa using hK
       rcases hj3 with ⟨e0,e3⟩ | ⟨e3,e4⟩
       ·clear hj ho hC hC4
        rw [e0] at z0 zz0
        clear e0 e3
        go_quiet (fail)
        go_wp2_with fail
        go_roundw
        case rel=>exact ⟨k+1,by omega,by go_num,hB6 _⟩
        case measure=>simp [intOf];omega
       ·clear hj ho hC hC4
        go_quiet (fail)
        go_wp2_with fail
        go_roundw
        case rel=>exact ⟨k+1,by omega,by go_num,hB6 _⟩
        case measure=>simp [intOf];omega
     ·have e3:((x.o:Int) == 3)=false:=by simp;omega
      have e4:((x.o:Int) == 4)=false:=by simp;omega
      clear hj ho hC hC4
      go_quiet (fail)
      go_wp2_with fail
      go_roundw
      case rel=>exact ⟨k+1,by omega,by go_num,hB6 _⟩
      case measure=>simp [intOf];omega
    ·have hkl' : ¬ (k:Int)<(l.length:Int):=by omega
     go_wp2_with fail
     go_roundw
     case rel=>exact ⟨i+1,by omega,by go_num,hB⟩
     case measure=>simp [intOf];omega
  ·have hlt' : ¬ (i:Int)<(p.codes.length:Int):=by omega
   go_wp2_with fail
   go_ret
   exact ⟨false,rfl,below_nx hB1 hB (Nat.le_refl _)⟩
end Go.Proofs.YtnfbncgfpmcpnaaGreat.Mdl
