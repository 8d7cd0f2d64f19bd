/-
  ReplayNext: its walks, part 7.
-/
import Derived.Test.YtnfbncgfpmcpnaaGreatQ06
set_option maxRecDepth 100000
set_option maxHeartbeats 12800000
namespace Go.Proofs.YtnfbncgfpmcpnaaGreat
open Go.RowKit Go.Maps
def zeroD:Value:=.agg #[.nilFunc,.nilFunc]
theorem zeroDE (w:World):(zeroValue 272).run Tryz.prog w=.ok zeroD w:=by kernel_rfl
def MapD (W:World) (M:Nat) (g:Nat->Option Value) (c:Nat):Prop:=
 ∃ (D:DataW Value) (n:Nat),W.ownsMap Tryz.prog 5 heldE M n D/\n<=c/\∀ i:Nat,i<256->D.atKey (.int .u8 (i:Int)) (.held zeroD)=.held ((g i).getD zeroD)
section
variable {W W':World} {M c:Nat} {g:Nat->Option Value}
theorem MapD.lt (h:MapD W M g c):M<W.heap.size:=by obtain ⟨_,_,h,_⟩:=h;exact h.lt
theorem MapD.of_block (h:MapD W M g c) (hb:W'.heap[M]?=W.heap[M]?):MapD W' M g c:=by
 obtain ⟨D,n,⟨es,clock,h1,r⟩,h2⟩:=h
 exact ⟨D,n,⟨es,clock,hb.trans h1,r⟩,h2⟩
theorem MapD.is (h:MapD W M g c):∃ es clock,W.heap[M]?=some (.map es clock):=by obtain ⟨_,_,⟨es,clock,h1,_⟩,_⟩:=h;exact ⟨_,_,h1⟩
theorem mapD_made (w:World):MapD (w.alloc (.map #[] 0)) w.heap.size (fun _=>none) 0:=
 ⟨.map [],0,World.ownsMap_made w _ _ _,Nat.le_refl _,fun _ _=>rfl⟩
theorem MapD.look (h:MapD W M g c) {i:Nat} (hi:i<256):(Instr.lookup 268 (.map (some M)) (.int .u8 (i:Int)) false).run Tryz.prog W=.ok ((g i).getD zeroD) W:=by
 obtain ⟨D,n,hown,_,hD⟩:=h
 obtain ⟨v,ps,hrun,hv⟩:=hown.lookup keyed Tryz.underlying268 (zeroDE W) (show heldE zeroD=some (.held zeroD,[]) from rfl) (keyK hi)
 simp only [heldE,Option.some.injEq,Prod.mk.injEq] at hv
 rw [hD i hi] at hv
 rw [hrun,held_inj hv.1]
theorem MapD.store (h:MapD W M g c) (hc:c<maxLen) {i:Nat} (hi:i<256) (x:Value) :
  ∃ W',(Instr.mapUpdate 268 (.map (some M)) (.int .u8 (i:Int)) x).run Tryz.prog W=.ok () W'/\MapD W' M (upd g i (some x)) (c+1)/\But [M] W W':=by
 obtain ⟨D,n,hown,hs,hD⟩:=h
 obtain ⟨W',hrun,hown',hg⟩:=hown.update keyed Tryz.underlying268 (Nat.lt_of_le_of_lt hs hc) (keyK hi) (show heldE x=some (.held x,[]) from rfl)
 have hT:=hown.tidy keyed
 refine ⟨W',hrun,⟨_,_,hown',by omega,fun k hk=>?_⟩,But.of_some hg (by simp)⟩
 by_cases e:k=i
 ·subst e
  rw [upd_same]
  exact atKey_put_same hT.isMap (keyLit hk) _ _
 ·rw [upd_ne e]
  exact (atKey_put_other (lit_ne e) _ _).trans (hD k hk)
end
section
variable (w:World) {ops:Array Oper} {rest:List Oper} {o:Oper} {a:Act} {Q:Exit->Act->World->Prop}
theorem wpList_insD (hg:o.guard=none) (m x v:Operand) (hop:o.op=Op.insert 268 m x v)
  (hR:∃ M g c,a.eval m=.map (some M)/\MapD w M g c/\c+1<256/\a.eval x=.int .u8 ((c+1:Nat):Int)/\∀ w',MapD w' M (upd g (c+1) (some (a.eval v))) (c+1)->But [M] w w'->wpList Tryz.prog ops Q rest (a.put o.dst undef) w') :
  wpList Tryz.prog ops Q (o::rest) a w:=by
 obtain ⟨M,g,c,hm,h,hc,hx,hK⟩:=hR
 refine wpList_plain hg fun K' hK'=>?_
 obtain ⟨w',hrun,r1,r2⟩:=h.store (by unfold maxLen;omega) hc (a.eval v)
 unfold Oper.wp
 simp [execOp,hop,hm,hx,Result.andThen]
 have hrun':(Instr.mapUpdate 268 (.map (some M)) (.int .u8 ((c:Int)+1)) (a.eval v)).run Tryz.prog w=.ok () w':=by simpa using hrun
 rw [hrun']
 exact hK' _ _ (hK w' r1 r2)
end
def fnO (f:FuncId):Value:=.func (.func f) #[] #[]
def fnT (f:FuncId) (T:Nat):Value:=.func (.func f) #[] #[.pointer (some ⟨T,0,none⟩)]
def deedOf (T:Nat) (o:Nat):Value:=match o with
 | 1=>.agg #[fnT 187 T,fnO 185]
 | 2=>.agg #[fnT 188 T,fnO 185]
 | 3=>.agg #[fnO 184,fnO 186]
 | _=>.agg #[fnO 184,fnT 189 T]
def DMap (W:World) (M T:Nat):Prop:=∃ g,MapD W M g 4/\∀ o,locO o=true->g o=some (deedOf T o)
theorem DMap.lt {W:World} {M T:Nat} (h:DMap W M T):M<W.heap.size:=by obtain ⟨_,h,_⟩:=h;exact h.lt
theorem DMap.of_block {W W':World} {M T:Nat} (h:DMap W M T) (hb:W'.heap[M]?=W.heap[M]?):DMap W' M T:=by obtain ⟨g,h1,h2⟩:=h;exact ⟨g,h1.of_block hb,h2⟩
theorem DMap.is {W:World} {M T:Nat} (h:DMap W M T):∃ es clock,W.heap[M]?=some (.map es clock):=by obtain ⟨_,h,_⟩:=h;exact h.is
theorem DMap.look {W:World} {M T:Nat} (h:DMap W M T) {o:Nat} (ho:locO o=true):(Instr.lookup 268 (.map (some M)) (.int .u8 (o:Int)) false).run Tryz.prog W=.ok (deedOf T o) W:=by
 obtain ⟨g,h1,h2⟩:=h
 rw [h1.look (by have:=locO_iff.1 ho;omega),h2 o ho];rfl
theorem deeds_any (q:Option Addr) (w:World) :
  Calls Tryz.prog 179 #[.pointer q] w fun e w'=>e=.returned (.map (some (w.heap.size+1)))/\DMap w' (w.heap.size+1) w.heap.size/\Boxed w' w.heap.size 257 (.pointer q)/\Below w.heap.size w w':=by
 have hmf:∀ (fn:Fn) (first cap:Array Value) (w:World),(Instr.makeFunc fn first cap).run Tryz.prog w=.ok (.func fn first cap) w:=fun _ _ _ _=>rfl
 have hmm:=@run_makeMap Tryz.prog
 have hX:=(Boxed.new w 257 (.pointer q)).alloc (.map #[] 0)
 have hM:=mapD_made (w.alloc (.cells #[.pointer q] 257))
 rw [World.size_alloc] at hM
 have hB:Below w.heap.size w ((w.alloc (.cells #[.pointer q] 257)).alloc (.map #[] 0)):=below2 w _ _
 go_enter Tryz.func179,Tryz.ntmps179
 go_wp2_with (refine wpList_insD _ rfl _ _ _ rfl ?_;refine ⟨w.heap.size+1,_,_,rfl,hM,?_,?_,?_⟩;(next=>decide);(next=>rfl);go_frame;intro wx hMx hbx;have hXx:=hbx.boxed hX (by simp);have hBx:=below_ins hB (by omega) hbx;clear hX hB hM hbx;have hX:=hXx;have hB:=hBx;have hM:=hMx;clear hXx hBx hMx)
 go_ret
 refine ⟨rfl,⟨_,hM,fun o ho=>?_⟩,hX,hB⟩
 have:=locO_iff.1 ho
 obtain rfl | rfl | rfl | rfl:o=1 \/ o=2 \/ o=3 \/ o=4:=by omega
 all_goals rfl
structure Doer (W:World) (A X T1 T2 M:Nat):Prop where
 x:Boxed W X 268 (.map (some M))
 t1:Boxed W T1 257 (.pointer (some ⟨A,0,none⟩))
 t2:Boxed W T2 257 (.pointer (some ⟨A,0,none⟩))
 m:DMap W M T2
def doerV (X T1:Nat):Value:=.func (.func 180) #[] #[.pointer (some ⟨X,0,none⟩),.pointer (some ⟨T1,0,none⟩)]
theorem doer_any (A:Nat) (w:World) :
  Calls Tryz.prog 169 #[.pointer (some ⟨A,0,none⟩)] w fun e w'=>∃ X,e=.returned (doerV X w.heap.size)/\Doer w' A X w.heap.size (w.heap.size+1) (w.heap.size+1+1)/\w.heap.size+1+1<X/\Below w.heap.size w w':=by
 have hmf:∀ (fn:Fn) (first cap:Array Value) (w:World),(Instr.makeFunc fn first cap).run Tryz.prog w=.ok (.func fn first cap) w:=fun _ _ _ _=>rfl
 have hX:=Boxed.new w 257 (.pointer (some ⟨A,0,none⟩))
 have hB:Below w.heap.size w (w.alloc (.cells #[.pointer (some ⟨A,0,none⟩)] 257)):=(Below.refl _ w).alloc (Nat.le_refl _) _
 have hc:=deeds_any (some ⟨A,0,none⟩) (w.alloc (.cells #[.pointer (some ⟨A,0,none⟩)] 257))
 rw [World.size_alloc] at hc
 go_enter Tryz.func169,Tryz.ntmps169
 go_wp2_with fail
 refine hc.mono ?_
 rintro e w1 ⟨rfl,hM,hT,hb⟩
 have hX1:Boxed w1 w.heap.size 257 (.pointer (some ⟨A,0,none⟩)):=(hb.block _ (by omega)).trans hX
 have hB1:Below w.heap.size w w1:=hB.trans (hb.mono (by omega))
 have hlt:=hM.lt
 clear hc hX hB hb
 go_wp2_with fail
 go_ret
 exact ⟨w1.heap.size,rfl,⟨Boxed.new _ _ _,hX1.alloc _,hT.alloc _,hM.of_block (Below.heap_alloc _ _ _ hM.lt)⟩,hlt,hB1.alloc hB1.size _⟩
def insA (x:In):Array Value:=#[.int .u8 (x.o:Int),.int .i64 x.a,.int .i64 x.b,.int .i64 x.c,.int .i64 x.k]
theorem deed_nothing (x:In) (w:World):Calls Tryz.prog 184 #[insV x] w fun e w'=>e=.returned (.tuple #[])/\Below w.heap.size w w':=by
 go_enter Tryz.func184,Tryz.ntmps184
 unfold insV
 go_wp2_with fail
 go_end0
 exact ⟨rfl,(Below.refl _ w).alloc (Nat.le_refl _) _⟩
theorem deed_never (x:In) (w:World):Calls Tryz.prog 185 #[insV x] w fun e w'=>e=.returned (.bool false)/\Below w.heap.size w w':=by
 go_enter Tryz.func185,Tryz.ntmps185
 unfold insV
 go_wp2_with fail
 go_ret
 exact ⟨rfl,(Below.refl _ w).alloc (Nat.le_refl _) _⟩
theorem deed_always (x:In) (w:World):Calls Tryz.prog 186 #[insV x] w fun e w'=>e=.returned (.bool true)/\Below w.heap.size w w':=by
 go_enter Tryz.func186,Tryz.ntmps186
 unfold insV
 go_wp2_with fail
 go_ret
 exact ⟨rfl,(Below.refl _ w).alloc (Nat.le_refl _) _⟩
theorem fra_cell {W:World} {A:Nat} {t:TypeId} {f:Fra} (h:Blk W A t (fraA f)) {n:Nat} (hn:n<8):W.cell? ⟨A,2+n,none⟩=some (.int .i64 (f.get n)):=h.cell (fra_get f hn)
theorem fra_put {W:World} {A:Nat} {f:Fra} (h:FrAt W A f) {n:Nat} (hn:n<8) (v:Int):FrAt (W.setCell ⟨A,2+n,none⟩ (.int .i64 v)) A (f.put n v):=by
 unfold FrAt
 rw [<- fra_set f hn]
 exact h.set _ _
theorem fra_goto {W:World} {A:Nat} {f:Fra} (h:FrAt W A f) (v:Int):FrAt (W.setCell ⟨A,1,none⟩ (.int .i64 v)) A (f.goto v):=h.set 1 _
theorem deed_set {x:In} {f:Fra} {A T n:Nat} (w:World) (hT:Boxed w T 257 (.pointer (some ⟨A,0,none⟩))) (hA:FrAt w A f) (ha:x.a=(n:Int)) (hn:n<8) :
  Calls Tryz.prog 187 #[insV x,.pointer (some ⟨T,0,none⟩)] w fun e w'=>e=.returned (.tuple #[])/\FrAt w' A (f.put n x.k)/\But [A] w w':=by
 have hX:=blk_new w 95 (insA x)
 have hT1:=hT.alloc (.cells (insA x) 95)
 have hA1:=hA.alloc (.cells (insA x) 95)
 have hb1:But [A] w (w.alloc (.cells (insA x) 95)):=(But.refl [A] w).alloc _
 obtain ⟨w1,hw1⟩:∃ w1,w1=w.alloc (.cells (insA x) 95):=⟨_,rfl⟩
 rw [<- hw1] at hX hT1 hA1 hb1
 have e0:=hT1.cell
 obtain ⟨i0,i1,i2,i3,i4⟩:=ins_cells (x:=x) hX
 rw [ha] at i1
 have HA:=Lib.hid ha
 clear ha
 have e1:=fra_cell hA1 hn
 have e2:=hA1.frozen (2+n)
 have n0:(0:Int)<=(n:Int):=by omega
 have n1:(n:Int)<8:=by omega
 go_enter Tryz.func187,Tryz.ntmps187
 unfold insV
 go_wp2_with fail
 rw [insA] at hw1
 rw [<- hw1]
 clear hw1
 go_region
 go_wp2_with fail
 go_end0
 exact ⟨rfl,fra_put hA1 hn _,(hb1.set (p:=⟨A,2+n,none⟩) (.inl (by simp)) _).drew⟩
theorem deed_add {x:In} {f:Fra} {A T n m:Nat} (w:World) (hT:Boxed w T 257 (.pointer (some ⟨A,0,none⟩))) (hA:FrAt w A f) (ha:x.a=(n:Int)) (hn:n<8) (hb:x.b=(m:Int)) (hm:m<8) :
  Calls Tryz.prog 188 #[insV x,.pointer (some ⟨T,0,none⟩)] w fun e w'=>e=.returned (.tuple #[])/\FrAt w' A (f.put n (wrap64 (f.get n+f.get m)))/\But [A] w w':=by
 have hX:=blk_new w 95 (insA x)
 have hT1:=hT.alloc (.cells (insA x) 95)
 have hA1:=hA.alloc (.cells (insA x) 95)
 have hb1:But [A] w (w.alloc (.cells (insA x) 95)):=(But.refl [A] w).alloc _
 obtain ⟨w1,hw1⟩:∃ w1,w1=w.alloc (.cells (insA x) 95):=⟨_,rfl⟩
 rw [<- hw1] at hX hT1 hA1 hb1
 have e0:=hT1.cell
 obtain ⟨i0,i1,i2,i3,i4⟩:=ins_cells (x:=x) hX
 rw [ha] at i1
 rw [hb] at i2
 have HA:=Lib.hid ha
 have HB:=Lib.hid hb
 clear ha hb
 have e1:=fra_cell hA1 hn
 have e2:=hA1.frozen (2+n)
 have e3:=fra_cell hA1 hm
 have n0:(0:Int)<=(n:Int):=by omega
 have n1:(n:Int)<8:=by omega
 have m0:(0:Int)<=(m:Int):=by omega
 have m1:(m:Int)<8:=by omega
 generalize f.get n=gn at e1 ⊢
 generalize f.get m=gm at e3 ⊢
 go_enter Tryz.func188,Tryz.ntmps188
 unfold insV
 go_wp2_with fail
 rw [insA] at hw1
 rw [<- hw1]
 clear hw1
 go_region
 go_wp2_with fail
 go_end0
 exact ⟨rfl,fra_put hA1 hn _,(hb1.set (p:=⟨A,2+n,none⟩) (.inl (by simp)) _).drew⟩
theorem deed_zero {x:In} {f:Fra} {A T n:Nat} (w:World) (hT:Boxed w T 257 (.pointer (some ⟨A,0,none⟩))) (hA:FrAt w A f) (ha:x.a=(n:Int)) (hn:n<8) :
  Calls Tryz.prog 189 #[insV x,.pointer (some ⟨T,0,none⟩)] w fun e w'=>e=.returned (.bool (f.get n == 0))/\Below w.heap.size w w':=by
 have hX:=blk_new w 95 (insA x)
 have hT1:=hT.alloc (.cells (insA x) 95)
 have hA1:=hA.alloc (.cells (insA x) 95)
 have hb1:Below w.heap.size w (w.alloc (.cells (insA x) 95)):=(Below.refl _ w).alloc (Nat.le_refl _) _
 obtain ⟨w1,hw1⟩:∃ w1,w1=w.alloc (.cells (insA x) 95):=⟨_,rfl⟩
 rw [<- hw1] at hX hT1 hA1 hb1
 have e0:=hT1.cell
 obtain ⟨i0,i1,i2,i3,i4⟩:=ins_cells (x:=x) hX
 rw [ha] at i1
 have HA:=Lib.hid ha
 clear ha
 have e1:=fra_cell hA1 hn
 have n0:(0:Int)<=(n:Int):=by omega
 have n1:(n:Int)<8:=by omega
 generalize f.get n=gn at e1 ⊢
 go_enter Tryz.func189,Tryz.ntmps189
 unfold insV
 go_wp2_with fail
 rw [insA] at hw1
 rw [<- hw1]
 clear hw1
 go_region
 go_wp2_with fail
 go_ret
 exact ⟨rfl,hb1.drew⟩
open Go.RowKit
theorem Doer.alloc {W:World} {A X T1 T2 M:Nat} (h:Doer W A X T1 T2 M) (o:Obj):Doer (W.alloc o) A X T1 T2 M:=⟨h.x.alloc o,h.t1.alloc o,h.t2.alloc o,h.m.of_block (Below.heap_alloc _ _ _ h.m.lt)⟩
theorem boxed_ne {W:World} {A B:Nat} {t u:TypeId} {v:Value} {cs:Array Value} (h:Boxed W B t v) (k:Blk W A u cs) (ht:t ≠ u):B ≠ A:=fun e=>by
 subst e
 have:=h.symm.trans k
 simp only [Option.some.injEq,Obj.cells.injEq] at this
 exact ht this.2.1
theorem Doer.but {W W':World} {A X T1 T2 M:Nat} (h:Doer W A X T1 T2 M) {f:Fra} (hA:FrAt W A f) (hb:But [A] W W'):Doer W' A X T1 T2 M:=by
 refine ⟨hb.boxed h.x ?_,hb.boxed h.t1 ?_,hb.boxed h.t2 ?_,h.m.of_block (hb.block _ h.m.lt ?_)⟩
 ·simpa using boxed_ne h.x hA (by decide)
 ·simpa using boxed_ne h.t1 hA (by decide)
 ·simpa using boxed_ne h.t2 hA (by decide)
 ·intro hm
  obtain rfl:M=A:=by simpa using hm
  obtain ⟨es,cl,hi⟩:=h.m.is
  have:=hi.symm.trans hA
  simp at this
theorem Doer.below {W W':World} {A X T1 T2 M n:Nat} (h:Doer W A X T1 T2 M) (hb:Below n W W') (hx:X<n) (h1:T1<n) (h2:T2<n) (hm:M<n):Doer W' A X T1 T2 M:=
 ⟨(hb.block _ hx).trans h.x,(hb.block _ h1).trans h.t1,(hb.block _ h2).trans h.t2,h.m.of_block (hb.block _ hm)⟩
theorem Doer.later {W W':World} {A X T1 T2 M:Nat} (h:Doer W A X T1 T2 M) (hb:Below W.heap.size W W'):Doer W' A X T1 T2 M:=h.below hb h.x.lt h.t1.lt h.t2.lt h.m.lt
theorem does_1 {b c k:Int} {n:Nat} (hn:n<8) {f:Fra} {A X T1 T2 M:Nat} (w:World) (h:Doer w A X T1 T2 M) (hA:FrAt w A f) (hp:0<=f.p/\f.p<=1000000) :
  Calls Tryz.prog 180 #[.agg #[.int .u8 1,.int .i64 (n:Int),.int .i64 b,.int .i64 c,.int .i64 k],.pointer (some ⟨X,0,none⟩),.pointer (some ⟨T1,0,none⟩)] w fun e w'=>e=.returned (.tuple #[])/\FrAt w' A ((f.put n k).goto (f.p+1))/\But [A] w w':=by
 obtain ⟨w1,hw1⟩:∃ w1,w1=(w.alloc (.cells #[.int .u8 1,.int .i64 (n:Int),.int .i64 b,.int .i64 c,.int .i64 k] 95)).alloc (.cells #[.func (.func 187) #[] #[.pointer (some ⟨T2,0,none⟩)],.func (.func 185) #[] #[]] 272):=⟨_,rfl⟩
 have hD0:=h.alloc (.cells #[.int .u8 1,.int .i64 (n:Int),.int .i64 b,.int .i64 c,.int .i64 k] 95)
 have hrun:(Instr.lookup 268 (.map (some M)) (.int .u8 1) false).run Tryz.prog (w.alloc (.cells #[.int .u8 1,.int .i64 (n:Int),.int .i64 b,.int .i64 c,.int .i64 k] 95))=.ok (.agg #[.func (.func 187) #[] #[.pointer (some ⟨T2,0,none⟩)],.func (.func 185) #[] #[]]) (w.alloc (.cells #[.int .u8 1,.int .i64 (n:Int),.int .i64 b,.int .i64 c,.int .i64 k] 95)):=hD0.m.look (o:=1) rfl
 have x0:=hD0.x.cell
 have hD1:=hD0.alloc (.cells #[.func (.func 187) #[] #[.pointer (some ⟨T2,0,none⟩)],.func (.func 185) #[] #[]] 272)
 have hA1:=(hA.alloc (.cells #[.int .u8 1,.int .i64 (n:Int),.int .i64 b,.int .i64 c,.int .i64 k] 95)).alloc (.cells #[.func (.func 187) #[] #[.pointer (some ⟨T2,0,none⟩)],.func (.func 185) #[] #[]] 272)
 have hP1:Blk w1 w.heap.size 95 #[.int .u8 1,.int .i64 (n:Int),.int .i64 b,.int .i64 c,.int .i64 k]:=by rw [hw1];exact (blk_new w _ _).alloc _
 have hG1:Blk w1 (w.heap.size+1) 272 #[.func (.func 187) #[] #[.pointer (some ⟨T2,0,none⟩)],.func (.func 185) #[] #[]]:=by rw [hw1];exact blk_at (by simp)
 have hb1:But [A] w w1:=by rw [hw1];exact ((But.refl [A] w).alloc _).alloc _
 rw [<- hw1] at hD1 hA1
 have hlA:A<w.heap.size:=hA.lt
 have hdo:=deed_set (x:=⟨1,(n:Int),b,c,k⟩) (f:=f) w1 hD1.t2 hA1 rfl hn
 go_enter Tryz.func180,Tryz.ntmps180
 go_wp2_with fail
 rw [<- hw1]
 clear hw1 hrun x0 hD0
 refine hdo.mono ?_
 rintro e w2 ⟨rfl,hA2,hb12⟩
 have hD2:=hD1.but hA1 hb12
 have hb2:But [A] w w2:=hb1.next hb12
 have hP2:=but_on hP1 hb12 (by omega)
 have hG2:=but_on hG1 hb12 (by omega)
 have hgo:=deed_never ⟨1,(n:Int),b,c,k⟩ w2
 generalize hg:(f.put n k)=g at hA2
 have hgp:g.p=f.p:=by rw [<- hg];exact put_p _ _ _
 have HG:=Lib.hid hg
 rw [<- hgp] at hp
 clear hg
 have y1:=hG2.cell (k:=1) (v:=.func (.func 185) #[] #[]) rfl
 have z0:=hP2.cell (k:=0) (v:=.int .u8 1) rfl
 have z1:=hP2.cell (k:=1) (v:=.int .i64 (n:Int)) rfl
 have z2:=hP2.cell (k:=2) (v:=.int .i64 b) rfl
 have z3:=hP2.cell (k:=3) (v:=.int .i64 c) rfl
 have z4:=hP2.cell (k:=4) (v:=.int .i64 k) rfl
 clear hdo hA1 hD1 hb1 hb12 hP1 hG1
 go_wp2_with fail
 refine hgo.mono ?_
 rintro e w3 ⟨rfl,hb23⟩
 have hA3:=hA2.later hb23 hA2.lt
 have hD3:=hD2.later hb23
 have hb3:But [A] w w3:=hb2.next (.of_below hb23 _)
 have hP3:=hP2.later hb23 hP2.lt
 have t0:=hD3.t1.cell
 have a1:=hA3.cell (k:=1) (v:=.int .i64 g.p) rfl
 have a2:=hA3.frozen 1
 have u4:=hP3.cell (k:=4) (v:=.int .i64 k) rfl
 clear hgo hA2 hD2 hb2 hb23 hP2 hG2 y1 z0 z1 z2 z3 z4
 have hw:IntKind.i64.wrap (g.p+1)=g.p+1:=by rw [IntKind.wrap_i64];omega
 go_wp2_with fail
 go_end0
 refine ⟨rfl,?_,hb3.set (p:=⟨A,1,none⟩) (.inl (by simp)) _⟩
 rw [HG.out, <- hgp]
 exact fra_goto hA3 _
theorem does_2 {c k:Int} {n m:Nat} (hn:n<8) (hm:m<8) {f:Fra} {A X T1 T2 M:Nat} (w:World) (h:Doer w A X T1 T2 M) (hA:FrAt w A f) (hp:0<=f.p/\f.p<=1000000) :
  Calls Tryz.prog 180 #[.agg #[.int .u8 2,.int .i64 (n:Int),.int .i64 (m:Int),.int .i64 c,.int .i64 k],.pointer (some ⟨X,0,none⟩),.pointer (some ⟨T1,0,none⟩)] w fun e w'=>e=.returned (.tuple #[])/\FrAt w' A ((f.put n (wrap64 (f.get n+f.get m))).goto (f.p+1))/\But [A] w w':=by
 obtain ⟨w1,hw1⟩:∃ w1,w1=(w.alloc (.cells #[.int .u8 2,.int .i64 (n:Int),.int .i64 (m:Int),.int .i64 c,.int .i64 k] 95)).alloc (.cells #[.func (.func 188) #[] #[.pointer (some ⟨T2,0,none⟩)],.func (.func 185) #[] #[]] 272):=⟨_,rfl⟩
 have hD0:=h.alloc (.cells #[.int .u8 2,.int .i64 (n:Int),.int .i64 (m:Int),.int .i64 c,.int .i64 k] 95)
 have hrun:(Instr.lookup 268 (.map (some M)) (.int .u8 2) false).run Tryz.prog (w.alloc (.cells #[.int .u8 2,.int .i64 (n:Int),.int .i64 (m:Int),.int .i64 c,.int .i64 k] 95))=.ok (.agg #[.func (.func 188) #[] #[.pointer (some ⟨T2,0,none⟩)],.func (.func 185) #[] #[]]) (w.alloc (.cells #[.int .u8 2,.int .i64 (n:Int),.int .i64 (m:Int),.int .i64 c,.int .i64 k] 95)):=hD0.m.look (o:=2) rfl
 have x0:=hD0.x.cell
 have hD1:=hD0.alloc (.cells #[.func (.func 188) #[] #[.pointer (some ⟨T2,0,none⟩)],.func (.func 185) #[] #[]] 272)
 have hA1:=(hA.alloc (.cells #[.int .u8 2,.int .i64 (n:Int),.int .i64 (m:Int),.int .i64 c,.int .i64 k] 95)).alloc (.cells #[.func (.func 188) #[] #[.pointer (some ⟨T2,0,none⟩)],.func (.func 185) #[] #[]] 272)
 have hP1:Blk w1 w.heap.size 95 #[.int .u8 2,.int .i64 (n:Int),.int .i64 (m:Int),.int .i64 c,.int .i64 k]:=by rw [hw1];exact (blk_new w _ _).alloc _
 have hG1:Blk w1 (w.heap.size+1) 272 #[.func (.func 188) #[] #[.pointer (some ⟨T2,0,none⟩)],.func (.func 185) #[] #[]]:=by rw [hw1];exact blk_at (by simp)
 have hb1:But [A] w w1:=by rw [hw1];exact ((But.refl [A] w).alloc _).alloc _
 rw [<- hw1] at hD1 hA1
 have hlA:A<w.heap.size:=hA.lt
 have hdo:=deed_add (x:=⟨2,(n:Int),(m:Int),c,k⟩) (f:=f) w1 hD1.t2 hA1 rfl hn rfl hm
 go_enter Tryz.func180,Tryz.ntmps180
 go_wp2_with fail
 rw [<- hw1]
 clear hw1 hrun x0 hD0
 refine hdo.mono ?_
 rintro e w2 ⟨rfl,hA2,hb12⟩
 have hD2:=hD1.but hA1 hb12
 have hb2:But [A] w w2:=hb1.next hb12
 have hP2:=but_on hP1 hb12 (by omega)
 have hG2:=but_on hG1 hb12 (by omega)
 have hgo:=deed_never ⟨2,(n:Int),(m:Int),c,k⟩ w2
 generalize hg:(f.put n (wrap64 (f.get n+f.get m)))=g at hA2
 have hgp:g.p=f.p:=by rw [<- hg];exact put_p _ _ _
 have HG:=Lib.hid hg
 rw [<- hgp] at hp
 clear hg
 have y1:=hG2.cell (k:=1) (v:=.func (.func 185) #[] #[]) rfl
 have z0:=hP2.cell (k:=0) (v:=.int .u8 2) rfl
 have z1:=hP2.cell (k:=1) (v:=.int .i64 (n:Int)) rfl
 have z2:=hP2.cell (k:=2) (v:=.int .i64 (m:Int)) rfl
 have z3:=hP2.cell (k:=3) (v:=.int .i64 c) rfl
 have z4:=hP2.cell (k:=4) (v:=.int .i64 k) rfl
 clear hdo hA1 hD1 hb1 hb12 hP1 hG1
 go_wp2_with fail
 refine hgo.mono ?_
 rintro e w3 ⟨rfl,hb23⟩
 have hA3:=hA2.later hb23 hA2.lt
 have hD3:=hD2.later hb23
 have hb3:But [A] w w3:=hb2.next (.of_below hb23 _)
 have hP3:=hP2.later hb23 hP2.lt
 have t0:=hD3.t1.cell
 have a1:=hA3.cell (k:=1) (v:=.int .i64 g.p) rfl
 have a2:=hA3.frozen 1
 have u4:=hP3.cell (k:=4) (v:=.int .i64 k) rfl
 clear hgo hA2 hD2 hb2 hb23 hP2 hG2 y1 z0 z1 z2 z3 z4
 have hw:IntKind.i64.wrap (g.p+1)=g.p+1:=by rw [IntKind.wrap_i64];omega
 go_wp2_with fail
 go_end0
 refine ⟨rfl,?_,hb3.set (p:=⟨A,1,none⟩) (.inl (by simp)) _⟩
 rw [HG.out, <- hgp]
 exact fra_goto hA3 _
theorem does_3 {a b c k:Int} {f:Fra} {A X T1 T2 M:Nat} (w:World) (h:Doer w A X T1 T2 M) (hA:FrAt w A f) :
  Calls Tryz.prog 180 #[.agg #[.int .u8 3,.int .i64 a,.int .i64 b,.int .i64 c,.int .i64 k],.pointer (some ⟨X,0,none⟩),.pointer (some ⟨T1,0,none⟩)] w fun e w'=>e=.returned (.tuple #[])/\FrAt w' A (f.goto k)/\But [A] w w':=by
 obtain ⟨w1,hw1⟩:∃ w1,w1=(w.alloc (.cells #[.int .u8 3,.int .i64 a,.int .i64 b,.int .i64 c,.int .i64 k] 95)).alloc (.cells #[.func (.func 184) #[] #[],.func (.func 186) #[] #[]] 272):=⟨_,rfl⟩
 have hD0:=h.alloc (.cells #[.int .u8 3,.int .i64 a,.int .i64 b,.int .i64 c,.int .i64 k] 95)
 have hrun:(Instr.lookup 268 (.map (some M)) (.int .u8 3) false).run Tryz.prog (w.alloc (.cells #[.int .u8 3,.int .i64 a,.int .i64 b,.int .i64 c,.int .i64 k] 95))=.ok (.agg #[.func (.func 184) #[] #[],.func (.func 186) #[] #[]]) (w.alloc (.cells #[.int .u8 3,.int .i64 a,.int .i64 b,.int .i64 c,.int .i64 k] 95)):=hD0.m.look (o:=3) rfl
 have x0:=hD0.x.cell
 have hD1:=hD0.alloc (.cells #[.func (.func 184) #[] #[],.func (.func 186) #[] #[]] 272)
 have hA1:=(hA.alloc (.cells #[.int .u8 3,.int .i64 a,.int .i64 b,.int .i64 c,.int .i64 k] 95)).alloc (.cells #[.func (.func 184) #[] #[],.func (.func 186) #[] #[]] 272)
 have hP1:Blk w1 w.heap.size 95 #[.int .u8 3,.int .i64 a,.int .i64 b,.int .i64 c,.int .i64 k]:=by rw [hw1];exact (blk_new w _ _).alloc _
 have hG1:Blk w1 (w.heap.size+1) 272 #[.func (.func 184) #[] #[],.func (.func 186) #[] #[]]:=by rw [hw1];exact blk_at (by simp)
 have hb1:But [A] w w1:=by rw [hw1];exact ((But.refl [A] w).alloc _).alloc _
 rw [<- hw1] at hD1 hA1
 have hlA:A<w.heap.size:=hA.lt
 have hdo:=deed_nothing ⟨3,a,b,c,k⟩ w1
 go_enter Tryz.func180,Tryz.ntmps180
 go_wp2_with fail
 rw [<- hw1]
 clear hw1 hrun x0 hD0
 refine hdo.mono ?_
 rintro e w2 ⟨rfl,hb12⟩
 have hA2:=hA1.later hb12 hA1.lt
 have hD2:=hD1.later hb12
 have hb2:But [A] w w2:=hb1.next (.of_below hb12 _)
 have hP2:=hP1.later hb12 hP1.lt
 have hG2:=hG1.later hb12 hG1.lt
 have hgo:=deed_always ⟨3,a,b,c,k⟩ w2
 have y1:=hG2.cell (k:=1) (v:=.func (.func 186) #[] #[]) rfl
 have z0:=hP2.cell (k:=0) (v:=.int .u8 3) rfl
 have z1:=hP2.cell (k:=1) (v:=.int .i64 a) rfl
 have z2:=hP2.cell (k:=2) (v:=.int .i64 b) rfl
 have z3:=hP2.cell (k:=3) (v:=.int .i64 c) rfl
 have z4:=hP2.cell (k:=4) (v:=.int .i64 k) rfl
 clear hdo hA1 hD1 hb1 hb12 hP1 hG1
 go_wp2_with fail
 refine hgo.mono ?_
 rintro e w3 ⟨rfl,hb23⟩
 have hA3:=hA2.later hb23 hA2.lt
 have hD3:=hD2.later hb23
 have hb3:But [A] w w3:=hb2.next (.of_below hb23 _)
 have hP3:=hP2.later hb23 hP2.lt
 have t0:=hD3.t1.cell
 have a1:=hA3.cell (k:=1) (v:=.int .i64 f.p) rfl
 have a2:=hA3.frozen 1
 have u4:=hP3.cell (k:=4) (v:=.int .i64 k) rfl
 clear hgo hA2 hD2 hb2 hb23 hP2 hG2 y1 z0 z1 z2 z3 z4
 go_wp2_with fail
 go_end0
 exact ⟨rfl,fra_goto hA3 _,hb3.set (p:=⟨A,1,none⟩) (.inl (by simp)) _⟩
theorem does_4 {b c k:Int} {n:Nat} (hn:n<8) {f:Fra} {A X T1 T2 M:Nat} (w:World) (h:Doer w A X T1 T2 M) (hA:FrAt w A f) (hp:0<=f.p/\f.p<=1000000) {G:Int} (HG:Hid (G=if f.get n=0 then k else f.p+1)) :
  Calls Tryz.prog 180 #[.agg #[.int .u8 4,.int .i64 (n:Int),.int .i64 b,.int .i64 c,.int .i64 k],.pointer (some ⟨X,0,none⟩),.pointer (some ⟨T1,0,none⟩)] w fun e w'=>e=.returned (.tuple #[])/\FrAt w' A (f.goto G)/\But [A] w w':=by
 obtain ⟨w1,hw1⟩:∃ w1,w1=(w.alloc (.cells #[.int .u8 4,.int .i64 (n:Int),.int .i64 b,.int .i64 c,.int .i64 k] 95)).alloc (.cells #[.func (.func 184) #[] #[],.func (.func 189) #[] #[.pointer (some ⟨T2,0,none⟩)]] 272):=⟨_,rfl⟩
 have hD0:=h.alloc (.cells #[.int .u8 4,.int .i64 (n:Int),.int .i64 b,.int .i64 c,.int .i64 k] 95)
 have hrun:(Instr.lookup 268 (.map (some M)) (.int .u8 4) false).run Tryz.prog (w.alloc (.cells #[.int .u8 4,.int .i64 (n:Int),.int .i64 b,.int .i64 c,.int .i64 k] 95))=.ok (.agg #[.func (.func 184) #[] #[],.func (.func 189) #[] #[.pointer (some ⟨T2,0,none⟩)]]) (w.alloc (.cells #[.int .u8 4,.int .i64 (n:Int),.int .i64 b,.int .i64 c,.int .i64 k] 95)):=hD0.m.look (o:=4) rfl
 have x0:=hD0.x.cell
 have hD1:=hD0.alloc (.cells #[.func (.func 184) #[] #[],.func (.func 189) #[] #[.pointer (some ⟨T2,0,none⟩)]] 272)
 have hA1:=(hA.alloc (.cells #[.int .u8 4,.int .i64 (n:Int),.int .i64 b,.int .i64 c,.int .i64 k] 95)).alloc (.cells #[.func (.func 184) #[] #[],.func (.func 189) #[] #[.pointer (some ⟨T2,0,none⟩)]] 272)
 have hP1:Blk w1 w.heap.size 95 #[.int .u8 4,.int .i64 (n:Int),.int .i64 b,.int .i64 c,.int .i64 k]:=by rw [hw1];exact (blk_new w _ _).alloc _
 have hG1:Blk w1 (w.heap.size+1) 272 #[.func (.func 184) #[] #[],.func (.func 189) #[] #[.pointer (some ⟨T2,0,none⟩)]]:=by rw [hw1];exact blk_at (by simp)
 have hb1:But [A] w w1:=by rw [hw1];exact ((But.refl [A] w).alloc _).alloc _
 rw [<- hw1] at hD1 hA1
 have hlA:A<w.heap.size:=hA.lt
 have hdo:=deed_nothing ⟨4,(n:Int),b,c,k⟩ w1
 go_enter Tryz.func180,Tryz.ntmps180
 go_wp2_with fail
 rw [<- hw1]
 clear hw1 hrun x0 hD0
 refine hdo.mono ?_
 rintro e w2 ⟨rfl,hb12⟩
 have hA2:=hA1.later hb12 hA1.lt
 have hD2:=hD1.later hb12
 have hb2:But [A] w w2:=hb1.next (.of_below hb12 _)
 have hP2:=hP1.later hb12 hP1.lt
 have hG2:=hG1.later hb12 hG1.lt
 have hgo:=deed_zero (x:=⟨4,(n:Int),b,c,k⟩) (f:=f) w2 hD2.t2 hA2 rfl hn
 have y1:=hG2.cell (k:=1) (v:=.func (.func 189) #[] #[.pointer (some ⟨T2,0,none⟩)]) rfl
 have z0:=hP2.cell (k:=0) (v:=.int .u8 4) rfl
 have z1:=hP2.cell (k:=1) (v:=.int .i64 (n:Int)) rfl
 have z2:=hP2.cell (k:=2) (v:=.int .i64 b) rfl
 have z3:=hP2.cell (k:=3) (v:=.int .i64 c) rfl
 have z4:=hP2.cell (k:=4) (v:=.int .i64 k) rfl
 clear hdo hA1 hD1 hb1 hb12 hP1 hG1
 go_wp2_with fail
 refine hgo.mono ?_
 rintro e w3 ⟨rfl,hb23⟩
 have hA3:=hA2.later hb23 hA2.lt
 have hD3:=hD2.later hb23
 have hb3:But [A] w w3:=hb2.next (.of_below hb23 _)
 have hP3:=hP2.later hb23 hP2.lt
 have t0:=hD3.t1.cell
 have a1:=hA3.cell (k:=1) (v:=.int .i64 f.p) rfl
 have a2:=hA3.frozen 1
 have u4:=hP3.cell (k:=4) (v:=.int .i64 k) rfl
 clear hgo hA2 hD2 hb2 hb23 hP2 hG2 y1 z0 z1 z2 z3 z4
 by_cases hz:f.get n=0
 ·have hzb:(f.get n == 0)=true:=by simpa using hz
  have HE:Hid (G=k):=Lib.hid (HG.out.trans (if_pos hz))
  rw [hzb]
  clear hz
  go_wp2_with fail
  go_end0
  exact ⟨rfl,by rw [HE.out];exact fra_goto hA3 _,hb3.set (p:=⟨A,1,none⟩) (.inl (by simp)) _⟩
 ·have hzb:(f.get n == 0)=false:=by simpa using hz
  have HE:Hid (G=f.p+1):=Lib.hid (HG.out.trans (if_neg hz))
  have hw:IntKind.i64.wrap (f.p+1)=f.p+1:=by rw [IntKind.wrap_i64];omega
  rw [hzb]
  clear hz
  go_wp2_with fail
  go_end0
  exact ⟨rfl,by rw [HE.out];exact fra_goto hA3 _,hb3.set (p:=⟨A,1,none⟩) (.inl (by simp)) _⟩
theorem does_any {x:In} {f:Fra} {A X T1 T2 M:Nat} (w:World) (h:Doer w A X T1 T2 M) (hA:FrAt w A f) (hl:locO x.o=true) (ha:0<=x.a/\x.a<8) (hb:0<=x.b/\x.b<8) (hp:0<=f.p/\f.p<=1000000) :
  Calls Tryz.prog 180 #[.agg #[.int .u8 (x.o:Int),.int .i64 x.a,.int .i64 x.b,.int .i64 x.c,.int .i64 x.k],.pointer (some ⟨X,0,none⟩),.pointer (some ⟨T1,0,none⟩)] w fun e w'=>e=.returned (.tuple #[])/\FrAt w' A (doF x f)/\But [A] w w':=by
 obtain ⟨o,a,b,c,k⟩:=x
 simp only at hl ha hb ⊢
 obtain ⟨n,rfl⟩:∃ n:Nat,a=(n:Int):=⟨a.toNat,by omega⟩
 obtain ⟨m,rfl⟩:∃ m:Nat,b=(m:Int):=⟨b.toNat,by omega⟩
 have hn:n<8:=by omega
 have hm:m<8:=by omega
 have:=locO_iff.1 hl
 obtain rfl | rfl | rfl | rfl:o=1 \/ o=2 \/ o=3 \/ o=4:=by omega
 ·exact does_1 hn w h hA hp
 ·exact does_2 hn hm w h hA hp
 ·exact does_3 w h hA
 ·exact does_4 hn w h hA hp (Lib.hid rfl)
end Go.Proofs.YtnfbncgfpmcpnaaGreat
