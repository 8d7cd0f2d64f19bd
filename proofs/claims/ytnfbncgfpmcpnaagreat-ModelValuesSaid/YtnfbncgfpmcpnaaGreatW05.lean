/-
  ModelValues: its walks, part W5.
-/
import Derived.Test.YtnfbncgfpmcpnaaGreatW04
set_option maxRecDepth 100000
set_option maxHeartbeats 12800000
namespace Go.Proofs.YtnfbncgfpmcpnaaGreat.Mdl
open Go.RowKit
open Mch (below1 below_nx)
def HeavyPost (w:World) (p:Prg) (n:Int) (e:Ending) (w':World):Prop:=∃ b:Bool,e=.returned (.bool b)/\(b=false->n<=200/\Tame p)/\Below w.heap.size w w'
theorem heavy_any {lo hi:Nat} {v1 v2 v3:Value} {p:Prg} (n:Int) (w:World) (h:PrgAt lo hi w v1 v2 v3 p) :
  Calls Tryz.prog 5 #[.agg #[v1,v2,v3],.int .i64 n] w (HeavyPost w p n):=by
 obtain ⟨w1,hw1⟩:∃ w1,w1=w.alloc (.cells #[v1,v2,v3] 26):=⟨_,rfl⟩
 have hB1:Below w.heap.size w w1:=by rw [hw1];exact below1 w _
 have hX1:Blk w1 w.heap.size 26 #[v1,v2,v3]:=by rw [hw1];exact blk_new w _ _
 have hl:Calls Tryz.prog 17 #[.agg #[v1,v2,v3]] w1 (LongPost w1 p):=long_any w1 (h.later hB1)
 have hs:Tame p->∀ W,Below w.heap.size w W->Calls Tryz.prog 18 #[.agg #[v1,v2,v3]] W (SlowPost W):=fun ht W hW=>slow_any W (h.later hW) ht
 have hz:(Tryz.prog.info? 26).map (·.size)=some 3:=by kernel_rfl
 have x0:w1.cell? ⟨w.heap.size,0,none⟩=some v1:=hX1.cell rfl
 have x1:w1.cell? ⟨w.heap.size,1,none⟩=some v2:=hX1.cell rfl
 have x2:w1.cell? ⟨w.heap.size,2,none⟩=some v3:=hX1.cell rfl
 clear h
 by_cases hn:200<n
 ·have dn:decide (200<n)=true:=by simpa using hn
  clear hs hl
  go_enter Tryz.func5,Tryz.ntmps5
  go_upto_region 1 with fail
  rw [<- hw1]
  clear hw1
  go_wp2_with fail
  go_ret
  exact ⟨true,rfl,by simp,hB1⟩
 ·have dn:decide (200<n)=false:=by simpa using hn
  have HN:Hid (n<=200):=Lib.hid (by omega)
  clear hn
  go_enter Tryz.func5,Tryz.ntmps5
  go_upto_region 1 with fail
  rw [<- hw1]
  clear hw1
  go_wp2_with fail
  refine hl.mono ?_
  clear hl x0 x1 x2
  rintro e w2 ⟨b,rfl,hT,hb2⟩
  have hB2:=below_nx hB1 hb2 (Nat.le_refl _)
  have hX2:=Blk.later hX1 hb2 hX1.lt
  have x0:w2.cell? ⟨w.heap.size,0,none⟩=some v1:=hX2.cell rfl
  have x1:w2.cell? ⟨w.heap.size,1,none⟩=some v2:=hX2.cell rfl
  have x2:w2.cell? ⟨w.heap.size,2,none⟩=some v3:=hX2.cell rfl
  clear hX1 hX2 hb2
  cases b with
  | true=>
   clear hs hT
   go_wp2_with fail
   go_ret
   exact ⟨true,rfl,by simp,hB2⟩
  | false=>
   have ht:=hT rfl
   have hsl:=hs ht w2 hB2
   have HT:=Lib.hid ht
   clear hs hT ht
   go_wp2_with fail
   refine hsl.mono ?_
   clear hsl x0 x1 x2
   rintro e w3 ⟨b,rfl,hb3⟩
   have hB3:=below_nx hB2 hb3 (Nat.le_refl _)
   go_wp2_with fail
   go_ret
   exact ⟨b,rfl,fun _=>⟨HN.out,HT.out⟩,hB3⟩
end Go.Proofs.YtnfbncgfpmcpnaaGreat.Mdl
namespace Go.Proofs.YtnfbncgfpmcpnaaGreat.Mch
open Go.RowKit
def RowI (w:World) (v:Value) (xs:List Int):Prop:=
 (xs = []/\∃ a cap,v=.slice a 0 cap) \/
 (∃ b off cap,v=.slice (some ⟨b,off,none⟩) xs.length cap/\0<xs.length/\b<w.heap.size/\∀ j,j<xs.length->w.cell? ⟨b,off+j,none⟩=some (.int .i64 (xs[j]?.getD 0)))
theorem RowI.below {w w':World} {v:Value} {xs:List Int} (h:RowI w v xs) (hb:Below w.heap.size w w'):RowI w' v xs:=by
 rcases h with h | ⟨b,off,cap,h1,h0,h2,h3⟩
 ·exact .inl h
 ·exact .inr ⟨b,off,cap,h1,h0,Nat.lt_of_lt_of_le h2 hb.size,fun j hj=>(hb.cell (p:=⟨b,off+j,none⟩) h2).trans (h3 j hj)⟩
theorem RowI.of_owns {w:World} {base:Nat} {v:Value} {xs:List Int} (h:w.ownsRow base 2 1 v xs.length (I64 xs)):RowI w v xs:=by
 rcases id h.2 with ⟨rfl,hz⟩ | ⟨g,cap,cur,rfl,_,hg,_⟩
 ·exact .inl ⟨List.length_eq_zero_iff.mp hz,none,0,rfl⟩
 ·by_cases hz:xs = []
  ·subst hz;exact .inl ⟨rfl,_,_,rfl⟩
  ·refine .inr ⟨g,0,cap,rfl,List.length_pos_iff.mpr hz,(Array.getElem?_eq_some_iff.mp hg).1,fun j hj=>?_⟩
   have:=h.cellAt j (by omega)
   rw [Nat.zero_add,this,I64,List.getElem?_map,List.getElem?_eq_getElem hj];rfl
theorem mem_of_getDI {xs:List Int} {k:Nat} (h:k<xs.length):xs[k]?.getD 0 ∈ xs:=by rw [List.getElem?_eq_getElem h];simp
theorem take_eq_stepI {xs ys:List Int} {k:Nat} (hx:k<xs.length) (hy:k<ys.length) (h:xs.take k=ys.take k) (he:xs[k]?.getD 0=ys[k]?.getD 0):xs.take (k+1)=ys.take (k+1):=by
 rw [take_snocI xs k hx,take_snocI ys k hy,h,he]
theorem below_next {w wx w1:World} (h:Below w.heap.size w wx) (k:Below wx.heap.size wx w1):Below w.heap.size w w1:=h.trans (k.mono h.size)
theorem ret_b {x y:Bool} (h:x=y):Ending.returned (.bool x)=.returned (.bool y):=by rw [h]
theorem same_any (a b:Value) (xs ys:List Int) (w:World) (ha:RowI w a xs) (hb:RowI w b ys) (hxl:xs.length<=9223372036854775807) (hyl:ys.length<=9223372036854775807) :
  Calls Tryz.prog 11 #[a,b] w fun e w'=>e=.returned (.bool (decide (xs=ys)))/\Below w.heap.size w w':=by
 by_cases hl:xs.length=ys.length
 ·rcases ha with ⟨rfl,a1,c1,rfl⟩ | ⟨b1,o1,c1,rfl,h0,hb1,hc1⟩
  ·obtain rfl:ys = []:=List.length_eq_zero_iff.mp hl.symm
   rcases hb with ⟨_,a2,c2,rfl⟩ | ⟨b2,o2,c2,rfl,h0,_⟩
   ·go_enter Tryz.func11,Tryz.ntmps11
    go_wp2_with fail
    refine wp_loop_rounds 1 ?_
    rw [rounds_succ]
    go_wp2_with fail
    go_ret
    exact ⟨rfl,Below.refl _ _⟩
   ·simp at h0
  ·rcases hb with ⟨rfl,a2,c2,rfl⟩ | ⟨b2,o2,c2,rfl,_,hb2,hc2⟩
   ·simp at hl;subst hl;simp at h0
   ·have hl1:((xs.length:Int) == (ys.length:Int))=true:=by simp;omega
    have hl2:((xs.length:Int) != (ys.length:Int))=false:=by simp;omega
    have HL:=Lib.hid hl
    clear hl
    go_enter Tryz.func11,Tryz.ntmps11
    go_wp2_with fail
    go_loopw [5] (fun i wr=>∃ k:Nat,i=.int .i64 k/\k<=xs.length/\Hid (xs.take k=ys.take k)/\Below w.heap.size w wr) (fun i _=>xs.length - (intOf i).toNat)
    case atStart=>exact ⟨0,rfl,Nat.zero_le _,Lib.hid (by simp),Below.refl _ _⟩
    case round=>
     obtain ⟨k,rfl,hk,HT,hbl⟩:=hrel
     by_cases hlt:k<xs.length
     ·have hlt':(k:Int)<(xs.length:Int):=by omega
      have hlt2:(k:Int)<(ys.length:Int):=by have:=HL.out;omega
      have q0:(0:Int)<=(k:Int):=by omega
      have hx:wr.cell? ⟨b1,o1+k,none⟩=some (.int .i64 (xs[k]?.getD 0)):=(hbl.cell (p:=⟨b1,o1+k,none⟩) hb1).trans (hc1 k hlt)
      have hy:wr.cell? ⟨b2,o2+k,none⟩=some (.int .i64 (ys[k]?.getD 0)):=(hbl.cell (p:=⟨b2,o2+k,none⟩) hb2).trans (hc2 k (by omega))
      obtain ⟨x,hxe⟩:∃ x,x=xs[k]?.getD 0:=⟨_,rfl⟩
      obtain ⟨y,hye⟩:∃ y,y=ys[k]?.getD 0:=⟨_,rfl⟩
      rw [<- hxe] at hx
      rw [<- hye] at hy
      have HX:=Lib.hid hxe
      have HY:=Lib.hid hye
      clear hxe hye hc1 hc2
      by_cases he:x=y
      ·subst he
       have HT':=Lib.hid (take_eq_stepI hlt (by omega) HT.out (HX.out.symm.trans HY.out))
       go_wp2_with fail
       go_quiet (fail)
       go_wp2_with fail
       go_roundw
       case rel=>exact ⟨k+1,by go_num,by omega,HT',below_drewN hbl _⟩
       case measure=>simp [intOf];omega
      ·have e1:(x == y)=false:=by simp;omega
       have e2:(x != y)=true:=by simp;omega
       have HD:Hid (decide (xs=ys)=false):=Lib.hid (by simp;rintro rfl;exact he (HX.out.trans HY.out.symm))
       clear he
       go_wp2_with fail
       go_quiet (fail)
       go_wp2_with fail
       go_ret
       exact ⟨ret_b HD.out.symm,below_drewN hbl _⟩
     ·have hlt' : ¬ (k:Int)<(xs.length:Int):=by omega
      have HD:Hid (decide (xs=ys)=true):=Lib.hid (by
       have h1:=HT.out
       rw [List.take_of_length_le (by omega),List.take_of_length_le (by have:=HL.out;omega)] at h1
       simp [h1])
      clear hc1 hc2
      go_wp2_with fail
      go_ret
      exact ⟨ret_b HD.out.symm,hbl⟩
 ·have hne:((xs.length:Int) == (ys.length:Int))=false:=by simp;omega
  have hne2:((xs.length:Int) != (ys.length:Int))=true:=by simp;omega
  have HD:Hid (decide (xs=ys)=false):=Lib.hid (by simp;rintro rfl;exact hl rfl)
  have ea:∃ p c,a=.slice p xs.length c:=by
   rcases ha with ⟨rfl,a1,c1,rfl⟩ | ⟨b1,o1,c1,rfl,_⟩
   ·exact ⟨_,_,rfl⟩
   ·exact ⟨_,_,rfl⟩
  have eb:∃ p c,b=.slice p ys.length c:=by
   rcases hb with ⟨rfl,a1,c1,rfl⟩ | ⟨b1,o1,c1,rfl,_⟩
   ·exact ⟨_,_,rfl⟩
   ·exact ⟨_,_,rfl⟩
  clear hl
  obtain ⟨p1,c1,rfl⟩:=ea
  obtain ⟨p2,c2,rfl⟩:=eb
  clear ha hb
  go_enter Tryz.func11,Tryz.ntmps11
  go_wp2_with fail
  go_ret
  exact ⟨ret_b HD.out.symm,Below.refl _ _⟩
end Go.Proofs.YtnfbncgfpmcpnaaGreat.Mch
namespace Go.Proofs.YtnfbncgfpmcpnaaGreat.Mdl
open Go.RowKit
open Mch (Frm below1 below_nx owns_slice' I64)
theorem md_offs {W W':World} {o:Nat->Nat} {B:Nat} {F:Nat->Prop} {M:Mod} (h:Md W o B M) (hF:Frm F W W') (hE:∀ k,F k->o k=0):Md W' o B M:=by
 obtain ⟨lo,hi,v1,v2,v3,vT,vC,Cs,h⟩:=h
 have hn:∀ k,o k ≠ 0->¬ F k:=fun k hk e=>hk (hE k e)
 exact ⟨lo,hi,v1,v2,v3,vT,vC,Cs,{
  head:=(hF.block B h.head.lt (hn B (by rw [h.hown];omega))).trans h.head
  hown:=h.hown
  prog:=keep_prog h.prog hF (fun k h1 h2=>hn k (by rw [h.pown k h1 h2];omega))
  pown:=h.pown
  tasks:=keep_row h.tasks hF (fun g e=>hn g (by rw [h.town g e];omega))
  town:=h.town
  chans:=keep_row h.chans hF (fun g e=>hn g (by rw [h.cown g e];omega))
  cown:=h.cown
  len:=h.len
  chs:=fun j C c hC hc=>keep_chn (h.chs j C c hC hc) hF (fun k hk=>hn k (by rw [hk];omega))
  low:=fun k hk=>Nat.lt_of_lt_of_le (h.low k hk) hF.size }⟩
def upd {α:Type} (f:Nat->α) (j:Nat) (a:α):Nat->α:=fun i=>if i=j then a else f i
structure Pens (W:World) (q:Nat->Nat) (X Y:Nat) (vs:Nat->Value) (xs:Nat->List Int):Prop where
 x:Blk W X 35 #[vs 0,vs 1,vs 2,vs 3,vs 4,vs 5]
 y:Blk W Y 35 #[vs 6,vs 7,vs 8,vs 9,vs 10,vs 11]
 qx:q X=1
 qy:q Y=2
 row:∀ j,j<12->W.ownsRow 0 2 1 (vs j) (xs j).length (I64 (xs j))
 own:∀ j,j<12->∀ g,(vs j).ownBlock=some g->q g=3+j
 low:∀ k,q k ≠ 0->k<W.heap.size
section
variable {W W':World} {q:Nat->Nat} {X Y:Nat} {vs:Nat->Value} {xs:Nat->List Int}
theorem Pens.keep (h:Pens W q X Y vs xs) {F:Nat->Prop} (hF:Frm F W W') (hq:∀ k,F k->q k=0):Pens W' q X Y vs xs where
 x:=(hF.block X h.x.lt (fun e=>by have:=hq X e;rw [h.qx] at this;omega)).trans h.x
 y:=(hF.block Y h.y.lt (fun e=>by have:=hq Y e;rw [h.qy] at this;omega)).trans h.y
 qx:=h.qx
 qy:=h.qy
 row:=fun j hj=>keep_row (h.row j hj) hF (fun g e f=>by have:=hq g f;rw [h.own j hj g e] at this;omega)
 own:=h.own
 low:=fun k hk=>Nat.lt_of_lt_of_le (h.low k hk) hF.size
theorem Pens.below (h:Pens W q X Y vs xs) (hb:Below W.heap.size W W'):Pens W' q X Y vs xs:=h.keep (Frm.of_below hb (fun _=>False)) (fun _ e=>e.elim)
theorem Pens.cx (h:Pens W q X Y vs xs) {c:Nat} (hc:c<6):W.cell? ⟨X,c,none⟩=some (vs c):=by
 have:c=0 \/ c=1 \/ c=2 \/ c=3 \/ c=4 \/ c=5:=by omega
 rcases this with rfl | rfl | rfl | rfl | rfl | rfl <;> exact h.x.cell rfl
theorem Pens.cy (h:Pens W q X Y vs xs) {c:Nat} (hc:c<6):W.cell? ⟨Y,c,none⟩=some (vs (6+c)):=by
 have:c=0 \/ c=1 \/ c=2 \/ c=3 \/ c=4 \/ c=5:=by omega
 rcases this with rfl | rfl | rfl | rfl | rfl | rfl <;> exact h.y.cell rfl
theorem Pens.out (h:Pens W q X Y vs xs) {j:Nat} (hj:j<12) {W1:World} (hg:W.grownBy W1 (vs j).ownBlock) {B:Nat} {T:TypeId} {V:Array Value} (hB:Blk W B T V) (hne:q B ≠ 3+j):Blk W1 B T V:=
 (hg.block B hB.lt (fun e=>hne (h.own j hj B e.symm))).trans hB
theorem Pens.at1 (h:Pens W q X Y vs xs) {j:Nat} (hj:j<12) {W1:World} (hg:W.grownBy W1 (vs j).ownBlock) {c:Nat} (hc:c<6) :
  W1.cell? ⟨X,c,none⟩=some (vs c)/\W1.frozen? ⟨X,c,none⟩=false/\W1.cell? ⟨Y,c,none⟩=some (vs (6+c))/\W1.frozen? ⟨Y,c,none⟩=false:=by
 have hX:=h.out hj hg h.x (by rw [h.qx];omega)
 have hY:=h.out hj hg h.y (by rw [h.qy];omega)
 refine ⟨?_,hX.frozen c,?_,hY.frozen c⟩
 ·have:c=0 \/ c=1 \/ c=2 \/ c=3 \/ c=4 \/ c=5:=by omega
  rcases this with rfl | rfl | rfl | rfl | rfl | rfl <;> exact hX.cell rfl
 ·have:c=0 \/ c=1 \/ c=2 \/ c=3 \/ c=4 \/ c=5:=by omega
  rcases this with rfl | rfl | rfl | rfl | rfl | rfl <;> exact hY.cell rfl
theorem Pens.out2 (h:Pens W q X Y vs xs) {j:Nat} (hj:j<12) {W1:World} (hg:W.grownBy W1 (vs j).ownBlock) {B:Nat} {T:TypeId} {V:Array Value} (hB:Blk W B T V) (hne:q B=0) {c:Nat} {v:Value} :
  Blk (W1.setCell ⟨X,c,none⟩ v) B T V/\Blk (W1.setCell ⟨Y,c,none⟩ v) B T V:=
 have h1:=h.out hj hg hB (by omega)
 ⟨h1.beside (fun e=>by rw [e,h.qx] at hne;omega) v,h1.beside (fun e=>by rw [e,h.qy] at hne;omega) v⟩
theorem Pens.app {W1 W2:World} (h:Pens W q X Y vs xs) {j:Nat} (hj:j<12) {v':Value} (z:Int) (hown:W1.ownsRow 0 2 1 v' (xs j ++ [z]).length (I64 (xs j ++ [z])))
  (hg:W.grownBy W1 (vs j).ownBlock) (hat:v'.ownBlock=(vs j).ownBlock \/ v'.ownBlock=some W.heap.size)
  (hW2:W2=W1.setCell ⟨if j<6 then X else Y,if j<6 then j else j - 6,none⟩ v') :
  ∃ q',Pens W2 q' X Y (upd vs j v') (upd xs j (xs j ++ [z]))/\(∀ k,k<W.heap.size->q' k=q k)/\Frm (fun k=>q k ≠ 0) W W2:=by
 have hXlt:=h.x.lt
 have hYlt:=h.y.lt
 have hPlt:(if j<6 then X else Y)<W.heap.size:=by split <;> assumption
 have hPq:q (if j<6 then X else Y)=1 \/ q (if j<6 then X else Y)=2:=by split;exact .inl h.qx;exact .inr h.qy
 have hsz:W2.heap.size=W1.heap.size:=by rw [hW2];simp [World.setCell]
 have hF1:Frm (fun k=>q k ≠ 0) W W1:=⟨hg.os,hg.tape,hg.output,hg.size,fun k hk hn=>hg.block k hk (fun e=>hn (by rw [h.own j hj k e.symm];omega))⟩
 have hF:Frm (fun k=>q k ≠ 0) W W2:=by
  rw [hW2]
  exact Mch.Frm.trans_new hF1 (Mch.Frm.set (p:=⟨if j<6 then X else Y,if j<6 then j else j - 6,none⟩) (F:=fun k=>q k ≠ 0) W1 v' (by rcases hPq with e | e <;> (show q _ ≠ 0;rw [e];omega))) (fun i hi=>.inl hi)
 have hne:∀ g,v'.ownBlock=some g->g ≠ (if j<6 then X else Y):=fun g e1 e2=>by
  rcases hat with e | e
  ·have:=h.own j hj g (by rw [<- e];exact e1)
   rw [e2] at this
   rcases hPq with e3 | e3 <;> omega
  ·rw [e1] at e
   have:g=W.heap.size:=by simpa using e
   omega
 have hX1:Blk W1 X 35 #[vs 0,vs 1,vs 2,vs 3,vs 4,vs 5]:=(hg.block X hXlt (fun e=>by have:=h.own j hj X e.symm;rw [h.qx] at this;omega)).trans h.x
 have hY1:Blk W1 Y 35 #[vs 6,vs 7,vs 8,vs 9,vs 10,vs 11]:=(hg.block Y hYlt (fun e=>by have:=h.own j hj Y e.symm;rw [h.qy] at this;omega)).trans h.y
 have hXY:X ≠ Y:=fun e=>by have:=h.qx;rw [e,h.qy] at this;omega
 have hset:∀ k,k ≠ (if j<6 then X else Y)->W2.heap[k]?=W1.heap[k]?:=fun k hk=>by rw [hW2];exact Below.heap_setCell W1 _ v' k hk
 have hF12:Frm (fun k=>k=(if j<6 then X else Y)) W1 W2:=by
  rw [hW2];exact Mch.Frm.set (p:=⟨if j<6 then X else Y,if j<6 then j else j - 6,none⟩) (F:=fun k=>k=(if j<6 then X else Y)) W1 v' rfl
 refine ⟨fun k=>if v'.ownBlock=some k then 3+j else q k,?_,?_,hF⟩
 ·refine { x:=?_,y:=?_,qx:=?_,qy:=?_,row:=?_,own:=?_,low:=?_ }
  ·by_cases h6:j<6
   ·rw [hW2];simp only [h6,if_true]
    have:=hX1.set j v'
    have e:j=0 \/ j=1 \/ j=2 \/ j=3 \/ j=4 \/ j=5:=by omega
    rcases e with rfl | rfl | rfl | rfl | rfl | rfl <;> simpa [upd] using this
   ·have hb:Blk W2 X 35 #[vs 0,vs 1,vs 2,vs 3,vs 4,vs 5]:=(hset X (by rw [if_neg h6];exact hXY)).trans hX1
    have n0:∀ i,i<6->upd vs j v' i=vs i:=fun i hi=>by unfold upd;rw [if_neg (by omega)]
    rw [n0 0 (by omega),n0 1 (by omega),n0 2 (by omega),n0 3 (by omega),n0 4 (by omega),n0 5 (by omega)]
    exact hb
  ·by_cases h6:j<6
   ·have hb:Blk W2 Y 35 #[vs 6,vs 7,vs 8,vs 9,vs 10,vs 11]:=(hset Y (by rw [if_pos h6];exact fun e=>hXY e.symm)).trans hY1
    have n0:∀ i,6<=i->upd vs j v' i=vs i:=fun i hi=>by unfold upd;rw [if_neg (by omega)]
    rw [n0 6 (by omega),n0 7 (by omega),n0 8 (by omega),n0 9 (by omega),n0 10 (by omega),n0 11 (by omega)]
    exact hb
   ·rw [hW2];simp only [h6,if_false]
    have:=hY1.set (j - 6) v'
    have e:j=6 \/ j=7 \/ j=8 \/ j=9 \/ j=10 \/ j=11:=by omega
    rcases e with rfl | rfl | rfl | rfl | rfl | rfl <;> simpa [upd] using this
  ·rw [if_neg (fun e=>?_)]
   ·exact h.qx
   ·rcases hat with e1 | e1
    ·have:=h.own j hj X (by rw [<- e1];exact e)
     rw [h.qx] at this;omega
    ·rw [e] at e1
     have:X=W.heap.size:=by simpa using e1
     omega
  ·rw [if_neg (fun e=>?_)]
   ·exact h.qy
   ·rcases hat with e1 | e1
    ·have:=h.own j hj Y (by rw [<- e1];exact e)
     rw [h.qy] at this;omega
    ·rw [e] at e1
     have:Y=W.heap.size:=by simpa using e1
     omega
  ·intro i hi
   unfold upd
   by_cases hij:i=j
   ·rw [if_pos hij,if_pos hij]
    exact keep_row hown hF12 (fun g e=>hne g e)
   ·rw [if_neg hij,if_neg hij]
    have h1:=keep_row (h.row i hi) (W':=W1) (G:=fun k=>some k=(vs j).ownBlock) ⟨hg.os,hg.tape,hg.output,hg.size,fun k hk hn=>hg.block k hk hn⟩ (fun g e e2=>by
     have a1:=h.own i hi g e
     have a2:=h.own j hj g e2.symm
     omega)
    exact keep_row h1 hF12 (fun g e e2=>by
     have a1:=h.own i hi g e
     rw [e2] at a1
     rcases hPq with e3 | e3 <;> omega)
  ·intro i hi g e
   unfold upd at e
   by_cases hij:i=j
   ·rw [if_pos hij] at e
    rw [if_pos e,hij]
   ·rw [if_neg hij] at e
    have a1:=h.own i hi g e
    rw [if_neg (fun e1=>?_)]
    ·exact a1
    ·rcases hat with e2 | e2
     ·have a2:=h.own j hj g (by rw [<- e2];exact e1)
      omega
     ·rw [e1] at e2
      have a3:g=W.heap.size:=by simpa using e2
      have:=h.low g (by rw [a1];omega)
      omega
  ·intro k hk
   rw [hsz]
   by_cases e:v'.ownBlock=some k
   ·exact (hown.lt k e).2
   ·rw [if_neg e] at hk
    exact Nat.lt_of_lt_of_le (h.low k hk) hg.size
 ·intro k hk
  show (if v'.ownBlock=some k then 3+j else q k)=q k
  by_cases e:v'.ownBlock=some k
  ·rw [if_pos e]
   rcases hat with e1 | e1
   ·rw [h.own j hj k (by rw [<- e1];exact e)]
   ·rw [e] at e1
    have:k=W.heap.size:=by simpa using e1
    omega
  ·rw [if_neg e]
end
open Go.RowKit
open Ent (En)
def Keeps (M:Mod) (xs:Nat->List Int):Prop:=∀ c:Nat,c<M.C.length->xs c=xs (6+c) ++ (M.ch (c:Int)).buf
def wrote (x:En) (xs:Nat->List Int):Nat->List Int:=
 let c:=x.c.toNat
 if x.k=1 then upd xs c (xs c ++ [x.v])
 else if x.k=2 then (if x.o then upd xs (6+c) (xs (6+c) ++ [x.v]) else xs)
 else if x.k=3 then upd (upd xs c (xs c ++ [x.v])) (6+c) (xs (6+c) ++ [x.v])
 else if x.k=4 then upd (upd xs c (xs c ++ [x.u])) (6+c) (xs (6+c) ++ [x.v])
 else xs
theorem upd_same {α:Type} (f:Nat->α) (j:Nat) (a:α):upd f j a j=a:=by simp [upd]
theorem upd_ne {α:Type} (f:Nat->α) {j i:Nat} (a:α) (h:i ≠ j):upd f j a i=f i:=by simp [upd,h]
theorem keeps_new (p:Prg) (most:Nat):Keeps (newM p most) (fun _=>[]):=fun c hc=>by
 rw [ch_nat]
 simp only [newM,chsOf,List.getElem?_map]
 cases p.caps[c]? <;> simp [Cha.zero]
theorem keeps_apply {M:Mod} (hI:Inv M) {x:En} {xs:Nat->List Int} (h0:M.applyE x=0) (hk:Keeps M xs):Keeps (M.apply x) (wrote x xs):=by
 obtain ⟨hm,_⟩:=(applyE_zero hI).1 h0
 obtain ⟨hv,_,_,_⟩:=moves_ok hI _ hm
 have hA:M.apply x=M.do_ (En.at0 x):=by unfold Mod.apply;rw [if_pos h0]
 have hC:(M.apply x).C.length=M.C.length:=by rw [hA];exact do_len
 have h6:M.C.length<=6:=hI.sane.cl
 have htold:BufT x (M.ch x.c).buf:=by
  have t:=do_told hI hv
  exact ⟨t.got,t.none,t.meet,t.fill⟩
 intro c hc
 rw [hC] at hc
 have hb:=do_buf hI hv c hc
 have hbx:bufX (En.at0 x) (M.ch (c:Int)).buf=bufX x (M.ch (c:Int)).buf:=rfl
 have hcx:(En.at0 x).c=x.c:=rfl
 rw [hA,hb,hbx,hcx]
 have hkc:=hk c hc
 by_cases hcc:c=x.c.toNat
 ·rw [if_pos hcc]
  have hch:x.k<=5->(M.ch x.c).buf=(M.ch (c:Int)).buf:=fun h5=>by
   have:=hv.ch h5
   have e:x.c=(c:Int):=by rw [hcc];have h1:0<=x.c:=this.1;omega
   rw [e]
  unfold wrote
  simp only [<- hcc]
  by_cases k1:x.k=1
  ·rw [if_pos k1,upd_same,upd_ne _ _ (by omega),hkc]
   simp [bufX,k1]
  rw [if_neg k1]
  by_cases k2:x.k=2
  ·rw [if_pos k2]
   cases ho:x.o with
   | true=>
    have hg:=htold.got k2 ho
    rw [hch (by omega)] at hg
    rw [if_pos rfl,upd_same,upd_ne _ _ (by omega),hkc]
    cases hbb:(M.ch (c:Int)).buf with
    | nil=>rw [hbb] at hg;cases hg
    | cons y r=>rw [hbb] at hg;simp only [List.head?_cons,Option.some.injEq] at hg;simp [bufX,k2,hg]
   | false=>
    have hg:=htold.none k2 ho
    rw [hch (by omega)] at hg
    rw [if_neg (by decide),hkc,hg]
    simp [bufX,k2]
  rw [if_neg k2]
  by_cases k3:x.k=3
  ·have hg:=htold.meet k3
   rw [hch (by omega)] at hg
   rw [if_pos k3,upd_ne _ _ (by omega),upd_same,upd_same,hkc,hg]
   simp [bufX,k3]
  rw [if_neg k3]
  by_cases k4:x.k=4
  ·have hg:=htold.fill k4
   rw [hch (by omega)] at hg
   rw [if_pos k4,upd_ne _ _ (by omega),upd_same,upd_same,hkc]
   cases hbb:(M.ch (c:Int)).buf with
   | nil=>rw [hbb] at hg;cases hg
   | cons y r=>rw [hbb] at hg;simp only [List.head?_cons,Option.some.injEq] at hg;simp [bufX,k4,hg]
  rw [if_neg k4,hkc]
  have:bufX x (M.ch (c:Int)).buf=(M.ch (c:Int)).buf:=by
   unfold bufX
   split
   ·rename_i e;exact absurd e k1
   ·rename_i e;exact absurd e k2
   ·rename_i e;exact absurd e k4
   ·rfl
  rw [this]
 ·rw [if_neg hcc]
  have n1:∀ (f:Nat->List Int) (a:List Int),upd f x.c.toNat a c=f c:=fun f a=>upd_ne f a hcc
  by_cases h5:x.k<=5
  ·have hx6:x.c.toNat<6:=by have:=(hv.ch h5).1;have:=(hv.ch h5).2;have e:(En.at0 x).c=x.c:=rfl;omega
   have n2:∀ (f:Nat->List Int) (a:List Int),upd f (6+x.c.toNat) a c=f c:=fun f a=>upd_ne f a (by omega)
   have n3:∀ (f:Nat->List Int) (a:List Int),upd f x.c.toNat a (6+c)=f (6+c):=fun f a=>upd_ne f a (by omega)
   have n4:∀ (f:Nat->List Int) (a:List Int),upd f (6+x.c.toNat) a (6+c)=f (6+c):=fun f a=>upd_ne f a (by omega)
   have w12:wrote x xs c=xs c/\wrote x xs (6+c)=xs (6+c):=by
    unfold wrote
    by_cases k1:x.k=1
    ·rw [if_pos k1];exact ⟨n1 _ _,n3 _ _⟩
    rw [if_neg k1]
    by_cases k2:x.k=2
    ·rw [if_pos k2];cases x.o
     ·exact ⟨rfl,rfl⟩
     ·exact ⟨n2 _ _,n4 _ _⟩
    rw [if_neg k2]
    by_cases k3:x.k=3
    ·rw [if_pos k3];exact ⟨(n2 _ _).trans (n1 _ _),(n4 _ _).trans (n3 _ _)⟩
    rw [if_neg k3]
    by_cases k4:x.k=4
    ·rw [if_pos k4];exact ⟨(n2 _ _).trans (n1 _ _),(n4 _ _).trans (n3 _ _)⟩
    rw [if_neg k4];exact ⟨rfl,rfl⟩
   rw [w12.1,w12.2];exact hkc
  ·have w1:wrote x xs=xs:=by unfold wrote;rw [if_neg (by omega),if_neg (by omega),if_neg (by omega),if_neg (by omega)]
   rw [w1];exact hkc
open Go.RowKit
open Ent (En)
open Mch (Frm below_nx I64 RowI)
theorem info64v:(Tryz.prog.info? 2).map (fun i=>(i.zero,i.size,i.bytes))=some (some (.int .i64 0),1,8):=by kernel_rfl
theorem i64_snoc (xs:List Int) (z:Int):I64 (xs ++ [z])=I64 xs ++ [.int .i64 z]:=by simp [I64]
theorem rows_split2 {W:World} {base g cap:Nat} {P T l:List Int} (hP:P=T ++ l) (h:W.ownsRow base 2 1 (.slice (some ⟨g,0,none⟩) P.length cap) P.length (I64 P)) :
  RowI W (.slice (some ⟨g,0,none⟩) T.length cap) T/\∀ c,RowI W (.slice (some ⟨g,T.length,none⟩) l.length c) l:=by
 have hlt:g<W.heap.size:=(h.lt g (by simp [Value.ownBlock])).2
 have hl:P.length=T.length+l.length:=by rw [hP,List.length_append]
 have hc:∀ j,j<P.length->W.cell? ⟨g,j,none⟩=some (.int .i64 (P[j]?.getD 0)):=fun j hj=>by
  rw [h.cellAt j (by omega),I64,List.getElem?_map,List.getElem?_eq_getElem hj];rfl
 constructor
 ·by_cases h0:T = []
  ·subst h0;exact .inl ⟨rfl,_,_,rfl⟩
  ·refine .inr ⟨g,0,cap,rfl,List.length_pos_iff.mpr h0,hlt,fun j hj=>?_⟩
   rw [Nat.zero_add,hc j (by omega),hP,List.getElem?_append_left hj]
 ·intro c
  by_cases h0:l = []
  ·subst h0;exact .inl ⟨rfl,_,_,rfl⟩
  ·refine .inr ⟨g,T.length,c,rfl,List.length_pos_iff.mpr h0,hlt,fun j hj=>?_⟩
   rw [hc (T.length+j) (by omega),hP,List.getElem?_append_right (by omega),Nat.add_sub_cancel_left]
theorem same_yes2 (a b:Value) (xs:List Int) (w:World) (ha:RowI w a xs) (hb:RowI w b xs) (hxl:xs.length<=1000) :
  Calls Tryz.prog 11 #[a,b] w fun e w'=>e=.returned (.bool true)/\Below w.heap.size w w':=by
 have:=Mch.same_any a b xs xs w ha hb (by omega) (by omega)
 simpa using this
structure VB (w2:World) (A X Y nC m:Nat) (W:World) (o:Nat->Nat) (M:Mod) (q:Nat->Nat) (vs:Nat->Value) (xs:Nat->List Int):Prop where
 run:Runs w2 o A M W
 pens:Pens W q X Y vs xs
 dis:∀ j,q j ≠ 0->o j=0/\w2.heap.size<=j
 len:M.C.length=nC
 small:∀ j,(xs j).length<=m
section
variable {w2 W W':World} {A X Y nC m:Nat} {o o':Nat->Nat} {M N:Mod} {q:Nat->Nat} {vs:Nat->Value} {xs:Nat->List Int}
theorem VB.below (h:VB w2 A X Y nC m W o M q vs xs) (hb:Below W.heap.size W W'):VB w2 A X Y nC m W' o M q vs xs:=
 ⟨h.run.below hb,h.pens.below hb,h.dis,h.len,h.small⟩
theorem VB.more (h:VB w2 A X Y nC m W o M q vs xs) {m':Nat} (hm:m<=m'):VB w2 A X Y nC m' W o M q vs xs:=
 ⟨h.run,h.pens,h.dis,h.len,fun j=>Nat.le_trans (h.small j) hm⟩
theorem VB.goes (h:VB w2 A X Y nC m W o M q vs xs) (hr:Runs w2 o' A N W') (hG:Goes o o' W W') (hC:N.C.length=M.C.length):VB w2 A X Y nC m W' o' N q vs xs where
 run:=hr
 pens:=h.pens.keep hG.frm (fun k hk=>by
  by_cases e:q k=0
  ·exact e
  ·exact absurd (h.dis k e).1 hk)
 dis:=fun j hj=>⟨by rw [hG.old j (h.pens.low j hj)];exact (h.dis j hj).1,(h.dis j hj).2⟩
 len:=hC.trans h.len
 small:=h.small
theorem apply_C (x:En) (M:Mod):(M.apply x).C.length=M.C.length:=by
 unfold Mod.apply
 split
 ·exact do_len
 ·rfl
theorem VB.app {W1 W2:World} (h:VB w2 A X Y nC m W o M q vs xs) {j:Nat} (hj:j<12) {v':Value} (z:Int) (hown:W1.ownsRow 0 2 1 v' (xs j ++ [z]).length (I64 (xs j ++ [z])))
  (hg:W.grownBy W1 (vs j).ownBlock) (hat:v'.ownBlock=(vs j).ownBlock \/ v'.ownBlock=some W.heap.size)
  (hW2:W2=W1.setCell ⟨if j<6 then X else Y,if j<6 then j else j - 6,none⟩ v') :
  ∃ q',VB w2 A X Y nC (m+1) W2 o M q' (upd vs j v') (upd xs j (xs j ++ [z])):=by
 obtain ⟨q',hp,hold,hF⟩:=h.pens.app hj z hown hg hat hW2
 refine ⟨q',⟨⟨?_,h.run.inv,?_,h.run.new⟩,hp,?_,h.len,?_⟩⟩
 ·exact md_offs h.run.md hF (fun k hk=>(h.dis k hk).1)
 ·exact frm_low h.run.bel hF (fun k hk=>(h.dis k hk).2)
 ·intro i hi
  by_cases hl:i<W.heap.size
  ·rw [hold i hl] at hi
   exact h.dis i hi
  ·exact ⟨h.run.md.off (by omega),by have:=h.run.bel.size;omega⟩
 ·intro i
  unfold upd
  by_cases e:i=j
  ·rw [if_pos e,List.length_append,List.length_singleton];have:=h.small j;omega
  ·rw [if_neg e];have:=h.small i;omega
theorem VB.app2 {W1 W2:World} (h:VB w2 A X Y nC m W o M q vs xs) {B:Nat} (hB:B<W.heap.size) (hqB:q B=0) {j:Nat} (hj:j<12) {v':Value} (z:Int) (hown:W1.ownsRow 0 2 1 v' (xs j ++ [z]).length (I64 (xs j ++ [z])))
  (hg:W.grownBy W1 (vs j).ownBlock) (hat:v'.ownBlock=(vs j).ownBlock \/ v'.ownBlock=some W.heap.size)
  (hW2:W2=W1.setCell ⟨if j<6 then X else Y,if j<6 then j else j - 6,none⟩ v') :
  ∃ q',VB w2 A X Y nC (m+1) W2 o M q' (upd vs j v') (upd xs j (xs j ++ [z]))/\q' B=0:=by
 obtain ⟨q',hp,hold,hF⟩:=h.pens.app hj z hown hg hat hW2
 refine ⟨q',⟨⟨?_,h.run.inv,?_,h.run.new⟩,hp,?_,h.len,?_⟩,(hold B hB).trans hqB⟩
 ·exact md_offs h.run.md hF (fun k hk=>(h.dis k hk).1)
 ·exact frm_low h.run.bel hF (fun k hk=>(h.dis k hk).2)
 ·intro i hi
  by_cases hl:i<W.heap.size
  ·rw [hold i hl] at hi
   exact h.dis i hi
  ·exact ⟨h.run.md.off (by omega),by have:=h.run.bel.size;omega⟩
 ·intro i
  unfold upd
  by_cases e:i=j
  ·rw [if_pos e,List.length_append,List.length_singleton];have:=h.small j;omega
  ·rw [if_neg e];have:=h.small i;omega
end
end Go.Proofs.YtnfbncgfpmcpnaaGreat.Mdl
