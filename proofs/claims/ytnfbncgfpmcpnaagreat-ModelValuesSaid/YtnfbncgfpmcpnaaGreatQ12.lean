/-
  ReplayNext: its walks, part 12.
-/
import Derived.Test.YtnfbncgfpmcpnaaGreatQ11
set_option maxRecDepth 100000
set_option maxHeartbeats 12800000
namespace Go.Proofs.YtnfbncgfpmcpnaaGreat.Ent
open Go.RowKit
def En.cellsL (x:En):List Value:=[.int .i64 x.a,.int .u8 (x.k:Int),.int .i64 x.w,.int .i64 x.t,.int .i64 x.p,.int .i64 x.c,.int .i64 x.b,.int .i64 x.q,.int .i64 x.v,.int .i64 x.u,.bool x.o,.int .i64 x.e,.int .u64 (x.s:Int)]
theorem en_len (x:En):x.cellsL.length=13:=rfl
theorem en_one (l:List En):∀ u ∈ l.flatMap En.cellsL,u.oneCell'=true:=by
 intro u hu;obtain ⟨x,_,hu⟩:=List.mem_flatMap.1 hu
 simp only [En.cellsL,List.mem_cons,List.not_mem_nil,or_false] at hu
 rcases hu with rfl | rfl | rfl | rfl | rfl | rfl | rfl | rfl | rfl | rfl | rfl | rfl | rfl <;> rfl
theorem flat_len {α:Type} (f:α->List Value) (n:Nat) (hf:∀ x,(f x).length=n) (l:List α):(l.flatMap f).length=l.length * n:=by
 induction l with
 | nil=>simp
 | cons x t ih=>rw [List.flatMap_cons,List.length_append,ih,hf,List.length_cons,Nat.succ_mul,Nat.add_comm]
theorem flat_get {α:Type} (f:α->List Value) (n:Nat) (hf:∀ x,(f x).length=n) (l:List α) (i j:Nat) (hj:j<n):(l.flatMap f)[i * n+j]?=(l[i]?).bind fun x=>(f x)[j]?:=by
 induction l generalizing i with
 | nil=>simp
 | cons x t ih=>
  rw [List.flatMap_cons]
  cases i with
  | zero=>rw [Nat.zero_mul,Nat.zero_add,List.getElem?_append_left (by rw [hf];exact hj)];rfl
  | succ i=>
   rw [List.getElem?_append_right (by rw [hf,Nat.succ_mul];omega),hf,show (i+1) * n+j - n=i * n+j by rw [Nat.succ_mul];omega,ih]
   rfl
def EnRow (W:World) (v:Value) (l:List En):Prop:=
 ∃ a cap,v=.slice a l.length cap/\(l.length=0 \/ ∃ b off,a=some ⟨b,off,none⟩/\b<W.heap.size/\∀ k x,l[k]?=some x->∀ i u,x.cellsL[i]?=some u->W.cell? ⟨b,off+k * 13+i,none⟩=some u)
theorem EnRow.slice {W:World} {v:Value} {l:List En} (h:EnRow W v l):∃ a c,v=.slice a l.length c:=by obtain ⟨a,c,h,_⟩:=h;exact ⟨a,c,h⟩
theorem EnRow.keep {W W':World} {v:Value} {l:List En} (h:EnRow W v l) (hb:But [] W W'):EnRow W' v l:=by
 obtain ⟨a,c,h1,h2⟩:=h
 refine ⟨a,c,h1,?_⟩
 rcases h2 with h2 | ⟨b,off,h3,h4,h5⟩
 ·exact .inl h2
 ·exact .inr ⟨b,off,h3,Nat.lt_of_lt_of_le h4 hb.size,fun k x hk i u hi=>hb.cell (h5 k x hk i u hi) (by simp)⟩
theorem EnRow.below {W W':World} {v:Value} {l:List En} (h:EnRow W v l) (hb:Below W.heap.size W W'):EnRow W' v l:=h.keep (But.of_below hb [])
theorem EnRow.nil (W:World):EnRow W (.slice none 0 0) []:=⟨none,0,rfl,.inl rfl⟩
theorem EnRow.at {W:World} {a:Option Addr} {n c:Nat} {l:List En} (h:EnRow W (.slice a n c) l) {k:Nat} {x:En} (hk:l[k]?=some x) :
  ∃ b off,a=some ⟨b,off,none⟩/\b<W.heap.size/\W.cell? ⟨b,off+k * 13,none⟩=some (.int .i64 x.a)/\W.cell? ⟨b,off+k * 13+1,none⟩=some (.int .u8 (x.k:Int))/\W.cell? ⟨b,off+k * 13+2,none⟩=some (.int .i64 x.w)/\W.cell? ⟨b,off+k * 13+3,none⟩=some (.int .i64 x.t)/\W.cell? ⟨b,off+k * 13+4,none⟩=some (.int .i64 x.p)/\W.cell? ⟨b,off+k * 13+5,none⟩=some (.int .i64 x.c)/\W.cell? ⟨b,off+k * 13+6,none⟩=some (.int .i64 x.b)/\W.cell? ⟨b,off+k * 13+7,none⟩=some (.int .i64 x.q)/\W.cell? ⟨b,off+k * 13+8,none⟩=some (.int .i64 x.v)/\W.cell? ⟨b,off+k * 13+9,none⟩=some (.int .i64 x.u)/\W.cell? ⟨b,off+k * 13+10,none⟩=some (.bool x.o)/\W.cell? ⟨b,off+k * 13+11,none⟩=some (.int .i64 x.e)/\W.cell? ⟨b,off+k * 13+12,none⟩=some (.int .u64 (x.s:Int)):=by
 obtain ⟨a',c',h1,h2⟩:=h
 have hlt:=(List.getElem?_eq_some_iff.1 hk).1
 simp only [Value.slice.injEq] at h1
 rcases h2 with h2 | ⟨b,off,h3,h4,h5⟩
 ·omega
 ·exact ⟨b,off,h1.1.trans h3,h4,by simpa using h5 k x hk 0 _ rfl,h5 k x hk 1 _ rfl,h5 k x hk 2 _ rfl,h5 k x hk 3 _ rfl,h5 k x hk 4 _ rfl,h5 k x hk 5 _ rfl,h5 k x hk 6 _ rfl,h5 k x hk 7 _ rfl,h5 k x hk 8 _ rfl,h5 k x hk 9 _ rfl,h5 k x hk 10 _ rfl,h5 k x hk 11 _ rfl,h5 k x hk 12 _ rfl⟩
theorem EnRow.of_owns {W:World} {base:Nat} {v:Value} {l:List En} (h:W.ownsRow base 39 13 v l.length (l.flatMap En.cellsL)):EnRow W v l:=by
 rcases id h.2 with ⟨rfl,hz⟩ | ⟨g,cap,cur,rfl,_,hg,_⟩
 ·exact ⟨none,0,by rw [hz],.inl hz⟩
 ·refine ⟨_,cap,rfl,.inr ⟨g,0,rfl,(Array.getElem?_eq_some_iff.mp hg).1,fun k x hk i u hi=>?_⟩⟩
  have hi13:i<13:=by have:=(List.getElem?_eq_some_iff.1 hi).1;rwa [en_len] at this
  have hkl:=(List.getElem?_eq_some_iff.1 hk).1
  have hf:=flat_get En.cellsL 13 en_len l k i hi13
  rw [hk,Option.bind_some,hi] at hf
  have:=h.cellAt (k * 13+i) (by omega)
  rw [Nat.zero_add,this,hf]
theorem EnRow.one (W:World) (x:En):EnRow (W.alloc (.cells #[.int .i64 x.a,.int .u8 (x.k:Int),.int .i64 x.w,.int .i64 x.t,.int .i64 x.p,.int .i64 x.c,.int .i64 x.b,.int .i64 x.q,.int .i64 x.v,.int .i64 x.u,.bool x.o,.int .i64 x.e,.int .u64 (x.s:Int)] 39)) (.slice (some ⟨W.heap.size,0,none⟩) 1 1) [x]:=by
 refine ⟨_,_,rfl,.inr ⟨W.heap.size,0,rfl,by simp,fun k y hk i u hi=>?_⟩⟩
 match k,hk with
 | 0,hk=>
  simp only [List.getElem?_cons_zero,Option.some.injEq] at hk
  subst hk
  simp only [World.cell?,World.alloc_heap_new]
  simpa [En.cellsL] using hi
end Go.Proofs.YtnfbncgfpmcpnaaGreat.Ent
namespace Go.Proofs.YtnfbncgfpmcpnaaGreat.Mch
open Go.RowKit
def I64 (xs:List Int):List Value:=xs.map (Value.int .i64)
def slotOf (f i:Nat):Nat:=(f+i) % 8
def heldBy (vs:List Int) (f n:Nat):List Int:=(List.range n).map fun i=>vs[slotOf f i]?.getD 0
def tail3 (f n m:Nat):List Value:=[Value.int .i64 (f:Int),.int .i64 (n:Int),.int .i64 (m:Int)]
def RawAt (W:World) (B:Nat) (vs:List Int) (f n m:Nat):Prop:=
 vs.length=8/\W.heap[B]?=some (.cells (I64 vs ++ tail3 f n m).toArray 173 (0,0))
def Rng (W:World) (B m:Nat) (l:List Int):Prop:=
 ∃ vs f,RawAt W B vs f l.length m/\l=heldBy vs f l.length/\f<8/\l.length<=m/\m<=8
theorem RawAt.lt {W:World} {B:Nat} {vs:List Int} {f n m:Nat} (h:RawAt W B vs f n m):B<W.heap.size:=(Array.getElem?_eq_some_iff.1 h.2).1
theorem Rng.lt {W:World} {B m:Nat} {l:List Int} (h:Rng W B m l):B<W.heap.size:=by obtain ⟨_,_,h,_⟩:=h;exact h.lt
theorem RawAt.cellAt {W:World} {B:Nat} {vs:List Int} {f n m:Nat} (h:RawAt W B vs f n m) (k:Nat):W.cell? ⟨B,k,none⟩=(I64 vs ++ tail3 f n m)[k]?:=by
 simp [World.cell?,h.2]
theorem I64_len (xs:List Int):(I64 xs).length=xs.length:=by simp [I64]
theorem RawAt.cellV {W:World} {B:Nat} {vs:List Int} {f n m:Nat} (h:RawAt W B vs f n m) {k:Nat} (hk:k<8):W.cell? ⟨B,k,none⟩=some (.int .i64 (vs[k]?.getD 0)):=by
 have hl:=h.1
 rw [h.cellAt,List.getElem?_append_left (by rw [I64_len];omega),I64,List.getElem?_map,List.getElem?_eq_getElem (by omega)];rfl
theorem RawAt.cellF {W:World} {B:Nat} {vs:List Int} {f n m:Nat} (h:RawAt W B vs f n m):W.cell? ⟨B,8,none⟩=some (.int .i64 (f:Int)):=by
 rw [h.cellAt,List.getElem?_append_right (by rw [I64_len,h.1];omega),I64_len,h.1];rfl
theorem RawAt.cellN {W:World} {B:Nat} {vs:List Int} {f n m:Nat} (h:RawAt W B vs f n m):W.cell? ⟨B,9,none⟩=some (.int .i64 (n:Int)):=by
 rw [h.cellAt,List.getElem?_append_right (by rw [I64_len,h.1];omega),I64_len,h.1];rfl
theorem RawAt.cellM {W:World} {B:Nat} {vs:List Int} {f n m:Nat} (h:RawAt W B vs f n m):W.cell? ⟨B,10,none⟩=some (.int .i64 (m:Int)):=by
 rw [h.cellAt,List.getElem?_append_right (by rw [I64_len,h.1];omega),I64_len,h.1];rfl
theorem RawAt.frozen {W:World} {B:Nat} {vs:List Int} {f n m:Nat} (h:RawAt W B vs f n m) (k:Nat):W.frozen? ⟨B,k,none⟩=false:=by
 simp [World.frozen?,h.2]
theorem RawAt.kept {W W':World} {row:Option Nat} {B:Nat} {vs:List Int} {f n m:Nat} (h:RawAt W B vs f n m) (hg:W.grownBy W' row) (hne:some B ≠ row):RawAt W' B vs f n m:=
 ⟨h.1,(hg.block B h.lt hne).trans h.2⟩
theorem Rng.kept {W W':World} {row:Option Nat} {B m:Nat} {l:List Int} (h:Rng W B m l) (hg:W.grownBy W' row) (hne:some B ≠ row):Rng W' B m l:=by
 obtain ⟨vs,f,h,r⟩:=h;exact ⟨vs,f,h.kept hg hne,r⟩
theorem RawAt.of_block {W W':World} {B:Nat} {vs:List Int} {f n m:Nat} (h:RawAt W B vs f n m) (hg:W'.heap[B]?=W.heap[B]?):RawAt W' B vs f n m:=⟨h.1,hg.trans h.2⟩
theorem RawAt.drew {W:World} {B:Nat} {vs:List Int} {f n m:Nat} (h:RawAt W B vs f n m):RawAt W.drew B vs f n m:=h
theorem heap_setCell_same {W:World} {B k:Nat} {cs:Array Value} {t:TypeId} {z:Nat × Nat} (v:Value) (h:W.heap[B]?=some (.cells cs t z)):(W.setCell ⟨B,k,none⟩ v).heap[B]?=some (.cells (cs.setIfInBounds k v) t z):=by
 obtain ⟨hlt,hk⟩:=Array.getElem?_eq_some_iff.1 h
 show (W.heap.modify B _)[B]?=_
 rw [Array.getElem?_eq_getElem (by rw [Array.size_modify];exact hlt),Array.getElem_modify_self,hk]
 rfl
theorem RawAt.setV {W:World} {B:Nat} {vs:List Int} {f n m:Nat} (h:RawAt W B vs f n m) {k:Nat} (hk:k<8) (x:Int):RawAt (W.setCell ⟨B,k,none⟩ (.int .i64 x)) B (vs.set k x) f n m:=by
 refine ⟨by simp [h.1],(heap_setCell_same _ h.2).trans ?_⟩
 have hl:=h.1
 rw [List.setIfInBounds_toArray,List.set_append_left _ _ (by rw [I64_len];omega)]
 simp [I64,List.map_set]
theorem RawAt.setF {W:World} {B:Nat} {vs:List Int} {f n m:Nat} (h:RawAt W B vs f n m) (x:Nat) {k:Int} (hk:k=(x:Int)):RawAt (W.setCell ⟨B,8,none⟩ (.int .i64 k)) B vs x n m:=by
 subst hk
 refine ⟨h.1,(heap_setCell_same _ h.2).trans ?_⟩
 have hl:=h.1
 rw [List.setIfInBounds_toArray,List.set_append_right _ _ (by rw [I64_len];omega),I64_len,hl];rfl
theorem RawAt.setN {W:World} {B:Nat} {vs:List Int} {f n m:Nat} (h:RawAt W B vs f n m) (x:Nat) {k:Int} (hk:k=(x:Int)):RawAt (W.setCell ⟨B,9,none⟩ (.int .i64 k)) B vs f x m:=by
 subst hk
 refine ⟨h.1,(heap_setCell_same _ h.2).trans ?_⟩
 have hl:=h.1
 rw [List.setIfInBounds_toArray,List.set_append_right _ _ (by rw [I64_len];omega),I64_len,hl];rfl
def putE (m:Nat) (l:List Int):Int:=if l.length=m then 4 else 0
def putL (m:Nat) (l:List Int) (v:Int):List Int:=if l.length=m then l else l ++ [v]
def takeE (l:List Int):Int:=if l = [] then 3 else 0
theorem Rng.mk' {W:World} {B m f n:Nat} {vs l:List Int} (h:RawAt W B vs f n m) (hl:l=heldBy vs f n) (hlen:l.length=n) (hf:f<8) (hn:n<=m) (hm:m<=8):Rng W B m l:=by
 subst hlen
 exact ⟨vs,f,h,hl,hf,hn,hm⟩
theorem heldBy_succ (vs:List Int) (f n:Nat):heldBy vs f (n+1)=heldBy vs f n ++ [vs[slotOf f n]?.getD 0]:=by simp [heldBy,List.range_succ]
theorem heldBy_get (vs:List Int) (f n i:Nat) (h:i<n):(heldBy vs f n)[i]?.getD 0=vs[slotOf f i]?.getD 0:=by
 simp [heldBy,List.getElem?_map,List.getElem?_range h]
theorem slotOf_lt (f i:Nat):slotOf f i<8:=Nat.mod_lt _ (by omega)
theorem slotOf_ne {f i j:Nat} (hi:i<j) (hj:j<8):slotOf f i ≠ slotOf f j:=by unfold slotOf;omega
theorem heldBy_put {vs:List Int} {f n:Nat} (hl:vs.length=8) (hn:n<8) (x:Int):heldBy (vs.set (slotOf f n) x) f (n+1)=heldBy vs f n ++ [x]:=by
 rw [heldBy_succ]
 have hs:=slotOf_lt f n
 congr 1
 ·refine List.map_congr_left fun i hi=>?_
  have hi:i<n:=List.mem_range.mp hi
  rw [List.getElem?_set_ne (slotOf_ne hi hn).symm]
 ·rw [List.getElem?_set_self (by omega)];rfl
theorem heldBy_take {vs:List Int} {f n:Nat} (hf:f<8) (hn:n<8) (x:Int):heldBy vs f (n+1)=vs[f]?.getD 0::heldBy (vs.set f x) (slotOf f 1) n:=by
 unfold heldBy
 rw [List.range_succ_eq_map,List.map_cons,List.map_map]
 congr 1
 ·rw [show slotOf f 0=f by unfold slotOf;omega]
 ·refine List.map_congr_left fun i hi=>?_
  have hi:i<n:=List.mem_range.mp hi
  have h1:slotOf (slotOf f 1) i=slotOf f (i+1):=by unfold slotOf;omega
  have h2:f ≠ slotOf f (i+1):=by unfold slotOf;omega
  show vs[slotOf f (i+1)]?.getD 0=_
  rw [h1,List.getElem?_set_ne h2]
open Go.RowKit
theorem len_ring {B m:Nat} {l:List Int} (w:World) (h:Rng w B m l) :
  Calls Tryz.prog 109 #[.pointer (some ⟨B,0,none⟩)] w fun e w'=>e=.returned (.int .i64 (l.length:Int))/\w'=w:=by
 obtain ⟨vs,f,hr,-⟩:=h
 have hn:=hr.cellN
 clear hr
 go_enter Tryz.func109,Tryz.ntmps109
 go_wp2_with fail
 go_ret
 exact ⟨rfl,rfl⟩
theorem cap_ring {B m:Nat} {l:List Int} (w:World) (h:Rng w B m l) :
  Calls Tryz.prog 181 #[.pointer (some ⟨B,0,none⟩)] w fun e w'=>e=.returned (.int .i64 (m:Int))/\w'=w:=by
 obtain ⟨vs,f,hr,-⟩:=h
 have hn:=hr.cellM
 clear hr
 go_enter Tryz.func181,Tryz.ntmps181
 go_wp2_with fail
 go_ret
 exact ⟨rfl,rfl⟩
theorem slot_int' (f i:Nat):((f:Int)+(i:Int)) % 8=(slotOf f i:Int):=by
 unfold slotOf;omega
theorem place1_ring {B C:Nat} {vs:List Int} {f n m i:Nat} (w:World) (h:RawAt w B vs f n m) (hf:f<8) (hi:i<=8) (hc:w.cell? ⟨C,0,none⟩=some (.pointer (some ⟨B,0,none⟩))) :
  Calls Tryz.prog 144 #[.int .i64 (i:Int),.pointer (some ⟨C,0,none⟩)] w fun e w'=>e=.returned (.int .i64 (slotOf f i:Int))/\w'=w:=by
 have hF:=h.cellF
 clear h
 go_enter Tryz.func144,Tryz.ntmps144
 go_wp2_with fail
 go_ret
 exact ⟨by rw [<- slot_int'];rfl,rfl⟩
theorem new_bad (k:Int) (w:World) (h1 : -9223372036854775808<=k) (h2:k<=9223372036854775807) (h:k<0 \/ 8<k) :
  Calls Tryz.prog 51 #[.int .i64 k] w fun e w'=>e=.returned (.tuple #[.pointer none,.int .i64 2])/\w'=w:=by
 go_enter Tryz.func51,Tryz.ntmps51
 rcases h with h | h
 ·go_wp2_with fail
  go_ret2
  exact ⟨rfl,rfl⟩
 ·have h' : ¬ k<0:=by omega
  go_wp2_with fail
  go_ret2
  exact ⟨rfl,rfl⟩
theorem new_ok (m:Nat) (w:World) (h:m<=8) :
  Calls Tryz.prog 51 #[.int .i64 (m:Int)] w fun e w'=>e=.returned (.tuple #[.pointer (some ⟨w.heap.size,0,none⟩),.int .i64 0])/\Rng w' w.heap.size m []/\w.grownBy w' none:=by
 have h' : ¬ (m:Int)<0:=by omega
 have h'' : ¬ (8:Int)<(m:Int):=by omega
 go_enter Tryz.func51,Tryz.ntmps51
 go_wp2_with fail
 go_ret2
 refine ⟨rfl,⟨[0,0,0,0,0,0,0,0],0,⟨rfl,World.alloc_heap_new w _⟩,rfl,by omega,by simp,h⟩,World.grownBy_alloc _ _ _⟩
theorem copy_ring {B m:Nat} {l:List Int} (w:World) (h:Rng w B m l) :
  Calls Tryz.prog 72 #[.pointer (some ⟨B,0,none⟩)] w fun e w'=>e=.returned (.pointer (some ⟨w.heap.size,0,none⟩))/\Rng w' w.heap.size m l/\w.grownBy w' none:=by
 obtain ⟨vs,f,hr,hl,hf,hn,hm⟩:=h
 have hL:=hr.1
 have H:=Lib.hid hl
 clear hl
 match vs,hL with
 | [a0,a1,a2,a3,a4,a5,a6,a7],_=>
  have hb:w.heap[B]?=_:=hr.2
  have c0:=hr.cellV (k:=0) (by omega)
  have c1:=hr.cellV (k:=1) (by omega)
  have c2:=hr.cellV (k:=2) (by omega)
  have c3:=hr.cellV (k:=3) (by omega)
  have c4:=hr.cellV (k:=4) (by omega)
  have c5:=hr.cellV (k:=5) (by omega)
  have c6:=hr.cellV (k:=6) (by omega)
  have c7:=hr.cellV (k:=7) (by omega)
  have c8:=hr.cellF
  have c9:=hr.cellN
  have c10:=hr.cellM
  simp only [List.getElem?_cons_zero,List.getElem?_cons_succ,Option.getD_some] at c0 c1 c2 c3 c4 c5 c6 c7
  clear hr hb
  go_enter Tryz.func72,Tryz.ntmps72
  go_wp2_with fail
  go_ret
  exact ⟨rfl,⟨[a0,a1,a2,a3,a4,a5,a6,a7],f,⟨rfl,World.alloc_heap_new w _⟩,H.out,hf,hn,hm⟩,World.grownBy_alloc _ _ _⟩
open Go.RowKit Go.Shelf
attribute [local go_sem] Oper.semAt_some
def KeepR (W W':World):Prop:=∀ (k:Nat) (cs:Array Value) (t:TypeId) (z:Nat × Nat),W.heap[k]?=some (Obj.cells cs t z)->(t=89 \/ t=173)->W'.heap[k]?=W.heap[k]?
theorem KeepR.trans {A B C:World} (h:KeepR A B) (k:KeepR B C):KeepR A C:=fun i cs t z hi ht=>by
 have h1:=h i cs t z hi ht
 exact (k i cs t z (h1.trans hi) ht).trans h1
theorem KeepR.raw {W W':World} (h:KeepR W W') {B:Nat} {vs:List Int} {f n m:Nat} (hr:RawAt W B vs f n m):RawAt W' B vs f n m:=
 hr.of_block (h _ _ _ _ hr.2 (.inr rfl))
theorem RawAt.below {W W':World} {B:Nat} {vs:List Int} {f n m:Nat} (h:RawAt W B vs f n m) (hb:Below W.heap.size W W'):RawAt W' B vs f n m:=h.of_block (hb.block B h.lt)
theorem Rng.below {W W':World} {B m:Nat} {l:List Int} (h:Rng W B m l) (hb:Below W.heap.size W W'):Rng W' B m l:=by
 obtain ⟨vs,f,h,r⟩:=h;exact ⟨vs,f,h.below hb,r⟩
theorem KeepR.box {W W':World} (h:KeepR W W') {B:Nat} {v:Value} (hr:Boxed W B 89 v):Boxed W' B 89 v:=
 (h _ _ _ _ hr (.inl rfl)).trans hr
theorem KeepR.grown {W W':World} {row:Option Nat} (h:W.grownBy W' row) (hr:∀ (k:Nat) (cs:Array Value) (t:TypeId) (z:Nat × Nat),row=some k->W.heap[k]?=some (Obj.cells cs t z)->t ≠ 89/\t ≠ 173):KeepR W W':=fun k cs t z hk ht=>
 h.block k (Array.getElem?_eq_some_iff.1 hk).1 (fun e=>by have:=hr k cs t z e.symm hk;rcases ht with rfl | rfl <;> simp_all)
theorem KeepR.putObj (W:World) (l:Nat) (o o':Obj) (h:W.heap[l]?=some o) (ho:o.isCells=false):KeepR W (W.putObj l o'):=
 KeepR.grown (grownBy_putObj' W l o') (fun k cs t z e hk=>by cases e;rw [hk] at h;cases h;cases ho)
theorem place_gen (p:Option Addr) (w:World) :
  Calls Tryz.prog 108 #[.pointer p] w fun e w'=>e=.returned (.func (.func 144) #[] #[.pointer (some ⟨w.heap.size,0,none⟩)])/\Boxed w' w.heap.size 89 (.pointer p)/\w.grownBy w' none:=by
 go_enter Tryz.func108,Tryz.ntmps108
 go_wp2_with fail
 go_ret
 exact ⟨rfl,Boxed.new w _ _,World.grownBy_alloc _ _ _⟩
theorem place_box (B:Nat) (w:World) :
  Calls Tryz.prog 108 #[.pointer (some ⟨B,0,none⟩)] w fun e w'=>e=.returned (.func (.func 144) #[] #[.pointer (some ⟨w.heap.size,0,none⟩)])/\Boxed w' w.heap.size 89 (.pointer (some ⟨B,0,none⟩))/\w.grownBy w' none:=place_gen _ w
theorem values_any (p:Option Addr) (w:World) :
  Calls Tryz.prog 74 #[.pointer p] w fun e w'=>e=.returned (.func (.func 107) #[] #[.pointer (some ⟨w.heap.size,0,none⟩)])/\w'=w.alloc (.cells #[.pointer p] 89):=by
 go_enter Tryz.func74,Tryz.ntmps74
 go_wp2_with fail
 go_ret
 exact ⟨rfl,rfl⟩
theorem take_snocI (xs:List Int) (k:Nat) (hk:k<xs.length):xs.take (k+1)=xs.take k ++ [xs[k]?.getD 0]:=by
 rw [List.take_add_one,List.getElem?_eq_getElem hk];rfl
theorem values1_in (n:Nat) (hn:2<=n) (l Bn B m:Nat) (ys:List Int) (J Jx:List Int->World->Prop)
    (hY:∀ pre (x:Int) W,J pre W->pre.length<8->YieldAt Fence.wide (n - 1) Tryz.prog l #[.int .i64 x] W fun e W'=>
      (e=.returned (.bool true)/\J (pre ++ [x]) W'/\KeepR W W') \/ (e=.returned (.bool false)/\Jx (pre ++ [x]) W'))
    (W:World) (hBn:Boxed W Bn 89 (.pointer (some ⟨B,0,none⟩))) (hR:Rng W B m ys) (hJ:AbidesFrom W.heap.size J) (h0:J [] W) :
    CallsIn Fence.wide n Tryz.prog 107 #[.func (.yield l) #[] #[],.pointer (some ⟨Bn,0,none⟩)] W fun e W'=>(∃ v,e=.returned v) /\
      ((∃ xs,xs=ys/\J xs W') \/ (∃ pre,pre <+: ys/\Jx pre W')):=by
  have hlen:=hR
  have hR0:=hR
  obtain ⟨vs,f,hraw,hys,hf,hnm,hm⟩:=hR
  have HY:=Lib.hid hys
  have hBc:=hBn.cell
  refine callsIn_of_wp Tryz.func107 rfl trivial ?_ rfl
  simp only [Tryz.ntmps107,List.size_toArray,List.length_cons,List.length_nil,Nat.reduceAdd,Nat.reduceSub,Array.replicate_succ,Array.replicate_zero,List.push_toArray,List.append_toArray,List.nil_append,List.cons_append]
  clear hys hlen
  gi_wp2_with (first | (refine ⟨trivial,fun _=>by omega,?_⟩;gi_at_call 108;refine (callsIn_wide.2 (place_box B _)).mono ?_;rintro e W1 ⟨rfl,hP,hg1⟩;have hB1:=hBn.kept hg1 (by simp);have hBc1:=hB1.cell;have hR1:=hR0.kept hg1 (by simp);have hJ1:=hJ [] W W1 none h0 hg1 (fun r e=>by cases e);have hraw1:=hraw.kept hg1 (by simp);clear hg1 hBn hBc h0 hR0 hraw) | (refine ⟨trivial,fun _=>by omega,?_⟩;gi_at_call 109;refine (callsIn_wide.2 (len_ring (B:=B) (m:=m) (l:=ys) _ hR1)).mono ?_;rintro e w' ⟨rfl,rfl⟩))
  clear hR1
  gi_loopw [9] (fun iv wr=>∃ i:Nat,i<=ys.length/\iv=.int .i64 i/\J (ys.take i) wr/\RawAt wr B vs f ys.length m/\Boxed wr Bn 89 (.pointer (some ⟨B,0,none⟩))/\Boxed wr W.heap.size 89 (.pointer (some ⟨B,0,none⟩))) (fun iv _=>ys.length - (intOf iv).toNat)
  case atStart=>exact ⟨0,Nat.zero_le _,rfl,by simpa using hJ1,hraw1,hB1,hP⟩
  case round=>
    obtain ⟨i,hi,rfl,hJi,hraw,hB,hPb⟩:=hrel
    clear hJ1 hraw1 hB1 hBc1 hP
    by_cases hlt:i<ys.length
    · have hlt':(i:Int)<(ys.length:Int):=by omega
      have hBc:=hB.cell
      have hPc:=hPb.cell
      have hs:=slotOf_lt f i
      have hs1:(0:Int)<=(slotOf f i:Int):=by omega
      have hs2:(slotOf f i:Int)<8:=by omega
      obtain ⟨x,hx⟩:∃ x,x=ys[i]?.getD 0:=⟨_,rfl⟩
      have hcell:wr.cell? ⟨B,slotOf f i,none⟩=some (.int .i64 x):=by
        rw [hraw.cellV hs,hx]
        conv=>rhs;rw [HY.out]
        rw [heldBy_get _ _ _ _ hlt]
      have HT:Hid (ys.take (i+1)=ys.take i ++ [x]):=Lib.hid (by rw [hx];exact take_snocI ys i hlt)
      have HX:=Lib.hid hx
      clear hx
      obtain ⟨fn,tmps,assign,body,hy,hR⟩:=hY (ys.take i) x wr.drew (hJ _ wr wr.drew none hJi ⟨rfl,rfl,rfl,Nat.le_refl _,fun _ _ _=>rfl⟩ (fun r e=>by cases e)) (by simp;omega)
      have hR':=hR.mono (R':=fun e W'=>∃ b,e=.returned (.bool b)/\Hid ((b=true/\J (ys.take i ++ [x]) W'/\KeepR wr.drew W') \/ (b=false/\Jx (ys.take i ++ [x]) W'))) (by
        rintro e W' (⟨h1,h2,h3⟩ | ⟨h1,h2⟩)
        · exact ⟨true,h1,.inl ⟨rfl,h2,h3⟩⟩
        · exact ⟨false,h1,.inr ⟨rfl,h2⟩⟩)
      have hcall:=place1_ring (B:=B) (C:=W.heap.size) (f:=f) (i:=i) wr.drew hraw.drew hf (by omega) hPc
      clear hR hJi
      gi_wp2
      gi_region_with (first | (refine ⟨trivial,fun _=>by omega,?_⟩;gi_at_call 144;refine (callsIn_wide.2 hcall).mono ?_;rintro e w' ⟨rfl,rfl⟩) | (refine ⟨fun _=>by omega,hR'.mono ?_⟩;rintro e W3 ⟨b,rfl,HB⟩))
      all_goals clear hR' hcall hy
      all_goals rcases HB.out with ⟨rfl,hJ2,hK⟩ | ⟨rfl,hJ2⟩
      all_goals clear HB
      all_goals gi_wp2
      all_goals first
        | (go_roundw
           case rel=>exact ⟨i+1,by omega,by go_num,by rw [HT.out];exact hJ2,hK.raw hraw.drew,hK.box (W:=wr.drew) hB,hK.box (W:=wr.drew) hPb⟩
           case measure=>simp [intOf];omega)
        | (refine bodyPost_ret (results_none rfl _ _ _) rfl ?_
           refine ⟨⟨_,rfl⟩,.inr ⟨_,?_,hJ2⟩⟩
           rw [<- HT.out];exact List.take_prefix _ _)
    · obtain rfl:i=ys.length:=by omega
      have hlt' : ¬ ((ys.length:Int)<(ys.length:Int)):=by omega
      rw [List.take_length] at hJi
      gi_wp2
      go_end0
      exact ⟨⟨_,rfl⟩,.inl (by first | exact hJi | exact ⟨_,rfl,hJi⟩)⟩
def IterOf (p:Option Addr) (ys:List Int) (w:World):Prop:=∀ (W:World) (Bn:Nat),Below w.heap.size w W->Boxed W Bn 89 (.pointer p)->
 SeqStopsK Fence.wide 3 Tryz.prog 107 #[.pointer (some ⟨Bn,0,none⟩)] (fun x:Int=>#[Value.int .i64 x]) KeepR (fun xs=>xs=ys) (fun pre=>pre <+: ys) 8 W
theorem iter_ring {B m:Nat} {ys:List Int} {w:World} (hR:Rng w B m ys):IterOf (some ⟨B,0,none⟩) ys w:=fun w1 Bn hw hBn l J Jx W hW hJ _ hY h0=>
 values1_in 3 (by omega) l Bn B m ys J Jx hY W ((hW.block Bn hBn.lt).trans hBn) ((hR.below hw).below hW) hJ h0
open Go.RowKit Go.Shelf
attribute [local go_sem] Oper.semAt_some
theorem boxed_abides {β:Type} (B:Nat) (t:TypeId) (f:β->Value) (m:Nat):OwnFrom m (fun (s:β) W=>Boxed W B t (f s)):=
 Own.from (fun sx A W' row hs hg hr=>hs.kept hg (fun e'=>by obtain ⟨o,ho,hc⟩:=hr _ e'.symm;rw [show A.heap[B]?=_ from hs] at ho;cases ho;cases hc)) m
theorem front_end (F0:Value) (w W:World) (D:Nat) (hD:w.heap.size<=D) (v b t0 t1 t4 t5 t6 t7 t8:Value) (h0:Boxed W w.heap.size 2 v) (h1:Boxed W (w.heap.size+1) 4 b) (hB:Below w.heap.size w W) (hK:W.heap[D]?=some (.deferred (some [])))
  (HE:Hid (Value.tuple #[v,b]=F0)) :
  bodyPostM Fence.wide 4 Tryz.prog Tryz.f183 (fun e w'=>e=.returned F0/\Below w.heap.size w w') .ret
   { tmps:=#[t0,t1,.pointer (some ⟨w.heap.size,0,none⟩),.pointer (some ⟨w.heap.size+1,0,none⟩),t4,t5,t6,t7,t8],defers:=[{ target:=Target.collected D,args:=#[] }] } W:=by
 refine ⟨by simp,.inl ⟨_,_,rfl,run_takeDeferred hK,?_⟩⟩
 have c0:=cell_kept h0.cell (grownBy_putObj' _ D (.deferred none)) (fun r e=>by cases e;exact ⟨_,hK,rfl⟩)
 have c1:=cell_kept h1.cell (grownBy_putObj' _ D (.deferred none)) (fun r e=>by cases e;exact ⟨_,hK,rfl⟩)
 refine ⟨.tuple #[v,b],?_,by rw [HE.out],hB.trans (belowK_b (w:=w) (Nat.le_refl _) _ D _ _ (by omega) hK rfl rfl)⟩
 simp [results,Tryz.f183,go_sem,c0,c1]
theorem front_of (p:Option Addr) (ys:List Int) (w:World) (hR:IterOf p ys w) :
  Calls Tryz.prog 183 #[.pointer p] w fun e w'=>e=.returned (.tuple #[.int .i64 (ys.head?.getD 0),.bool ys.head?.isSome])/\Below w.heap.size w w':=by
 refine (callsIn_wide (n:=4)).1 ?_
 refine callsIn_of_wp_marks Tryz.func183 rfl trivial ?_ rfl
 simp only [Tryz.ntmps183,List.size_toArray,List.length_cons,List.length_nil,Nat.reduceAdd,Nat.reduceSub,Array.replicate_succ,Array.replicate_zero,List.push_toArray,List.append_toArray,List.nil_append,List.cons_append]
 gi_wp2_with (refine ⟨trivial,?_⟩;gi_at_call 74;refine (callsIn_wide.2 (values_any p _)).mono ?_;rintro e w' ⟨rfl,rfl⟩)
 have b0:=Boxed.new w 2 (.int .i64 0)
 have b1:=Boxed.new (w.alloc (.cells #[.int .i64 0] 2)) 4 (.bool false)
 have b2:=Boxed.new ((w.alloc (.cells #[.int .i64 0] 2)).alloc (.cells #[.bool false] 4)) 89 (.pointer p)
 simp only [World.size_alloc] at b1 b2
 have hB0:Below w.heap.size w (((w.alloc (.cells #[.int .i64 0] 2)).alloc (.cells #[.bool false] 4)).alloc (.cells #[.pointer p] 89)):=(((Below.refl _ w).alloc (Nat.le_refl _) _).alloc (by simp) _).alloc (by simp;omega) _
 refine wpIn_rangeFunc_ownF rfl (by omega) (gf:=107) (lb:=#[.pointer (some ⟨w.heap.size+1+1,0,none⟩)]) rfl trivial (enters_of Tryz.func107 (by kernel_rfl) rfl)
  (hR _ (w.heap.size+1+1) hB0 b2) (fun h k=>KeepR.trans h k) (fun W l o o' _ hl ho _=>KeepR.putObj W l o o' hl ho) (Below.refl _ _) (fun _=>rfl)
  (fun pre W=>(Boxed W w.heap.size 2 (.int .i64 0)/\Boxed W (w.heap.size+1) 4 (.bool false))/\Below w.heap.size w W/\pre = [])
  (fun c pre W=>(Boxed W w.heap.size 2 (.int .i64 (pre.head?.getD 0))/\Boxed W (w.heap.size+1) 4 (.bool true))/\Below w.heap.size w W/\c=.ret/\pre ≠ [])
  ((OwnFrom.and (boxed_abides _ _ (fun _=>_) _) (boxed_abides _ _ (fun _=>_) _)).and (OwnFrom.and (ownFrom_below (Nat.le_refl _) (by simp;omega)) (fun _ _ _ _ h _ _=>h)))
  (fun c=>(OwnFrom.and (boxed_abides _ _ (fun pre:List Int=>.int .i64 (pre.head?.getD 0)) _) (boxed_abides _ _ (fun _=>_) _)).and (OwnFrom.and (ownFrom_below (Nat.le_refl _) (by simp;omega)) (fun _ _ _ _ h _ _=>h)))
  ⟨⟨(b0.alloc _).alloc _,b1.alloc _⟩,hB0,rfl⟩
  (fun x=>{ tmps:=#[.pointer p,undef,.pointer (some ⟨w.heap.size,0,none⟩),.pointer (some ⟨w.heap.size+1,0,none⟩),.int .i64 x,.pointer p,.func (.func 107) #[] #[.pointer (some ⟨w.heap.size+1+1,0,none⟩)],.int .i64 x,undef],defers:=[] }) ?assign ?body ?done ?stop
 case assign=>
  intro l x W K hK
  gi_wp2
  simpa using hK
 case body=>
  rintro l pre x W ⟨⟨h0,h1⟩,hB,rfl⟩ hlt
  have c0:=h0.cell
  have f0:=h0.frozen
  have c1:=h1.cell
  have f1:=h1.frozen
  gi_wp2
  refine ⟨(KeepsOthers.setCell _ _ _).trans (KeepsOthers.setCell _ _ _),⟨?_,?_⟩,(hB.setCell (p:=⟨w.heap.size,0,none⟩) (Nat.le_refl _) _).setCell (p:=⟨w.heap.size+1,0,none⟩) (by simp) _,rfl,by simp⟩
  ·exact (h0.set _).kept (grownBy_setCell' _ _ _) (by simp)
  ·exact (h1.kept (grownBy_setCell' W w.heap.size _) (by simp)).set _
 case done=>
  rintro D xs W hD hys ⟨⟨h0,h1⟩,hB,he⟩ hK
  have HE:Hid (ys = []):=Lib.hid (by rw [<- show xs=ys from hys];exact he)
  clear hys he
  have c0:=h0.cell
  have f0:=h0.frozen
  have c1:=h1.cell
  have f1:=h1.frozen
  gi_wp2
  refine front_end _ w _ D (by simp at hD;omega) (.int .i64 0) (.bool false) _ _ _ _ _ _ _ ((h0.set _).kept (grownBy_setCell' _ _ _) (by simp)) ((h1.kept (grownBy_setCell' W w.heap.size _) (by simp)).set _) ((hB.setCell (p:=⟨w.heap.size,0,none⟩) (Nat.le_refl _) _).setCell (p:=⟨w.heap.size+1,0,none⟩) (by simp) _) ?_ (Lib.hid (by rw [HE.out];rfl))
  exact ((KeepsOthers.setCell W ⟨w.heap.size,0,none⟩ _).trans (KeepsOthers.setCell _ ⟨w.heap.size+1,0,none⟩ _)).same D _ hK rfl
 case stop=>
  rintro D c pre W hD hpre ⟨⟨h0,h1⟩,hB,rfl,hne⟩ hK
  have HE:Hid (ys.head?=pre.head?/\pre.head?.isSome=true):=Lib.hid (by
   cases pre with
   | nil=>exact absurd rfl hne
   | cons x t=>obtain ⟨r,hr⟩:=hpre;rw [<- hr];exact ⟨rfl,rfl⟩)
  clear hpre hne
  gi_wp2
  exact front_end _ w W D (by simp at hD;omega) _ _ _ _ _ _ _ _ _ h0 h1 hB hK (Lib.hid (by rw [HE.out.1,HE.out.2]))
theorem owns_slice {w:World} {base:Nat} {e:TypeId} {size:Nat} {v:Value} {k:Nat} {xs:List Value} (h:w.ownsRow base e size v k xs):∃ a n c,v=.slice a n c:=by
 rcases h.2 with ⟨rfl,_⟩ | ⟨g,cap,_,rfl,_⟩
 ·exact ⟨_,_,_,rfl⟩
 ·exact ⟨_,_,_,rfl⟩
theorem front_ring {B m:Nat} {ys:List Int} (w:World) (hR:Rng w B m ys) :
  Calls Tryz.prog 183 #[.pointer (some ⟨B,0,none⟩)] w fun e w'=>e=.returned (.tuple #[.int .i64 (ys.head?.getD 0),.bool ys.head?.isSome])/\Below w.heap.size w w':=front_of _ _ w (iter_ring hR)
open Go.RowKit
theorem grownBy_drewN (w:World) (n:Nat) (row:Option Nat):w.grownBy (w.drewN n) row:=⟨rfl,rfl,rfl,Nat.le_refl _,fun _ _ _=>rfl⟩
theorem grownBy_setCell (W:World) (p:Addr) (v:Value):W.grownBy (W.setCell p v) (some p.block):=
 ⟨rfl,rfl,rfl,(KeepsWalks.setCell W _ v).size,fun k _ hk=>Below.heap_setCell _ _ _ k (fun e=>hk (by rw [e]))⟩
theorem grownBy_but {a c:World} (h:a.grownBy c none) (row:Option Nat):a.grownBy c row:=⟨h.os,h.tape,h.output,h.size,fun i hi _=>h.block i hi (by simp)⟩
theorem grown_set {w w':World} {B:Nat} (h:w.grownBy w' (some B)) (k:Nat) (v:Value):w.grownBy (w'.setCell ⟨B,k,none⟩ v) (some B):=h.trans (grownBy_setCell w' ⟨B,k,none⟩ v)
theorem grown_drew {w w':World} {row:Option Nat} (h:w.grownBy w' row):w.grownBy w'.drew row:=⟨h.os,h.tape,h.output,h.size,h.block⟩
theorem Rng.drewN {W:World} {B m:Nat} {l:List Int} (k:Nat) (h:Rng W B m l):Rng (W.drewN k) B m l:=h
theorem put_full {B m:Nat} {ys:List Int} (v:Int) (w:World) (hR:Rng w B m ys) (hfull:ys.length=m) :
  Calls Tryz.prog 175 #[.pointer (some ⟨B,0,none⟩),.int .i64 v] w fun e w'=>e=.returned (.int .i64 4)/\Rng w' B m ys/\w.grownBy w' none:=by
 obtain ⟨vs,f,hr,-⟩:=id hR
 have hN:=hr.cellN
 have hM:=hr.cellM
 have ht:((ys.length:Int) == (m:Int))=true:=by simp;omega
 clear hr
 go_enter Tryz.func175,Tryz.ntmps175
 go_wp2_with fail
 go_quiet (fail)
 go_wp2_with fail
 go_ret
 exact ⟨rfl,hR.drewN _,grownBy_drewN _ _ _⟩
theorem put_room {B m:Nat} {ys:List Int} (v:Int) (w:World) (hR:Rng w B m ys) (hfull:ys.length ≠ m) :
  Calls Tryz.prog 175 #[.pointer (some ⟨B,0,none⟩),.int .i64 v] w fun e w'=>e=.returned (.int .i64 0)/\Rng w' B m (ys ++ [v])/\w.grownBy w' (some B):=by
 obtain ⟨vs,f,hr,hys,hf,hnm,hm⟩:=id hR
 have HY:=Lib.hid hys
 have hN:=hr.cellN
 have hM:=hr.cellM
 have ht:((ys.length:Int) == (m:Int))=false:=by simp;omega
 have hs:=slotOf_lt f ys.length
 have hs1:(0:Int)<=(slotOf f ys.length:Int):=by omega
 have hs2:(slotOf f ys.length:Int)<8:=by omega
 clear hys hR
 go_enter Tryz.func175,Tryz.ntmps175
 go_wp2_with fail
 go_quiet (fail)
 go_wp2_with fail
 refine (place_box B _).mono ?_
 rintro e w1 ⟨rfl,hP,hg⟩
 have hg0:w.grownBy w1 none:=(grownBy_drewN w _ none).trans hg
 have hr1:=hr.kept hg0 (by simp)
 have hN1:=hr1.cellN
 have hM1:=hr1.cellM
 have hP1:=hP.cell
 have hz:=hr1.frozen (slotOf f ys.length)
 have hc:=hr1.cellV hs
 have hz9:=hr1.frozen 9
 have hcall:=place1_ring (B:=B) (C:=w.heap.size) (f:=f) (i:=ys.length) w1.drew hr1.drew hf (by omega) hP1
 go_wp2_with fail
 refine wp_region_still_tail 11 (by kernel_rfl) (by kernel_rfl) ?_
 simp only [List.take_succ_cons,List.take_zero,List.drop_succ_cons,List.drop_zero]
 change wpStill _ _ w1.drew (fun a'=>wpList _ _ _ _ a' w1.drew) _ _
 repeat still_step
 still_call hcall
 repeat still_step
 refine wpStill_nil ?_
 go_wp2_with fail
 go_ret
 refine ⟨rfl,Rng.mk' (n:=ys.length+1) ((hr1.setV hs v).setN (ys.length+1) (by omega)).drew ?_ (by simp) hf (by omega) hm,?_⟩
 ·rw [heldBy_put hr1.1 (by omega), <- HY.out]
 ·exact grown_drew (grown_set (grown_set (grownBy_but hg0 _) _ _) _ _)
theorem put_ring {B m:Nat} {ys:List Int} (v:Int) (w:World) (hR:Rng w B m ys) :
  Calls Tryz.prog 175 #[.pointer (some ⟨B,0,none⟩),.int .i64 v] w fun e w'=>e=.returned (.int .i64 (putE m ys))/\Rng w' B m (putL m ys v)/\w.grownBy w' (some B):=by
 by_cases h:ys.length=m
 ·rw [putE,if_pos h,putL,if_pos h]
  exact (put_full v w hR h).mono fun _ _ ⟨h1,h2,h3⟩=>⟨h1,h2,grownBy_but h3 _⟩
 ·rw [putE,if_neg h,putL,if_neg h]
  exact put_room v w hR h
theorem grownBy_of_below {w w':World} (h:Below w.heap.size w w'):w.grownBy w' none:=⟨h.os,h.tape,h.output,h.size,fun k hk _=>h.block k hk⟩
theorem take_none {B m:Nat} (w:World) (hR:Rng w B m []) :
  Calls Tryz.prog 176 #[.pointer (some ⟨B,0,none⟩)] w fun e w'=>e=.returned (.tuple #[.int .i64 0,.int .i64 3])/\Rng w' B m []/\w.grownBy w' (some B):=by
 go_enter Tryz.func176,Tryz.ntmps176
 go_wp2_with fail
 refine (front_ring _ hR).mono ?_
 rintro e w1 ⟨rfl,hb⟩
 simp only [List.head?_nil,Option.getD_none,Option.isSome_none]
 go_wp2_with fail
 go_ret2
 exact ⟨rfl,hR.below hb,grownBy_but (grownBy_of_below hb) _⟩
theorem take_some {B m:Nat} {x:Int} {t:List Int} (w:World) (hR:Rng w B m (x::t)) :
  Calls Tryz.prog 176 #[.pointer (some ⟨B,0,none⟩)] w fun e w'=>e=.returned (.tuple #[.int .i64 x,.int .i64 0])/\Rng w' B m t/\w.grownBy w' (some B):=by
 obtain ⟨vs,f,hr,hys,hf,hnm,hm⟩:=id hR
 have HY:=Lib.hid hys
 rw [List.length_cons] at hnm hr
 have hf1:(0:Int)<=(f:Int):=by omega
 have hf2:(f:Int)<8:=by omega
 clear hys
 go_enter Tryz.func176,Tryz.ntmps176
 go_wp2_with fail
 refine (front_ring _ hR).mono ?_
 rintro e w1 ⟨rfl,hb⟩
 simp only [List.head?_cons,Option.getD_some,Option.isSome_some]
 go_wp2_with fail
 refine (place_box B _).mono ?_
 rintro e w2 ⟨rfl,hP,hg⟩
 have hg0:w.grownBy w2 none:=(grownBy_of_below hb).trans hg
 have hr1:=hr.kept hg0 (by simp)
 have hF1:=hr1.cellF
 have hN1:=hr1.cellN
 have hP1:=hP.cell
 have hz:=hr1.frozen f
 have hz8:=hr1.frozen 8
 have hz9:=hr1.frozen 9
 have hc:=hr1.cellV hf
 have hBP:B<w1.heap.size:=Nat.lt_of_lt_of_le hr.lt hb.size
 have hcall:=place1_ring (B:=B) (C:=w1.heap.size) (f:=f) (i:=1) (w2.setCell ⟨B,f,none⟩ (.int .i64 0)).drew (hr1.setV hf 0).drew hf (by omega) ((World.grownBy.cell (grownBy_setCell w2 ⟨B,f,none⟩ _) hP1 (by simp;omega)))
 clear hR hb hg
 go_wp2_with fail
 go_region
 go_wp2_with fail
 refine hcall.mono ?_
 rintro e w' ⟨rfl,rfl⟩
 go_wp2_with fail
 go_ret2
 refine ⟨rfl,Rng.mk' (n:=t.length) (((hr1.setV hf 0).setF (slotOf f 1) rfl).setN t.length rfl).drew ?_ rfl (slotOf_lt f 1) (by omega) hm,?_⟩
 ·have h1:=HY.out
  rw [List.length_cons,heldBy_take hf (by omega) 0] at h1
  exact (List.cons.inj h1).2
 ·exact grown_drew (grown_set (grown_set (grown_set (grownBy_but hg0 _) _ _) _ _) _ _)
theorem take_ring {B m:Nat} {ys:List Int} (w:World) (hR:Rng w B m ys) :
  Calls Tryz.prog 176 #[.pointer (some ⟨B,0,none⟩)] w fun e w'=>e=.returned (.tuple #[.int .i64 (ys.head?.getD 0),.int .i64 (takeE ys)])/\Rng w' B m ys.tail/\w.grownBy w' (some B):=by
 cases ys with
 | nil=>
  simp only [List.head?_nil,Option.getD_none,List.tail_nil,show takeE []=3 from rfl]
  exact take_none w hR
 | cons x t=>
  simp only [List.head?_cons,Option.getD_some,List.tail_cons,show takeE (x::t)=0 from by simp [takeE]]
  exact take_some w hR
end Go.Proofs.YtnfbncgfpmcpnaaGreat.Mch
