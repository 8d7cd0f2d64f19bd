/-
  ReplayNext: its walks, part 1.
-/
import Derived.Lib.Hide
import Derived.WalkArith
import Derived.Test.YtnfbncgfpmcpnaaGreatRows
import Derived.WalkKit
import Derived.WalkLawsBesides
import Derived.WalkSpells
import Derived.Outline
import Derived.Below
import Derived.RangeFuncBox
import Derived.BigQuiet
import Derived.OwnWalk
import Derived.StillTailTactics
import Derived.Laws.StructEq
import Derived.Lib.SliceRun
import Derived.Lib.SmallJoins
import Derived.Maps.OwnSet
import Derived.Maps.OwnOps
import Derived.Maps.RangeWalk
import Derived.RangeFuncNested
import Derived.RangeFuncBound
import Derived.RangeFuncCalls
import Derived.RangeFuncLeaves
import Derived.Shelf.Abstract
import Derived.Shelf.RegionOpen
import Derived.OwnWalkIn
import Derived.TacticsInMore
import Derived.LoopNIn
import Derived.LoopIn
import Derived.Maps.AppendAt
import Derived.WalkSmall
import Derived.Laws.EntriesVeiled
import Derived.Test.YtnfbncgfpmcpnaaGreatQ00
set_option maxRecDepth 100000
set_option maxHeartbeats 12800000
namespace Go.Proofs.YtnfbncgfpmcpnaaGreat
structure In where
 o:Nat
 a:Int
 b:Int
 c:Int
 k:Int
def namesOf:Nat->List Nat
 | 1=>[0,3]
 | 2=>[0,1]
 | 3=>[4]
 | 4=>[0,4]
 | 5=>[0,2]
 | 6=>[0,1,2]
 | 7=>[2]
 | 8=>[1,5]
 | 9=>[6]
 | _=>[]
def wordL:Nat->List UInt8
 | 1=>[115,101,116]
 | 2=>[97,100,100]
 | 3=>[106,117,109,112]
 | 4=>[122,101,114,111]
 | 5=>[115,101,110,100]
 | 6=>[114,101,99,118]
 | 7=>[99,108,111,115,101]
 | 8=>[115,101,108,101,99,116]
 | 9=>[115,112,97,119,110]
 | 10=>[101,110,100]
 | _=>[]
def known (o:Nat):Bool:=decide (1<=o/\o<=10)
def In.get (x:In):Nat->Int
 | 0=>x.a
 | 1=>x.b
 | 2=>x.c
 | _=>x.k
def In.put (x:In) (n:Nat) (v:Int):In:=match n with
 | 0=>{ x with a:=v }
 | 1=>{ x with b:=v }
 | 2=>{ x with c:=v }
 | _=>{ x with k:=v }
def In.zero:In:=⟨0,0,0,0,0⟩
def In.only (o:Nat):In:=⟨o,0,0,0,0⟩
def In.eq (x y:In):Bool:=x.o == y.o && (x.a == y.a && (x.b == y.b && (x.c == y.c && x.k == y.k)))
theorem In.eq_iff {x y:In}:In.eq x y=true ↔ x=y:=by
 cases x;cases y
 simp [In.eq]
def I64b (i:Int):Prop:=-9223372036854775808<=i/\i<=9223372036854775807
structure In.ok (x:In):Prop where
 o:x.o<256
 a:I64b x.a
 b:I64b x.b
 c:I64b x.c
 k:I64b x.k
theorem i64_zero:I64b 0:=⟨by omega,by omega⟩
theorem In.ok.get {x:In} (h:x.ok) (n:Nat):I64b (x.get n):=by
 unfold In.get
 split
 ·exact h.a
 ·exact h.b
 ·exact h.c
 ·exact h.k
def pairs (x:In):List (Nat × Int):=(namesOf x.o).map fun n=>(n,x.get n)
def bareStep (y:In) (p:Nat × Int):In:=y.put p.1 p.2
def bareOf (x:In):In:=(pairs x).foldl bareStep (In.only x.o)
def okI (x:In):Bool:=known x.o && In.eq (bareOf x) x
theorem known_iff {o:Nat}:known o=true ↔ 1<=o/\o<=10:=by simp [known]
theorem known_cases {o:Nat} (h:known o=true):o=1 \/ o=2 \/ o=3 \/ o=4 \/ o=5 \/ o=6 \/ o=7 \/ o=8 \/ o=9 \/ o=10:=by
 have:=known_iff.1 h;omega
theorem wordL_out {o:Nat} (h:known o=false):wordL o = []:=by
 unfold wordL
 split <;> first | rfl | (exfalso;revert h;decide)
theorem namesOf_out {o:Nat} (h:known o=false):namesOf o = []:=by
 unfold namesOf
 split <;> first | rfl | (exfalso;revert h;decide)
theorem namesOf_len (o:Nat):(namesOf o).length<=3:=by unfold namesOf;split <;> simp
theorem namesOf_lt {o n:Nat} (h:n ∈ namesOf o):n<7:=by
 unfold namesOf at h
 split at h <;> simp at h <;> omega
theorem pairs_get {x:In} {p:Nat × Int} (h:p ∈ pairs x):p.1 ∈ namesOf x.o/\p.2=x.get p.1:=by
 unfold pairs at h
 obtain ⟨n,hn,rfl⟩:=List.mem_map.1 h
 exact ⟨hn,rfl⟩
theorem pairs_ok {x:In} (hx:x.ok) {p:Nat × Int} (h:p ∈ pairs x):p.1<7/\I64b p.2:=by
 obtain ⟨h1,h2⟩:=pairs_get h
 exact ⟨namesOf_lt h1,by rw [h2];exact hx.get _⟩
open Go.RowKit
theorem below_next {n:Nat} {w w1 w2:World} (h:Below n w w1) (k:Below w1.heap.size w1 w2) (hn:n<=w.heap.size):Below n w w2:=
 ⟨k.os.trans h.os,k.tape.trans h.tape,k.output.trans h.output,Nat.le_trans h.size k.size,fun i hi=>(k.block i (Nat.lt_of_lt_of_le hi (Nat.le_trans hn h.size))).trans (h.block i hi)⟩
theorem below_drewN {n:Nat} {w w1:World} (h:Below n w w1) (q:Nat):Below n w (w1.drewN q):=⟨h.os,h.tape,h.output,h.size,h.block⟩
theorem ret_v {a b:Value} (h:a=b):Ending.returned a=.returned b:=by rw [h]
open Go.RowKit Go.Maps
structure But (S:List Nat) (w w':World):Prop where
 os:w'.os=w.os
 tape:w'.tape=w.tape
 output:w'.output=w.output
 size:w.heap.size<=w'.heap.size
 block:∀ k,k<w.heap.size->k ∉ S->w'.heap[k]?=w.heap[k]?
theorem But.refl (S:List Nat) (w:World):But S w w:=⟨rfl,rfl,rfl,Nat.le_refl _,fun _ _ _=>rfl⟩
theorem But.mono {S T:List Nat} {w w':World} (h:But S w w') (hS:∀ k ∈ S,k ∈ T):But T w w':=⟨h.os,h.tape,h.output,h.size,fun k hk hn=>h.block k hk (fun e=>hn (hS k e))⟩
theorem But.trans {S T:List Nat} {a b c:World} (h:But S a b) (k:But T b c) (hT:∀ x ∈ T,x<a.heap.size->x ∈ S):But S a c:=
  ⟨k.os.trans h.os,k.tape.trans h.tape,k.output.trans h.output,Nat.le_trans h.size k.size,
   fun i hi hn=>(k.block i (Nat.lt_of_lt_of_le hi h.size) (fun e=>hn (hT i e hi))).trans (h.block i hi hn)⟩
theorem But.next {S:List Nat} {a b c:World} (h:But S a b) (k:But S b c):But S a c:=h.trans k (fun _ h _=>h)
theorem But.of_none {w w':World} (h:w.grownBy w' none) (S:List Nat):But S w w':=⟨h.os,h.tape,h.output,h.size,fun k hk _=>h.block k hk (by simp)⟩
theorem But.of_some {w w':World} {B:Nat} (h:w.grownBy w' (some B)) {S:List Nat} (hB:B ∈ S):But S w w':=⟨h.os,h.tape,h.output,h.size,fun k hk hn=>h.block k hk (fun e=>by cases e;exact hn hB)⟩
theorem But.drew {S:List Nat} {w w':World} (h:But S w w'):But S w w'.drew:=⟨h.os,h.tape,h.output,h.size,h.block⟩
theorem But.alloc {S:List Nat} {w w':World} (h:But S w w') (o:Obj):But S w (w'.alloc o):=h.trans (.of_none (World.grownBy_alloc w' o none) []) (by simp)
theorem But.set {S:List Nat} {w w':World} (h:But S w w') {p:Addr} (hp:p.block ∈ S \/ w.heap.size<=p.block) (v:Value):But S w (w'.setCell p v):=
 ⟨h.os,h.tape,h.output,by simpa [World.setCell] using h.size,fun k hk hn=>(Below.heap_setCell w' p v k (fun e=>by subst e;rcases hp with hp | hp;exact hn hp;omega)).trans (h.block k hk hn)⟩
theorem But.cell {S:List Nat} {w w':World} (h:But S w w') {p:Addr} {v:Value} (hv:w.cell? p=some v) (hn:p.block ∉ S):w'.cell? p=some v:=
 (World.cell?_of_block (w:=w) (h.block p.block (World.block_lt_of_cell? w p hv) hn)).trans hv
theorem But.boxed {S:List Nat} {w w':World} (h:But S w w') {B:Nat} {t:TypeId} {v:Value} (hb:Boxed w B t v) (hn:B ∉ S):Boxed w' B t v:=(h.block B hb.lt hn).trans hb
theorem But.below {S:List Nat} {w w':World} (h:But S w w') {n:Nat} (hn:n<=w.heap.size) (hS:∀ k ∈ S,n<=k):Below n w w':=
 ⟨h.os,h.tape,h.output,h.size,fun k hk=>h.block k (Nat.lt_of_lt_of_le hk hn) (fun e=>Nat.lt_irrefl _ (Nat.lt_of_lt_of_le hk (hS k e)))⟩
theorem But.of_below {w w':World} (h:Below w.heap.size w w') (S:List Nat):But S w w':=⟨h.os,h.tape,h.output,h.size,fun k hk _=>h.block k hk⟩
def nameV (n:Nat):Value:=.int .u8 (n:Int)
def RowN (w:World) (v:Value) (ns:List Nat):Prop:=
 (ns = []/\v=.slice none 0 0) \/ (∃ b,v=.slice (some ⟨b,0,none⟩) ns.length ns.length/\0<ns.length/\w.heap[b]?=some (.cells (ns.map nameV).toArray 214 (0,0)))
theorem RowN.but {w w':World} {v:Value} {ns:List Nat} (h:RowN w v ns) {S:List Nat} (hb:But S w w') (hS:∀ k ∈ S,∀ cs z,w.heap[k]? ≠ some (.cells cs 214 z)):RowN w' v ns:=by
 rcases h with h | ⟨b,h1,h0,h2⟩
 ·exact .inl h
 ·exact .inr ⟨b,h1,h0,(hb.block b (Array.getElem?_eq_some_iff.1 h2).1 (fun hm=>hS b hm _ _ h2)).trans h2⟩
theorem RowN.fresh {w w':World} {v:Value} {ns:List Nat} (h:RowN w v ns) (hb:But [] w w'):RowN w' v ns:=h.but hb (by simp)
theorem RowN.same {w w':World} {v:Value} {ns:List Nat} (h:RowN w v ns) (hk:∀ (k:Nat) (cs:Array Value) (z:Nat × Nat),w.heap[k]?=some (.cells cs 214 z)->w'.heap[k]?=w.heap[k]?):RowN w' v ns:=by
 rcases h with h | ⟨b,h1,h0,h2⟩
 ·exact .inl h
 ·exact .inr ⟨b,h1,h0,(hk b _ _ h2).trans h2⟩
def Kin (w:World) (v:Value) (o:Nat):Prop:=∃ sl,v=.agg #[.string ⟨(wordL o).toArray⟩,sl]/\RowN w sl (namesOf o)
theorem Kin.but {w w':World} {v:Value} {o:Nat} (h:Kin w v o) {S:List Nat} (hb:But S w w') (hS:∀ k ∈ S,∀ cs z,w.heap[k]? ≠ some (.cells cs 214 z)):Kin w' v o:=by
 obtain ⟨sl,h1,h2⟩:=h
 exact ⟨sl,h1,h2.but hb hS⟩
def zeroK:Value:=.agg #[.string ⟨#[]⟩,.slice none 0 0]
theorem kin_zero (w:World) {o:Nat} (h:known o=false):Kin w zeroK o:=⟨.slice none 0 0,by rw [wordL_out h];rfl,.inl ⟨namesOf_out h,rfl⟩⟩
def heldE:Value->Option (DataW Value × List MemPlace):=fun v=>some (.held v,[])
theorem keyK {i:Nat} (h:i<256):keyOf Tryz.prog 5 (.int .u8 (i:Int))=some (.int .u8 (i:Int)):=keyOf_int_mk Tryz.underlying5 (by
 have e1:IntKind.u8.min=0:=rfl
 have e2:IntKind.u8.max=255:=rfl
 simp [Lit.wf,e1,e2]
 omega)
theorem keyed:Keyed Tryz.prog 5:=int_keyed Tryz.underlying5
theorem zeroE (w:World):(zeroValue 219).run Tryz.prog w=.ok zeroK w:=by kernel_rfl
theorem keyLit {i:Nat} (h:i<256):WideAt.IsKeyLit (.int .u8 (i:Int)):=keyed.key (keyK h)
theorem lit_ne {i j:Nat} (h:i ≠ j):(Lit.int .u8 (i:Int)) ≠ .int .u8 (j:Int):=fun e=>h (by
 simp only [Lit.int.injEq,true_and] at e
 omega)
theorem held_inj {a b:Value} (h:(DataW.held a:DataW Value)=.held b):a=b:=by cases h;rfl
def MapAt (W:World) (M:Nat) (g:Nat->Option Value) (c:Nat):Prop:=
 ∃ D:DataW Value,W.ownsMap Tryz.prog 5 heldE M c D/\Maps.size D=c/\∀ i:Nat,i<256->Maps.has D (.int .u8 (i:Int))=(g i).isSome/\D.atKey (.int .u8 (i:Int)) (.held zeroK)=.held ((g i).getD zeroK)
def upd (g:Nat->Option Value) (i:Nat) (x:Option Value):Nat->Option Value:=fun k=>if k=i then x else g k
theorem upd_same (g:Nat->Option Value) (i:Nat) (x:Option Value):upd g i x i=x:=by simp [upd]
theorem upd_ne {g:Nat->Option Value} {i k:Nat} {x:Option Value} (h:k ≠ i):upd g i x k=g k:=by simp [upd,h]
section
variable {W W':World} {M c:Nat} {g:Nat->Option Value}
theorem MapAt.lt (h:MapAt W M g c):M<W.heap.size:=by obtain ⟨_,h,_⟩:=h;exact h.lt
theorem MapAt.of_block (h:MapAt W M g c) (hb:W'.heap[M]?=W.heap[M]?):MapAt W' M g c:=by
 obtain ⟨D,⟨es,clock,h1,r⟩,h2⟩:=h
 exact ⟨D,⟨es,clock,hb.trans h1,r⟩,h2⟩
theorem MapAt.but (h:MapAt W M g c) {S:List Nat} (hb:But S W W') (hn:M ∉ S):MapAt W' M g c:=h.of_block (hb.block M h.lt hn)
theorem MapAt.is (h:MapAt W M g c):∃ es clock,W.heap[M]?=some (.map es clock):=by obtain ⟨_,⟨es,clock,h1,_⟩,_⟩:=h;exact ⟨_,_,h1⟩
theorem mapAt_made (w:World):MapAt (w.alloc (.map #[] 0)) w.heap.size (fun _=>none) 0:=
 ⟨.map [],World.ownsMap_made w _ _ _,rfl,fun _ _=>⟨rfl,rfl⟩⟩
theorem MapAt.look (h:MapAt W M g c) {i:Nat} (hi:i<256):(Instr.lookup 243 (.map (some M)) (.int .u8 (i:Int)) true).run Tryz.prog W=.ok (.tuple #[(g i).getD zeroK,.bool (g i).isSome]) W:=by
 obtain ⟨D,hown,_,hD⟩:=h
 obtain ⟨v,ps,hrun,hv⟩:=hown.look_ok keyed Tryz.underlying243 (zeroE W) (show heldE zeroK=some (.held zeroK,[]) from rfl) (keyK hi)
 obtain ⟨h1,h2⟩:=hD i hi
 simp only [heldE,Option.some.injEq,Prod.mk.injEq] at hv
 rw [h2] at hv
 rw [hrun,h1,held_inj hv.1]
theorem MapAt.store (h:MapAt W M g c) (hc:c<maxLen) {i:Nat} (hi:i<256) (x:Value) :
  ∃ W',(Instr.mapUpdate 243 (.map (some M)) (.int .u8 (i:Int)) x).run Tryz.prog W=.ok () W'/\MapAt W' M (upd g i (some x)) (if (g i).isSome then c else c+1)/\But [M] W W':=by
 obtain ⟨D,hown,hs,hD⟩:=h
 obtain ⟨W',hrun,hown',hg⟩:=hown.update keyed Tryz.underlying243 hc (keyK hi) (show heldE x=some (.held x,[]) from rfl)
 have hT:=hown.tidy keyed
 have hsz:=size_put (k:=.int .u8 (i:Int)) hT (.held x)
 rw [(hD i hi).1,hs] at hsz
 refine ⟨W',hrun,⟨_,?_,hsz,fun k hk=>?_⟩,But.of_some hg (by simp)⟩
 ·obtain ⟨es,clock,hb,F,hn,hD'⟩:=hown'
  refine ⟨es,clock,hb,F,?_,hD'⟩
  rw [hD'] at hsz
  simp only [Maps.size,length_sorted,List.length_map,Array.length_toList] at hsz
  omega
 ·by_cases e:k=i
  ·subst e
   rw [upd_same]
   exact ⟨has_put_same hT.isMap (keyLit hk) _,atKey_put_same hT.isMap (keyLit hk) _ _⟩
  ·rw [upd_ne e]
   have e':=lit_ne e
   exact ⟨(has_put_other e' _).trans (hD k hk).1,(atKey_put_other e' _ _).trans (hD k hk).2⟩
end
def KMap (W:World) (M m:Nat):Prop:=∃ g,MapAt W M g m/\(∀ o,(g o).isSome=decide (1<=o/\o<=m))/\∀ o v,g o=some v->Kin W v o
section
variable {W W':World} {M m:Nat}
theorem KMap.fresh (h:KMap W M m) (hb:But [] W W'):KMap W' M m:=by
 obtain ⟨g,h1,h2,h3⟩:=h
 exact ⟨g,h1.but hb (by simp),h2,fun o v hv=>(h3 o v hv).but hb (by simp)⟩
theorem kmap_made (w:World):KMap (w.alloc (.map #[] 0)) w.heap.size 0:=⟨_,mapAt_made w,fun o=>by simp;omega,fun _ _ h=>by cases h⟩
theorem KMap.store (h:KMap W M m) (hm:m+1<256) {x:Value} (hx:Kin W x (m+1)) :
  ∃ W',(Instr.mapUpdate 243 (.map (some M)) (.int .u8 ((m+1:Nat):Int)) x).run Tryz.prog W=.ok () W'/\KMap W' M (m+1)/\But [M] W W':=by
 obtain ⟨g,h1,h2,h3⟩:=h
 obtain ⟨W',hrun,r1,r2⟩:=h1.store (by unfold maxLen;omega) hm x
 have hno:(g (m+1)).isSome=false:=by rw [h2];simp
 rw [hno] at r1
 have hM:∀ k ∈ [M],∀ cs z,W.heap[k]? ≠ some (.cells cs 214 z):=by
  intro k hk cs z e
  obtain ⟨es,clock,hi⟩:=h1.is
  obtain rfl:=List.mem_singleton.1 hk
  rw [hi] at e
  cases e
 refine ⟨W',hrun,⟨_,r1,fun o=>?_,fun o v hv=>?_⟩,r2⟩
 ·by_cases e:o=m+1
  ·subst e;rw [upd_same];simp
  ·rw [upd_ne e,h2];exact decide_eq_decide.2 (by omega)
 ·by_cases e:o=m+1
  ·subst e
   rw [upd_same] at hv
   obtain rfl:=Option.some.inj hv
   exact hx.but r2 hM
  ·rw [upd_ne e] at hv
   exact (h3 o v hv).but r2 hM
theorem KMap.look (h:KMap W M 10) {o:Nat} (ho:o<256):∃ v,(Instr.lookup 243 (.map (some M)) (.int .u8 (o:Int)) true).run Tryz.prog W=.ok (.tuple #[v,.bool (known o)]) W/\Kin W v o:=by
 obtain ⟨g,h1,h2,h3⟩:=h
 have hk:(g o).isSome=known o:=h2 o
 refine ⟨_,by rw [h1.look ho,hk],?_⟩
 cases e:g o with
 | none=>
  rw [e] at hk
  exact kin_zero W hk.symm
 | some v=>exact h3 o v e
end
section
variable (w:World) {ops:Array Oper} {rest:List Oper} {o:Oper} {a:Act} {Q:Exit->Act->World->Prop}
theorem wpList_ins (hg:o.guard=none) (m x v:Operand) (hop:o.op=Op.insert 243 m x v)
  (hR:∃ M k,a.eval m=.map (some M)/\KMap w M k/\k+1<256/\a.eval x=.int .u8 ((k+1:Nat):Int)/\Kin w (a.eval v) (k+1)/\∀ w',KMap w' M (k+1)->But [M] w w'->wpList Tryz.prog ops Q rest (a.put o.dst undef) w') :
  wpList Tryz.prog ops Q (o::rest) a w:=by
 obtain ⟨M,k,hm,h,hc,hx,hy,hK⟩:=hR
 refine wpList_plain hg fun K' hK'=>?_
 obtain ⟨w',hrun,r1,r2⟩:=h.store hc hy
 unfold Oper.wp
 simp [execOp,hop,hm,hx,Result.andThen]
 have hrun':(Instr.mapUpdate 243 (.map (some M)) (.int .u8 ((k:Int)+1)) (a.eval v)).run Tryz.prog w=.ok () w':=by simpa using hrun
 rw [hrun']
 exact hK' _ _ (hK w' r1 r2)
end
theorem kin_new {W0:World} {o:Nat} {n:Nat} {cs:Array Value} (hn:n=(namesOf o).length) (h0:0<n) (hc:cs=((namesOf o).map nameV).toArray) {wd:ByteArray} (hw:wd=⟨(wordL o).toArray⟩) {b:Nat} (hb:b=W0.heap.size) :
  Kin (W0.alloc (.cells cs 214)) (.agg #[.string wd,.slice (some ⟨b,0,none⟩) n n]) o:=by
 subst hn hc hw hb
 exact ⟨_,rfl,.inr ⟨_,rfl,h0,World.alloc_heap_new W0 _⟩⟩
theorem below_ins {w0 w w':World} {M:Nat} (h:Below w0.heap.size w0 w) (hM:w0.heap.size<=M) (hb:But [M] w w'):Below w0.heap.size w0 w':=
 h.trans (hb.below h.size (by simpa using hM))
theorem kinds_any (w:World) :
  Calls Tryz.prog 150 #[] w fun e w'=>e=.returned (.map (some w.heap.size))/\KMap w' w.heap.size 10/\Below w.heap.size w w':=by
 have hK:=kmap_made w
 have hB:Below w.heap.size w (w.alloc (.map #[] 0)):=(Below.refl _ w).alloc (Nat.le_refl _) _
 go_enter Tryz.func150,Tryz.ntmps150
 have hmm:=@run_makeMap Tryz.prog
 go_wp2_with (first
  | (refine wpList_ins _ rfl _ _ _ rfl ?_;first
    | (refine ⟨w.heap.size,_,rfl,hK.fresh ((But.refl [] _).alloc _),?_,?_,?_,?_⟩;(next=>decide);(next=>rfl);(next=>refine kin_new ?_ ?_ ?_ ?_ ?_;all_goals first | rfl | decide | (simp;done));go_frame;intro wx hKx hbx;have hBx:=below_ins (hB.alloc hB.size _) (Nat.le_refl _) hbx;clear hK hB hbx;have hK:=hKx;have hB:=hBx;clear hKx hBx)
    | (refine ⟨w.heap.size,_,rfl,hK,?_,?_,?_,?_⟩;(next=>decide);(next=>rfl);(next=>exact ⟨.slice none 0 0,rfl,.inl ⟨rfl,rfl⟩⟩);go_frame;intro wx hKx hbx;have hBx:=below_ins hB (Nat.le_refl _) hbx;clear hK hB hbx;have hK:=hKx;have hB:=hBx;clear hKx hBx))
  | fail)
 go_wp2_with fail
 go_ret
 exact ⟨rfl,hK,hB⟩
open Go.RowKit Go.Shelf
attribute [local go_sem] Oper.semAt_some
def In.val (x:In):Value:=.agg #[.int .u8 (x.o:Int),.int .i64 x.a,.int .i64 x.b,.int .i64 x.c,.int .i64 x.k]
def InAt (W:World) (B:Nat) (x:In):Prop:=W.heap[B]?=some (.cells #[.int .u8 (x.o:Int),.int .i64 x.a,.int .i64 x.b,.int .i64 x.c,.int .i64 x.k] 95 (0,0))
section
variable {W W':World} {B:Nat} {x:In}
theorem InAt.lt (h:InAt W B x):B<W.heap.size:=(Array.getElem?_eq_some_iff.1 h).1
theorem InAt.of_block (h:InAt W B x) (hb:W'.heap[B]?=W.heap[B]?):InAt W' B x:=hb.trans h
theorem InAt.c0 (h:InAt W B x):W.cell? ⟨B,0,none⟩=some (.int .u8 (x.o:Int)):=by simp [World.cell?,show W.heap[B]?=_ from h]
theorem InAt.c1 (h:InAt W B x):W.cell? ⟨B,1,none⟩=some (.int .i64 x.a):=by simp [World.cell?,show W.heap[B]?=_ from h]
theorem InAt.c2 (h:InAt W B x):W.cell? ⟨B,2,none⟩=some (.int .i64 x.b):=by simp [World.cell?,show W.heap[B]?=_ from h]
theorem InAt.c3 (h:InAt W B x):W.cell? ⟨B,3,none⟩=some (.int .i64 x.c):=by simp [World.cell?,show W.heap[B]?=_ from h]
theorem InAt.c4 (h:InAt W B x):W.cell? ⟨B,4,none⟩=some (.int .i64 x.k):=by simp [World.cell?,show W.heap[B]?=_ from h]
theorem InAt.frozen (h:InAt W B x) (k:Nat):W.frozen? ⟨B,k,none⟩=false:=by simp [World.frozen?,show W.heap[B]?=_ from h]
theorem inAt_new (W:World) (x:In):InAt (W.alloc (.cells #[.int .u8 (x.o:Int),.int .i64 x.a,.int .i64 x.b,.int .i64 x.c,.int .i64 x.k] 95)) W.heap.size x:=World.alloc_heap_new W _
theorem InAt.alloc (h:InAt W B x) (o:Obj):InAt (W.alloc o) B x:=h.of_block ((World.grownBy_alloc W o none).block B h.lt (by simp))
end
def belowB (v n:Int):Bool:=decide (0<=v) && decide (v<n)
theorem below_any (v n:Int) (w:World) :
  Calls Tryz.prog 131 #[.int .i64 v,.int .i64 n] w fun e w'=>e=.returned (.bool (belowB v n))/\w'=w:=by
 go_enter Tryz.func131,Tryz.ntmps131
 by_cases h0:0<=v
 ·have HE:Hid (decide (v<n)=belowB v n):=Lib.hid (by simp [belowB,h0])
  go_wp2_with fail
  go_ret
  exact ⟨ret_v (by rw [<- HE.out];rfl),rfl⟩
 ·have HE:Hid (belowB v n=false):=Lib.hid (by simp [belowB,h0])
  have h1:v<0:=by omega
  go_wp2_with fail
  go_ret
  exact ⟨ret_v (by rw [HE.out];rfl),rfl⟩
theorem below2 (w:World) (o1 o2:Obj):Below w.heap.size w ((w.alloc o1).alloc o2):=((Below.refl _ w).alloc (Nat.le_refl _) _).alloc (by simp) _
theorem with_any (x:In) (n:Nat) (v:Int) (w:World) :
  Calls Tryz.prog 151 #[x.val,.int .u8 (n:Int),.int .i64 v] w fun e w'=>e=.returned (x.put n v).val/\Below w.heap.size w w':=by
 obtain ⟨o,a,b,c,k⟩:=x
 unfold In.val
 have hb:=below2 w
 go_enter Tryz.func151,Tryz.ntmps151
 rcases (by omega:n=0 \/ n=1 \/ n=2 \/ 3<=n) with rfl | rfl | rfl | h3
 ·go_wp2_with fail
  exact bodyPost_ret (v:=.agg #[.int .u8 (o:Int),.int .i64 v,.int .i64 b,.int .i64 c,.int .i64 k]) (by simp [results,Tryz.f151,go_sem]) rfl ⟨rfl,hb _ _⟩
 ·go_wp2_with fail
  exact bodyPost_ret (v:=.agg #[.int .u8 (o:Int),.int .i64 a,.int .i64 v,.int .i64 c,.int .i64 k]) (by simp [results,Tryz.f151,go_sem]) rfl ⟨rfl,hb _ _⟩
 ·go_wp2_with fail
  exact bodyPost_ret (v:=.agg #[.int .u8 (o:Int),.int .i64 a,.int .i64 b,.int .i64 v,.int .i64 k]) (by simp [results,Tryz.f151,go_sem]) rfl ⟨rfl,hb _ _⟩
 ·have e0:((n:Int) == 0)=false:=by rw [beq_eq_false_iff_ne];omega
  have e1:((n:Int) == 1)=false:=by rw [beq_eq_false_iff_ne];omega
  have e2:((n:Int) == 2)=false:=by rw [beq_eq_false_iff_ne];omega
  have HE:Hid ((In.put ⟨o,a,b,c,k⟩ n v)=⟨o,a,b,c,v⟩):=Lib.hid (by
   unfold In.put
   split <;> first | omega | rfl)
  clear h3
  go_wp2_with fail
  exact bodyPost_ret (v:=.agg #[.int .u8 (o:Int),.int .i64 a,.int .i64 b,.int .i64 c,.int .i64 v]) (by simp [results,Tryz.f151,go_sem]) rfl ⟨ret_v (by rw [HE.out]),hb _ _⟩
theorem teller_any (x:In) (w:World) :
  Calls Tryz.prog 152 #[x.val] w fun e w'=>e=.returned (.func (.func 172) #[] #[.pointer (some ⟨w.heap.size,0,none⟩)])/\w'=w.alloc (.cells #[.int .u8 (x.o:Int),.int .i64 x.a,.int .i64 x.b,.int .i64 x.c,.int .i64 x.k] 95):=by
 unfold In.val
 go_enter Tryz.func152,Tryz.ntmps152
 go_wp2_with fail
 go_ret
 exact ⟨rfl,rfl⟩
theorem tell_any {B:Nat} {x:In} (n:Nat) (w:World) (h:InAt w B x) :
  Calls Tryz.prog 172 #[.int .u8 (n:Int),.pointer (some ⟨B,0,none⟩)] w fun e w'=>e=.returned (.int .i64 (x.get n))/\w'=w:=by
 have c1:=h.c1
 have c2:=h.c2
 have c3:=h.c3
 have c4:=h.c4
 go_enter Tryz.func172,Tryz.ntmps172
 rcases (by omega:n=0 \/ n=1 \/ n=2 \/ 3<=n) with rfl | rfl | rfl | h3
 ·go_wp2_with fail
  go_ret
  exact ⟨rfl,rfl⟩
 ·go_wp2_with fail
  go_ret
  exact ⟨rfl,rfl⟩
 ·go_wp2_with fail
  go_ret
  exact ⟨rfl,rfl⟩
 ·have e0:((n:Int) == 0)=false:=by rw [beq_eq_false_iff_ne];omega
  have e1:((n:Int) == 1)=false:=by rw [beq_eq_false_iff_ne];omega
  have e2:((n:Int) == 2)=false:=by rw [beq_eq_false_iff_ne];omega
  have HE:Hid (x.get n=x.k):=Lib.hid (by
   unfold In.get
   split <;> first | omega | rfl)
  clear h3
  go_wp2_with fail
  go_ret
  exact ⟨ret_v (by rw [HE.out];rfl),rfl⟩
structure Nmd (W:World) (n:Nat) (wd:ByteArray) (sl:Value) (x:In):Prop where
 kind:W.heap[n]?=some (.cells #[.string wd,sl] 219 (0,0))
 ins:InAt W (n+2) x
 tell:Boxed W (n+3) 246 (.func (.func 172) #[] #[.pointer (some ⟨n+2,0,none⟩)])
 row:RowN W sl (namesOf x.o)
structure KeepK (n:Nat) (W W':World):Prop where
 kind:W'.heap[n]?=W.heap[n]?
 ins:W'.heap[n+2]?=W.heap[n+2]?
 tell:W'.heap[n+3]?=W.heap[n+3]?
 rows:∀ (k:Nat) (cs:Array Value) (z:Nat × Nat),W.heap[k]?=some (.cells cs 214 z)->W'.heap[k]?=W.heap[k]?
section
variable {W W':World} {n:Nat} {wd:ByteArray} {sl:Value} {x:In}
theorem Nmd.keep (h:Nmd W n wd sl x) (k:KeepK n W W'):Nmd W' n wd sl x:=
 ⟨k.kind.trans h.kind,h.ins.of_block k.ins,k.tell.trans h.tell,h.row.same k.rows⟩
theorem KeepK.trans {A B C:World} (h:KeepK n A B) (k:KeepK n B C):KeepK n A C:=
 ⟨k.kind.trans h.kind,k.ins.trans h.ins,k.tell.trans h.tell,fun i cs z hi=>(k.rows i cs z ((h.rows i cs z hi).trans hi)).trans (h.rows i cs z hi)⟩
theorem Nmd.lt (h:Nmd W n wd sl x):n+3<W.heap.size:=h.tell.lt
theorem Nmd.keeps (h:Nmd W n wd sl x) {S:List Nat} (hb:But S W W') (h0:n ∉ S) (h2:n+2 ∉ S) (h3:n+3 ∉ S) (hr:∀ k ∈ S,∀ cs z,W.heap[k]? ≠ some (.cells cs 214 z)):KeepK n W W':=by
 have hl:=h.lt
 exact ⟨hb.block _ (by omega) h0,hb.block _ (by omega) h2,hb.block _ (by omega) h3,fun k cs z hk=>hb.block k (Array.getElem?_eq_some_iff.1 hk).1 (fun hm=>hr k hm cs z hk)⟩
theorem Nmd.but (h:Nmd W n wd sl x) {S:List Nat} (hb:But S W W') (h0:n ∉ S) (h2:n+2 ∉ S) (h3:n+3 ∉ S) (hr:∀ k ∈ S,∀ cs z,W.heap[k]? ≠ some (.cells cs 214 z)):Nmd W' n wd sl x:=h.keep (h.keeps hb h0 h2 h3 hr)
theorem Nmd.fresh (h:Nmd W n wd sl x) (hb:But [] W W'):Nmd W' n wd sl x:=h.but hb (by simp) (by simp) (by simp) (by simp)
theorem keepK_putObj {m:Nat} (W:World) (l:Nat) (o o':Obj) (hn:n+3<m) (hl:m<=l) (h:W.heap[l]?=some o) (ho:o.isCells=false):KeepK n W (W.putObj l o'):=by
 have hg:=grownBy_putObj' W l o'
 have key:∀ k,k<W.heap.size->k ≠ l->(W.putObj l o').heap[k]?=W.heap[k]?:=fun k hk hne=>hg.block k hk (fun e=>hne (Option.some.inj e))
 have hlt:=(Array.getElem?_eq_some_iff.1 h).1
 exact ⟨key _ (by omega) (by omega),key _ (by omega) (by omega),key _ (by omega) (by omega),fun k cs z hk=>key k (Array.getElem?_eq_some_iff.1 hk).1 (fun e=>by subst e;rw [hk] at h;cases h;cases ho)⟩
theorem nmd_abides {β:Type} (n:Nat) (wd:ByteArray) (sl:Value) (x:In) (m:Nat):OwnFrom m (fun (_:β) W=>Nmd W n wd sl x):=
 Own.from (fun _ A W' row hs hg hr=>by
  have hk:∀ k,k<A.heap.size->(∃ cs t z,A.heap[k]?=some (.cells cs t z))->W'.heap[k]?=A.heap[k]?:=fun k hk ⟨cs,t,z,hc⟩=>hg.block k hk (fun e=>by
   obtain ⟨o,ho,hn⟩:=hr k e.symm
   rw [hc] at ho
   cases ho
   cases hn)
  have hl:=hs.lt
  exact hs.keep ⟨hk _ (by omega) ⟨_,_,_,hs.kind⟩,hk _ (by omega) ⟨_,_,_,hs.ins⟩,hk _ (by omega) ⟨_,_,_,hs.tell⟩,fun k cs z h=>hk k (Array.getElem?_eq_some_iff.1 h).1 ⟨_,_,_,h⟩⟩) m
end
theorem named_any (wd:ByteArray) (a:Option Addr) (len cap:Nat) (x:In) (w:World) (h:RowN w (.slice a len cap) (namesOf x.o)) :
  Calls Tryz.prog 133 #[.agg #[.string wd,.slice a len cap],x.val] w fun e w'=>e=.returned (.func (.func 153) #[] #[.pointer (some ⟨w.heap.size,0,none⟩),.pointer (some ⟨w.heap.size+3,0,none⟩)]) /\
   Nmd w' w.heap.size wd (.slice a len cap) x/\w'.heap.size=w.heap.size+4/\But [] w w':=by
 have h1:=teller_any x
 unfold In.val at h1 ⊢
 go_enter Tryz.func133,Tryz.ntmps133
 go_wp2_with fail
 refine (h1 _).mono ?_
 rintro e w' ⟨rfl,rfl⟩
 go_wp2_with fail
 go_ret
 simp only [World.size_alloc]
 have b0:=World.alloc_heap_new w (.cells #[.string wd,.slice a len cap] 219)
 obtain ⟨w1,hw1⟩:∃ w1,w1=w.alloc (.cells #[.string wd,.slice a len cap] 219):=⟨_,rfl⟩
 have s1:w1.heap.size=w.heap.size+1:=by rw [hw1];simp
 have t1:But [] w w1:=by rw [hw1];exact (But.refl [] w).alloc _
 rw [<- hw1] at b0 ⊢
 obtain ⟨w2,hw2⟩:∃ w2,w2=w1.alloc (.cells #[.int .u8 (x.o:Int),.int .i64 x.a,.int .i64 x.b,.int .i64 x.c,.int .i64 x.k] 95):=⟨_,rfl⟩
 have s2:w2.heap.size=w.heap.size+2:=by rw [hw2];simp [s1]
 have t2:But [] w1 w2:=by rw [hw2];exact (But.refl [] w1).alloc _
 rw [<- hw2]
 have b2:=inAt_new w2 x
 obtain ⟨w3,hw3⟩:∃ w3,w3=w2.alloc (.cells #[.int .u8 (x.o:Int),.int .i64 x.a,.int .i64 x.b,.int .i64 x.c,.int .i64 x.k] 95):=⟨_,rfl⟩
 have s3:w3.heap.size=w.heap.size+3:=by rw [hw3];simp [s2]
 have t3:But [] w2 w3:=by rw [hw3];exact (But.refl [] w2).alloc _
 rw [<- hw3] at b2 ⊢
 rw [s2] at b2
 have b3:=Boxed.new w3 246 (.func (.func 172) #[] #[.pointer (some ⟨w.heap.size+2,0,none⟩)])
 rw [s3] at b3
 have t4:∀ o,But [] w3 (w3.alloc o):=fun o=>(But.refl [] w3).alloc o
 have t13:=(t1.next t2).next t3
 refine ⟨rfl,⟨?_,?_,b3,?_⟩,by simp,t13.next (t4 _)⟩
 ·exact ((((t2.next t3).next (t4 _)).block _ (by omega) (by simp)).trans b0)
 ·exact b2.of_block ((t4 _).block _ (by omega) (by simp))
 ·exact h.fresh (t13.next (t4 _))
abbrev Nv:={ p:Nat × Int // p.1<7/\I64b p.2 }
def nvs (x:In) (hx:x.ok):List Nv:=(pairs x).pmap (fun p h=>⟨p,h⟩) (fun _ hp=>pairs_ok hx hp)
theorem nvs_map (x:In) (hx:x.ok):(nvs x hx).map (·.1)=pairs x:=by simp [nvs,List.map_pmap]
theorem nvs_len (x:In) (hx:x.ok):(nvs x hx).length=(namesOf x.o).length:=by simp [nvs,pairs]
theorem nvs_get (x:In) (hx:x.ok) {i:Nat} (hi:i<(namesOf x.o).length):∃ p:Nv,(nvs x hx)[i]?=some p/\(namesOf x.o)[i]?=some p.1.1/\p.1.2=x.get p.1.1:=by
 have hl:=nvs_len x hx
 obtain ⟨p,hp⟩:∃ p,(nvs x hx)[i]?=some p:=⟨_,List.getElem?_eq_getElem (by omega)⟩
 have hm:(pairs x)[i]?=some p.1:=by rw [<- nvs_map x hx,List.getElem?_map,hp];rfl
 rw [pairs,List.getElem?_map,List.getElem?_eq_getElem hi] at hm
 simp only [Option.map_some,Option.some.injEq] at hm
 refine ⟨p,hp,?_,?_⟩
 ·rw [List.getElem?_eq_getElem hi, <- hm]
 ·rw [<- hm]
theorem take_snocN (ys:List Nv) {i:Nat} {p:Nv} (h:ys[i]?=some p):ys.take (i+1)=ys.take i ++ [p]:=by
 rw [List.take_add_one,h];rfl
theorem named1_in (n:Nat) (hn:2<=n) (l n0:Nat) (wd:ByteArray) (sl:Value) (x:In) (hx:x.ok) (J Jx:List Nv->World->Prop)
  (hY:∀ pre (p:Nv) W,J pre W->pre.length<3->YieldAt Fence.wide (n - 1) Tryz.prog l #[.int .u8 (p.1.1:Int),.int .i64 p.1.2] W fun e W'=>
   (e=.returned (.bool true)/\J (pre ++ [p]) W'/\KeepK n0 W W') \/ (e=.returned (.bool false)/\Jx (pre ++ [p]) W'))
  (W:World) (hN:Nmd W n0 wd sl x) (h0:J [] W) :
  CallsIn Fence.wide n Tryz.prog 153 #[.func (.yield l) #[] #[],.pointer (some ⟨n0,0,none⟩),.pointer (some ⟨n0+3,0,none⟩)] W fun e W'=>(∃ v,e=.returned v) /\
   ((∃ ys,ys=nvs x hx/\J ys W') \/ (∃ pre,pre <+: nvs x hx/\Jx pre W')):=by
 obtain ⟨m,hm⟩:∃ m,m=(namesOf x.o).length:=⟨_,rfl⟩
 have hm3:m<=3:=by rw [hm];exact namesOf_len _
 have HM:=Lib.hid hm
 obtain ⟨ys,hys⟩:∃ ys,ys=nvs x hx:=⟨_,rfl⟩
 have HY:=Lib.hid hys
 rw [<- hys]
 have hcA:W.cell? ⟨n0,1,none⟩=some sl:=by simp [World.cell?,hN.kind]
 have hsl:∃ a c,sl=.slice a m c:=by
  rcases hN.row with ⟨e,rfl⟩ | ⟨b,rfl,_⟩
  ·exact ⟨none,0,by rw [hm,e];rfl⟩
  ·exact ⟨_,_,by rw [hm]⟩
 clear hm hys
 obtain ⟨a,c,rfl⟩:=hsl
 refine callsIn_of_wp Tryz.func153 rfl trivial ?_ rfl
 simp only [Tryz.ntmps153,List.size_toArray,List.length_cons,List.length_nil,Nat.reduceAdd,Nat.reduceSub,Array.replicate_succ,Array.replicate_zero,List.push_toArray,List.append_toArray,List.nil_append,List.cons_append]
 gi_wp2
 gi_loopw [9] (fun iv wr=>∃ i:Nat,i<=m/\iv=.int .i64 i/\J (ys.take i) wr/\Nmd wr n0 wd (.slice a m c) x) (fun iv _=>m - (intOf iv).toNat)
 case atStart=>exact ⟨0,Nat.zero_le _,rfl,h0,hN⟩
 case round=>
  clear hcA hN h0
  obtain ⟨i,hi,rfl,hJi,hN⟩:=hrel
  by_cases hlt:i<m
  ·have hlt':(i:Int)<(m:Int):=by omega
   have i0:(0:Int)<=(i:Int):=by omega
   have hct:=hN.tell.cell
   obtain ⟨p,hp1,hp2,hp3⟩:=nvs_get x hx (i:=i) (by rw [<- HM.out];exact hlt)
   have HT:Hid (ys.take (i+1)=ys.take i ++ [p]):=Lib.hid (by rw [HY.out];exact take_snocN _ hp1)
   have hrow:∃ b,a=some ⟨b,0,none⟩/\wr.cell? ⟨b,i,none⟩=some (.int .u8 (p.1.1:Int)):=by
    rcases hN.row with ⟨e,_⟩ | ⟨b,e,_,hb⟩
    ·have:=HM.out;rw [e] at this;simp at this;omega
    ·simp only [Value.slice.injEq] at e
     refine ⟨b,e.1,?_⟩
     simp only [World.cell?,hb]
     simp [hp2,nameV]
   obtain ⟨b,rfl,hcell⟩:=hrow
   have hcall:=tell_any p.1.1 wr hN.ins
   rw [<- hp3] at hcall
   have hpl:(ys.take i).length<3:=by simp;omega
   obtain ⟨fn,tmps,assign,body,hy,hR⟩:=hY (ys.take i) p wr hJi hpl
   clear hp1 hp2 hp3
   gi_wp2_with (first | (refine ⟨trivial,fun _=>by omega,?_⟩;gi_at_call 172;refine (callsIn_wide.2 hcall).mono ?_;rintro e w' ⟨rfl,rfl⟩))
   refine ⟨fun _=>by omega,hR.mono ?_⟩
   clear hcall hy hR
   rintro e W3 (⟨rfl,hJ3,hK⟩ | ⟨rfl,hJx3⟩)
   ·have hN3:=hN.keep hK
    clear hN hK
    gi_wp2
    go_roundw
    case rel=>exact ⟨i+1,by omega,by go_num,by rw [HT.out];exact hJ3,hN3⟩
    case measure=>simp [intOf];omega
   ·gi_wp2
    refine bodyPost_ret (results_none rfl _ _ _) rfl ?_
    exact ⟨⟨_,rfl⟩,.inr ⟨_,by rw [<- HT.out];exact List.take_prefix _ _,hJx3⟩⟩
  ·obtain rfl:i=m:=by omega
   have hlt' : ¬ ((i:Int)<(i:Int)):=by omega
   rw [List.take_of_length_le (by rw [HY.out,nvs_len, <- HM.out];exact Nat.le_refl _)] at hJi
   gi_wp2
   go_end0
   exact ⟨⟨_,rfl⟩,.inl (by first | exact hJi | exact ⟨_,rfl,hJi⟩)⟩
theorem iter_named {w:World} {n0:Nat} {wd:ByteArray} {sl:Value} {x:In} (hx:x.ok) (hN:Nmd w n0 wd sl x) :
  SeqStopsK Fence.wide 3 Tryz.prog 153 #[.pointer (some ⟨n0,0,none⟩),.pointer (some ⟨n0+3,0,none⟩)] (fun p:Nv=>#[Value.int .u8 (p.1.1:Int),Value.int .i64 p.1.2]) (KeepK n0) (fun xs=>xs=nvs x hx) (fun pre=>pre <+: nvs x hx) 3 w:=
 fun l J Jx W hW _ _ hY h0=>named1_in 3 (by omega) l n0 wd sl x hx J Jx hY W (hN.fresh (But.of_below hW [])) h0
open Go.RowKit Go.Maps
theorem heap_set_same {W:World} {B k:Nat} {cs:Array Value} {t:TypeId} {z:Nat × Nat} (v:Value) (h:W.heap[B]?=some (.cells cs t z)):(W.setCell ⟨B,k,none⟩ v).heap[B]?=some (.cells (cs.setIfInBounds k v) t z):=by
 obtain ⟨hlt,hk⟩:=Array.getElem?_eq_some_iff.1 h
 show (W.heap.modify B _)[B]?=_
 rw [Array.getElem?_eq_getElem (by rw [Array.size_modify];exact hlt),Array.getElem_modify_self,hk]
 rfl
def Two (W:World) (B:Nat) (t:TypeId) (x y:Value):Prop:=W.heap[B]?=some (.cells #[x,y] t (0,0))
section
variable {W W':World} {B:Nat} {t:TypeId} {x y:Value}
theorem Two.lt (h:Two W B t x y):B<W.heap.size:=(Array.getElem?_eq_some_iff.1 h).1
theorem Two.c0 (h:Two W B t x y):W.cell? ⟨B,0,none⟩=some x:=by simp [World.cell?,show W.heap[B]?=_ from h]
theorem Two.c1 (h:Two W B t x y):W.cell? ⟨B,1,none⟩=some y:=by simp [World.cell?,show W.heap[B]?=_ from h]
theorem Two.frozen (h:Two W B t x y) (k:Nat):W.frozen? ⟨B,k,none⟩=false:=by simp [World.frozen?,show W.heap[B]?=_ from h]
theorem Two.of_block (h:Two W B t x y) (hb:W'.heap[B]?=W.heap[B]?):Two W' B t x y:=hb.trans h
theorem Two.alloc (h:Two W B t x y) (o:Obj):Two (W.alloc o) B t x y:=h.of_block ((World.grownBy_alloc W o none).block B h.lt (by simp))
theorem Two.set (h:Two W B t x y) (a b:Value):Two ((W.setCell ⟨B,0,none⟩ a).setCell ⟨B,1,none⟩ b) B t a b:=by
 have h1:=heap_set_same (k:=0) a h
 have h2:=heap_set_same (k:=1) b h1
 simpa [Two] using h2
theorem two_new (W:World) (t:TypeId) (x y:Value):Two (W.alloc (.cells #[x,y] t)) W.heap.size t x y:=World.alloc_heap_new W _
end
end Go.Proofs.YtnfbncgfpmcpnaaGreat
