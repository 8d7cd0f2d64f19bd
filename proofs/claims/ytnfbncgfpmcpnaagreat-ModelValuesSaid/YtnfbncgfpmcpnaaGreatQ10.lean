/-
  ReplayNext: its walks, part 10.
-/
import Derived.Test.YtnfbncgfpmcpnaaGreatProg
import Derived.Test.YtnfbncgfpmcpnaaGreatQ09
set_option maxRecDepth 100000
set_option maxHeartbeats 12800000
namespace Go.Proofs.YtnfbncgfpmcpnaaGreat.Ent
structure En where
 a:Int
 k:Nat
 w:Int
 t:Int
 p:Int
 c:Int
 b:Int
 q:Int
 v:Int
 u:Int
 o:Bool
 e:Int
 s:Nat
def I64b (i:Int):Prop:=-9223372036854775808<=i/\i<=9223372036854775807
structure En.ok (x:En):Prop where
 a:I64b x.a
 k:x.k<256
 w:I64b x.w
 t:I64b x.t
 p:I64b x.p
 c:I64b x.c
 b:I64b x.b
 q:I64b x.q
 v:I64b x.v
 u:I64b x.u
 e:I64b x.e
 s:x.s<18446744073709551616
def namesOf:Nat->List Nat
 | 1=>[1,4,5,8]
 | 2=>[1,4,5,8,10]
 | 3=>[1,2,4,5,7,8,10]
 | 4=>[1,2,4,5,7,8,9]
 | 5=>[1,4]
 | 6=>[1,2,4,5]
 | 7=>[1]
 | 8=>[1]
 | 9=>[1,2,6]
 | 10=>[1]
 | 11=>[1,3,11]
 | 21=>[0,1]
 | 22=>[0,1]
 | 23=>[0,1]
 | 24=>[0,1]
 | 25=>[0,1,12]
 | 26=>[0]
 | _=>[]
def wordL:Nat->List UInt8
 | 1=>[115,101,110,100]
 | 2=>[114,101,99,118]
 | 3=>[109,101,101,116]
 | 4=>[114,101,102,105,108,108]
 | 5=>[99,108,111,115,101]
 | 6=>[119,97,107,101]
 | 7=>[100,101,102,97,117,108,116]
 | 8=>[98,108,111,99,107]
 | 9=>[115,112,97,119,110]
 | 10=>[101,110,100]
 | 11=>[102,97,117,108,116]
 | 21=>[100,105,115,112,97,116,99,104]
 | 22=>[114,101,97,100,121]
 | 23=>[112,114,101,101,109,112,116]
 | 24=>[108,111,99,107,101,100]
 | 25=>[112,111,108,108]
 | 26=>[102,114,101,101]
 | _=>[]
def known (k:Nat):Bool:=decide ((1<=k/\k<=11) \/ (21<=k/\k<=26))
def maskN:Nat->Nat
 | 1=>306
 | 2=>1330
 | 3=>1462
 | 4=>950
 | 5=>18
 | 6=>54
 | 7=>2
 | 8=>2
 | 9=>70
 | 10=>2
 | 11=>2058
 | 21=>3
 | 22=>3
 | 23=>3
 | 24=>3
 | 25=>4099
 | 26=>1
 | _=>0
def flagI (b:Bool):Int:=if b then 1 else 0
def sgn (s:Nat):Int:=if s<9223372036854775808 then (s:Int) else (s:Int) - 18446744073709551616
def uns (v:Int):Nat:=if 0<=v then v.toNat else (v+18446744073709551616).toNat
theorem sgn_b (s:Nat) (h:s<18446744073709551616):I64b (sgn s):=by unfold I64b sgn;split <;> omega
def En.get (x:En):Nat->Int
 | 0=>x.w
 | 1=>x.t
 | 2=>x.p
 | 3=>x.p
 | 4=>x.c
 | 5=>x.b
 | 6=>x.b
 | 7=>x.q
 | 8=>x.v
 | 9=>x.u
 | 10=>flagI x.o
 | 11=>x.e
 | _=>sgn x.s
def En.setS (x:En) (z:Nat):En:={ x with s:=z }
def En.put (x:En) (n:Nat) (v:Int):En:=match n with
 | 0=>{ x with w:=v }
 | 1=>{ x with t:=v }
 | 2=>{ x with p:=v }
 | 3=>{ x with p:=v }
 | 4=>{ x with c:=v }
 | 5=>{ x with b:=v }
 | 6=>{ x with b:=v }
 | 7=>{ x with q:=v }
 | 8=>{ x with v:=v }
 | 9=>{ x with u:=v }
 | 10=>{ x with o:=v != 0 }
 | 11=>{ x with e:=v }
 | _=>x.setS (uns v)
def En.only (a:Int) (k:Nat):En:=⟨a,k,0,0,0,0,0,0,0,0,false,0,0⟩
def En.eq (x y:En):Bool:=x.a == y.a && (x.k == y.k && (x.w == y.w && (x.t == y.t && (x.p == y.p && (x.c == y.c && (x.b == y.b && (x.q == y.q && (x.v == y.v && (x.u == y.u && (x.o == y.o && (x.e == y.e && x.s == y.s)))))))))))
theorem En.eq_iff {x y:En}:En.eq x y=true ↔ x=y:=by
 cases x;cases y
 simp [En.eq]
theorem En.eq_refl (x:En):En.eq x x=true:=En.eq_iff.2 rfl
instance:DecidableEq En:=fun x y=>if h:En.eq x y=true then isTrue (En.eq_iff.1 h) else isFalse fun e=>h (En.eq_iff.2 e)
theorem i64_zero:I64b 0:=⟨by omega,by omega⟩
theorem flagI_b (b:Bool):I64b (flagI b):=by unfold I64b flagI;split <;> omega
theorem En.ok.get {x:En} (h:x.ok) (n:Nat):I64b (x.get n):=by
 unfold En.get
 split <;> first | exact h.w | exact h.t | exact h.p | exact h.c | exact h.b | exact h.q | exact h.v | exact h.u | exact flagI_b _ | exact h.e | exact sgn_b _ h.s
theorem put_a (x:En) (n:Nat) (v:Int):(x.put n v).a=x.a:=by unfold En.put;split <;> rfl
def mayN (n:Nat) (v:Int):Bool:=match n with
 | 0=>decide (0<=v) && decide (v<255)
 | 1=>decide (0<=v) && decide (v<32)
 | 2=>decide (0<=v) && decide (v<32)
 | 3=>decide (-1<=v) && decide (v<32)
 | 4=>decide (0<=v) && decide (v<6)
 | 5=>decide (-1<=v) && decide (v<6)
 | 6=>decide (0<=v) && decide (v<8)
 | 7=>decide (-1<=v) && decide (v<6)
 | 10=>decide (0<=v) && decide (v<2)
 | 11=>v == 140 || (v == 141 || (v == 142 || v == 143))
 | _=>true
def mayStep (x:En) (b:Bool) (n:Nat):Bool:=b && mayN n (x.get n)
def bareStep (x y:En) (n:Nat):En:=y.put n (x.get n)
def mayAll (x:En):Bool:=(namesOf x.k).foldl (mayStep x) (known x.k)
def bareOf (x:En):En:=(namesOf x.k).foldl (bareStep x) (En.only x.a x.k)
def okB (x:En):Bool:=mayAll x && (decide (0<=x.a) && En.eq (bareOf x) x)
theorem known_cases {k:Nat} (h:known k=true):k=1 \/ k=2 \/ k=3 \/ k=4 \/ k=5 \/ k=6 \/ k=7 \/ k=8 \/ k=9 \/ k=10 \/ k=11 \/ k=21 \/ k=22 \/ k=23 \/ k=24 \/ k=25 \/ k=26:=by
 have:(1<=k/\k<=11) \/ (21<=k/\k<=26):=by simpa [known] using h
 omega
theorem namesOf_out {k:Nat} (h:known k=false):namesOf k = []:=by
 unfold namesOf;split <;> first | rfl | (exfalso;revert h;decide)
theorem wordL_out {k:Nat} (h:known k=false):wordL k = []:=by
 unfold wordL;split <;> first | rfl | (exfalso;revert h;decide)
theorem maskN_out {k:Nat} (h:known k=false):maskN k=0:=by
 unfold maskN;split <;> first | rfl | (exfalso;revert h;decide)
theorem namesOf_lt {k n:Nat} (h:n ∈ namesOf k):n<13:=by
 revert h;unfold namesOf;split <;> (simp;try omega)
theorem namesOf_len (k:Nat):(namesOf k).length<=7:=by unfold namesOf;split <;> simp
theorem maskN_lt (k:Nat):maskN k<8192:=by unfold maskN;split <;> omega
theorem lt13 {n:Nat} (h:n<13):n=0 \/ n=1 \/ n=2 \/ n=3 \/ n=4 \/ n=5 \/ n=6 \/ n=7 \/ n=8 \/ n=9 \/ n=10 \/ n=11 \/ n=12:=by omega
theorem may_fold (x:En) (ns:List Nat) (b:Bool):ns.foldl (mayStep x) b=(b && ns.all fun n=>mayN n (x.get n)):=by
 induction ns generalizing b with
 | nil=>simp
 | cons n ns ih=>rw [List.foldl_cons,ih,List.all_cons,mayStep,Bool.and_assoc]
theorem okB_iff {x:En}:okB x=true ↔ known x.k=true/\(∀ n ∈ namesOf x.k,mayN n (x.get n)=true)/\0<=x.a/\bareOf x=x:=by
 unfold okB mayAll
 rw [may_fold]
 simp [En.eq_iff,and_assoc]
open Go.RowKit
theorem below_drewN {n:Nat} {w w1:World} (h:Below n w w1) (q:Nat):Below n w (w1.drewN q):=⟨h.os,h.tape,h.output,h.size,h.block⟩
theorem ret_v {a b:Value} (h:a=b):Ending.returned a=.returned b:=by rw [h]
structure But (S:List Nat) (w w':World):Prop where
 os:w'.os=w.os
 tape:w'.tape=w.tape
 output:w'.output=w.output
 size:w.heap.size<=w'.heap.size
 block:∀ k,k<w.heap.size->k ∉ S->w'.heap[k]?=w.heap[k]?
theorem But.refl (S:List Nat) (w:World):But S w w:=⟨rfl,rfl,rfl,Nat.le_refl _,fun _ _ _=>rfl⟩
theorem But.mono {S T:List Nat} {w w':World} (h:But S w w') (hS:∀ k ∈ S,k ∈ T):But T w w':=⟨h.os,h.tape,h.output,h.size,fun k hk hn=>h.block k hk (fun e=>hn (hS k e))⟩
theorem But.trans {S T:List Nat} {a b c:World} (h:But S a b) (k:But T b c) (hT:∀ x ∈ T,x<a.heap.size->x ∈ S):But S a c:=
  ⟨k.os.trans h.os,k.tape.trans h.tape,k.output.trans h.output,Nat.le_trans h.size k.size,
   fun i hi hn=>(k.block i (Nat.lt_of_lt_of_le hi h.size) (fun e=>hn (hT i e hi))).trans (h.block i hi hn)⟩
theorem But.next {S:List Nat} {a b c:World} (h:But S a b) (k:But S b c):But S a c:=h.trans k (fun _ h _=>h)
theorem But.of_none {w w':World} (h:w.grownBy w' none) (S:List Nat):But S w w':=⟨h.os,h.tape,h.output,h.size,fun k hk _=>h.block k hk (by simp)⟩
theorem But.of_some {w w':World} {B:Nat} (h:w.grownBy w' (some B)) {S:List Nat} (hB:B ∈ S):But S w w':=⟨h.os,h.tape,h.output,h.size,fun k hk hn=>h.block k hk (fun e=>by cases e;exact hn hB)⟩
theorem But.drew {S:List Nat} {w w':World} (h:But S w w'):But S w w'.drew:=⟨h.os,h.tape,h.output,h.size,h.block⟩
theorem But.alloc {S:List Nat} {w w':World} (h:But S w w') (o:Obj):But S w (w'.alloc o):=h.trans (.of_none (World.grownBy_alloc w' o none) []) (by simp)
theorem But.set {S:List Nat} {w w':World} (h:But S w w') {p:Addr} (hp:p.block ∈ S \/ w.heap.size<=p.block) (v:Value):But S w (w'.setCell p v):=
 ⟨h.os,h.tape,h.output,by simpa [World.setCell] using h.size,fun k hk hn=>(Below.heap_setCell w' p v k (fun e=>by subst e;rcases hp with hp | hp;exact hn hp;omega)).trans (h.block k hk hn)⟩
theorem But.cell {S:List Nat} {w w':World} (h:But S w w') {p:Addr} {v:Value} (hv:w.cell? p=some v) (hn:p.block ∉ S):w'.cell? p=some v:=
 (World.cell?_of_block (w:=w) (h.block p.block (World.block_lt_of_cell? w p hv) hn)).trans hv
theorem But.boxed {S:List Nat} {w w':World} (h:But S w w') {B:Nat} {t:TypeId} {v:Value} (hb:Boxed w B t v) (hn:B ∉ S):Boxed w' B t v:=(h.block B hb.lt hn).trans hb
theorem But.below {S:List Nat} {w w':World} (h:But S w w') {n:Nat} (hn:n<=w.heap.size) (hS:∀ k ∈ S,n<=k):Below n w w':=
 ⟨h.os,h.tape,h.output,h.size,fun k hk=>h.block k (Nat.lt_of_lt_of_le hk hn) (fun e=>Nat.lt_irrefl _ (Nat.lt_of_lt_of_le hk (hS k e)))⟩
theorem But.of_below {w w':World} (h:Below w.heap.size w w') (S:List Nat):But S w w':=⟨h.os,h.tape,h.output,h.size,fun k hk _=>h.block k hk⟩
theorem heap_set_same {W:World} {B k:Nat} {cs:Array Value} {t:TypeId} {z:Nat × Nat} (v:Value) (h:W.heap[B]?=some (.cells cs t z)):(W.setCell ⟨B,k,none⟩ v).heap[B]?=some (.cells (cs.setIfInBounds k v) t z):=by
 obtain ⟨hlt,hk⟩:=Array.getElem?_eq_some_iff.1 h
 show (W.heap.modify B _)[B]?=_
 rw [Array.getElem?_eq_getElem (by rw [Array.size_modify];exact hlt),Array.getElem_modify_self,hk]
 rfl
def Two (W:World) (B:Nat) (t:TypeId) (x y:Value):Prop:=W.heap[B]?=some (.cells #[x,y] t (0,0))
section
variable {W W':World} {B:Nat} {t:TypeId} {x y:Value}
theorem Two.lt (h:Two W B t x y):B<W.heap.size:=(Array.getElem?_eq_some_iff.1 h).1
theorem Two.c0 (h:Two W B t x y):W.cell? ⟨B,0,none⟩=some x:=by simp [World.cell?,show W.heap[B]?=_ from h]
theorem Two.c1 (h:Two W B t x y):W.cell? ⟨B,1,none⟩=some y:=by simp [World.cell?,show W.heap[B]?=_ from h]
theorem Two.frozen (h:Two W B t x y) (k:Nat):W.frozen? ⟨B,k,none⟩=false:=by simp [World.frozen?,show W.heap[B]?=_ from h]
theorem Two.of_block (h:Two W B t x y) (hb:W'.heap[B]?=W.heap[B]?):Two W' B t x y:=hb.trans h
theorem Two.alloc (h:Two W B t x y) (o:Obj):Two (W.alloc o) B t x y:=h.of_block ((World.grownBy_alloc W o none).block B h.lt (by simp))
theorem Two.set (h:Two W B t x y) (a b:Value):Two ((W.setCell ⟨B,0,none⟩ a).setCell ⟨B,1,none⟩ b) B t a b:=by
 have h1:=heap_set_same (k:=0) a h
 have h2:=heap_set_same (k:=1) b h1
 simpa [Two] using h2
theorem two_new (W:World) (t:TypeId) (x y:Value):Two (W.alloc (.cells #[x,y] t)) W.heap.size t x y:=World.alloc_heap_new W _
end
def En.val (x:En):Value:=.agg #[.int .i64 x.a,.int .u8 (x.k:Int),.int .i64 x.w,.int .i64 x.t,.int .i64 x.p,.int .i64 x.c,.int .i64 x.b,.int .i64 x.q,.int .i64 x.v,.int .i64 x.u,.bool x.o,.int .i64 x.e,.int .u64 (x.s:Int)]
def EnAt (W:World) (B:Nat) (x:En):Prop:=W.heap[B]?=some (.cells #[.int .i64 x.a,.int .u8 (x.k:Int),.int .i64 x.w,.int .i64 x.t,.int .i64 x.p,.int .i64 x.c,.int .i64 x.b,.int .i64 x.q,.int .i64 x.v,.int .i64 x.u,.bool x.o,.int .i64 x.e,.int .u64 (x.s:Int)] 39 (0,0))
section
variable {W W':World} {B:Nat} {x:En}
theorem EnAt.lt (h:EnAt W B x):B<W.heap.size:=(Array.getElem?_eq_some_iff.1 h).1
theorem EnAt.of_block (h:EnAt W B x) (hb:W'.heap[B]?=W.heap[B]?):EnAt W' B x:=hb.trans h
theorem EnAt.c0 (h:EnAt W B x):W.cell? ⟨B,0,none⟩=some (.int .i64 x.a):=by simp [World.cell?,show W.heap[B]?=_ from h]
theorem EnAt.c1 (h:EnAt W B x):W.cell? ⟨B,1,none⟩=some (.int .u8 (x.k:Int)):=by simp [World.cell?,show W.heap[B]?=_ from h]
theorem EnAt.c2 (h:EnAt W B x):W.cell? ⟨B,2,none⟩=some (.int .i64 x.w):=by simp [World.cell?,show W.heap[B]?=_ from h]
theorem EnAt.c3 (h:EnAt W B x):W.cell? ⟨B,3,none⟩=some (.int .i64 x.t):=by simp [World.cell?,show W.heap[B]?=_ from h]
theorem EnAt.c4 (h:EnAt W B x):W.cell? ⟨B,4,none⟩=some (.int .i64 x.p):=by simp [World.cell?,show W.heap[B]?=_ from h]
theorem EnAt.c5 (h:EnAt W B x):W.cell? ⟨B,5,none⟩=some (.int .i64 x.c):=by simp [World.cell?,show W.heap[B]?=_ from h]
theorem EnAt.c6 (h:EnAt W B x):W.cell? ⟨B,6,none⟩=some (.int .i64 x.b):=by simp [World.cell?,show W.heap[B]?=_ from h]
theorem EnAt.c7 (h:EnAt W B x):W.cell? ⟨B,7,none⟩=some (.int .i64 x.q):=by simp [World.cell?,show W.heap[B]?=_ from h]
theorem EnAt.c8 (h:EnAt W B x):W.cell? ⟨B,8,none⟩=some (.int .i64 x.v):=by simp [World.cell?,show W.heap[B]?=_ from h]
theorem EnAt.c9 (h:EnAt W B x):W.cell? ⟨B,9,none⟩=some (.int .i64 x.u):=by simp [World.cell?,show W.heap[B]?=_ from h]
theorem EnAt.c10 (h:EnAt W B x):W.cell? ⟨B,10,none⟩=some (.bool x.o):=by simp [World.cell?,show W.heap[B]?=_ from h]
theorem EnAt.c11 (h:EnAt W B x):W.cell? ⟨B,11,none⟩=some (.int .i64 x.e):=by simp [World.cell?,show W.heap[B]?=_ from h]
theorem EnAt.c12 (h:EnAt W B x):W.cell? ⟨B,12,none⟩=some (.int .u64 (x.s:Int)):=by simp [World.cell?,show W.heap[B]?=_ from h]
theorem EnAt.frozen (h:EnAt W B x) (k:Nat):W.frozen? ⟨B,k,none⟩=false:=by simp [World.frozen?,show W.heap[B]?=_ from h]
theorem enAt_new (W:World) (x:En):EnAt (W.alloc (.cells #[.int .i64 x.a,.int .u8 (x.k:Int),.int .i64 x.w,.int .i64 x.t,.int .i64 x.p,.int .i64 x.c,.int .i64 x.b,.int .i64 x.q,.int .i64 x.v,.int .i64 x.u,.bool x.o,.int .i64 x.e,.int .u64 (x.s:Int)] 39)) W.heap.size x:=World.alloc_heap_new W _
theorem EnAt.but (h:EnAt W B x) {S:List Nat} (hb:But S W W') (hn:B ∉ S):EnAt W' B x:=h.of_block (hb.block B h.lt hn)
end
def put13 (W:World) (B:Nat) (z:En):World:=((((((((((((W.setCell ⟨B,0,none⟩ (.int .i64 z.a)).setCell ⟨B,1,none⟩ (.int .u8 (z.k:Int))).setCell ⟨B,2,none⟩ (.int .i64 z.w)).setCell ⟨B,3,none⟩ (.int .i64 z.t)).setCell ⟨B,4,none⟩ (.int .i64 z.p)).setCell ⟨B,5,none⟩ (.int .i64 z.c)).setCell ⟨B,6,none⟩ (.int .i64 z.b)).setCell ⟨B,7,none⟩ (.int .i64 z.q)).setCell ⟨B,8,none⟩ (.int .i64 z.v)).setCell ⟨B,9,none⟩ (.int .i64 z.u)).setCell ⟨B,10,none⟩ (.bool z.o)).setCell ⟨B,11,none⟩ (.int .i64 z.e)).setCell ⟨B,12,none⟩ (.int .u64 (z.s:Int))
theorem but_put13 (W:World) (B:Nat) (z:En):But [B] W (put13 W B z):=by
 unfold put13
 exact (((((((((((((But.refl [B] W).set (p:=⟨B,0,none⟩) (.inl (by simp)) _).set (p:=⟨B,1,none⟩) (.inl (by simp)) _).set (p:=⟨B,2,none⟩) (.inl (by simp)) _).set (p:=⟨B,3,none⟩) (.inl (by simp)) _).set (p:=⟨B,4,none⟩) (.inl (by simp)) _).set (p:=⟨B,5,none⟩) (.inl (by simp)) _).set (p:=⟨B,6,none⟩) (.inl (by simp)) _).set (p:=⟨B,7,none⟩) (.inl (by simp)) _).set (p:=⟨B,8,none⟩) (.inl (by simp)) _).set (p:=⟨B,9,none⟩) (.inl (by simp)) _).set (p:=⟨B,10,none⟩) (.inl (by simp)) _).set (p:=⟨B,11,none⟩) (.inl (by simp)) _).set (p:=⟨B,12,none⟩) (.inl (by simp)) _
theorem EnAt.put13 {W:World} {B:Nat} {x:En} (h:EnAt W B x) (z:En):EnAt (put13 W B z) B z:=by
 have h0:=heap_set_same (k:=0) (.int .i64 z.a) h
 have h1:=heap_set_same (k:=1) (.int .u8 (z.k:Int)) h0
 have h2:=heap_set_same (k:=2) (.int .i64 z.w) h1
 have h3:=heap_set_same (k:=3) (.int .i64 z.t) h2
 have h4:=heap_set_same (k:=4) (.int .i64 z.p) h3
 have h5:=heap_set_same (k:=5) (.int .i64 z.c) h4
 have h6:=heap_set_same (k:=6) (.int .i64 z.b) h5
 have h7:=heap_set_same (k:=7) (.int .i64 z.q) h6
 have h8:=heap_set_same (k:=8) (.int .i64 z.v) h7
 have h9:=heap_set_same (k:=9) (.int .i64 z.u) h8
 have h10:=heap_set_same (k:=10) (.bool z.o) h9
 have h11:=heap_set_same (k:=11) (.int .i64 z.e) h10
 have h12:=heap_set_same (k:=12) (.int .u64 (z.s:Int)) h11
 simpa [EnAt,YtnfbncgfpmcpnaaGreat.Ent.put13] using h12
open Go.RowKit SetM
theorem below_nx {n:Nat} {w w1 w2:World} (h:Below n w w1) (k:Below w1.heap.size w1 w2) (hn:n<=w.heap.size):Below n w w2:=
 ⟨k.os.trans h.os,k.tape.trans h.tape,k.output.trans h.output,Nat.le_trans h.size k.size,fun i hi=>(k.block i (Nat.lt_of_lt_of_le hi (Nat.le_trans hn h.size))).trans (h.block i hi)⟩
theorem ret_hu {x y:Int} {w:World} (h:Hid (x=y)):Ending.returned (.int .u64 x)=.returned (.int .u64 y)/\w=w:=⟨by rw [h.out],rfl⟩
theorem ret_hb {x y:Bool} {w:World} (h:Hid (x=y)):Ending.returned (.bool x)=.returned (.bool y)/\w=w:=⟨by rw [h.out],rfl⟩
theorem bit_any (k:Int) (h1 : -9223372036854775808<=k) (h2:k<=9223372036854775807) (w:World) :
  Calls Tryz.prog 139 #[.int .i64 k] w fun e w'=>e=.returned (.int .u64 (bitOf k:Nat))/\w'=w:=by
 go_enter Tryz.func139,Tryz.ntmps139
 by_cases hneg:k<0
 ·go_wp2_with fail
  go_ret
  rw [bitOf_out (by omega)]
  exact ⟨rfl,rfl⟩
 ·have HE:=Lib.hid (shl_bit (k:=k) (by omega))
  go_wp2_with fail
  go_ret
  exact ret_hu HE
theorem has_any (s:Nat) (k:Int) (hs:s<18446744073709551616) (h1 : -9223372036854775808<=k) (h2:k<=9223372036854775807) (w:World) :
  Calls Tryz.prog 135 #[.int .u64 s,.int .i64 k] w fun e w'=>e=.returned (.bool (has s k))/\w'=w:=by
 have HE:=Lib.hid (and_has hs k)
 go_enter Tryz.func135,Tryz.ntmps135
 go_wp2_with fail
 refine (bit_any k h1 h2 _).mono ?_
 rintro e w1 ⟨rfl,rfl⟩
 go_wp2_with fail
 go_ret
 exact ret_hb HE
def RowI (w:World) (v:Value) (xs:List Int):Prop:=
 (xs = []/\∃ a cap,v=.slice a 0 cap) \/
 (∃ b off cap,v=.slice (some ⟨b,off,none⟩) xs.length cap/\0<xs.length/\b<w.heap.size/\∀ j,j<xs.length->w.cell? ⟨b,off+j,none⟩=some (.int .i64 (xs[j]?.getD 0)))
theorem take_snocI (xs:List Int) (k:Nat) (hk:k<xs.length):xs.take (k+1)=xs.take k ++ [xs[k]?.getD 0]:=by
 rw [List.take_add_one,List.getElem?_eq_getElem hk];rfl
theorem mem_of_getDI {xs:List Int} {k:Nat} (h:k<xs.length):xs[k]?.getD 0 ∈ xs:=by rw [List.getElem?_eq_getElem h];simp
def Ints (xs:List Int):Prop:=∀ x ∈ xs,-9223372036854775808<=x/\x<=9223372036854775807
theorem of_any (v:Value) (xs:List Int) (w:World) (hr:RowI w v xs) (hx:Ints xs) (hlen:xs.length<=1000) :
  Calls Tryz.prog 99 #[v] w fun e w'=>e=.returned (.int .u64 (ofL xs:Nat))/\w'=w:=by
 rcases hr with ⟨rfl,a,cap,rfl⟩ | ⟨b,off,cap,rfl,h0,hb,hc⟩
 ·go_enter Tryz.func99,Tryz.ntmps99
  go_wp2_with fail
  refine wp_loop_rounds 1 ?_
  rw [rounds_succ]
  go_wp2_with fail
  go_ret
  exact ⟨rfl,rfl⟩
 ·go_enter Tryz.func99,Tryz.ntmps99
  go_wp2_with fail
  go_loop [2,7] (fun sv i=>∃ k s:Nat,k<=xs.length/\i=.int .i64 k/\sv=.int .u64 s/\s<18446744073709551616/\Hid (s=ofL (xs.take k))) (fun _ i=>xs.length - (intOf i).toNat)
  case atStart=>exact ⟨0,0,Nat.zero_le _,rfl,rfl,by omega,Lib.hid rfl⟩
  case round=>
   obtain ⟨k,s,hk,rfl,rfl,hs,HS⟩:=hrel
   by_cases hlt:k<xs.length
   ·have hlt':(k:Int)<(xs.length:Int):=by omega
    have hcell:w.cell? ⟨b,off+k,none⟩=some (.int .i64 (xs[k]?.getD 0)):=hc k hlt
    have hxk:=hx _ (mem_of_getDI hlt)
    have HT:=Lib.hid (take_snocI xs k hlt)
    obtain ⟨x,hxe⟩:∃ x,x=xs[k]?.getD 0:=⟨_,rfl⟩
    rw [<- hxe] at hcell hxk HT
    clear hxe hc
    have HO:Hid (withN s x=ofL (xs.take (k+1))):=Lib.hid (by rw [HT.out,ofL_snoc,HS.out])
    have hor:=or_with hs x
    have hwl:=withN_lt hs x
    go_wp2_with fail
    refine (bit_any x hxk.1 hxk.2 _).mono ?_
    rintro e w1 ⟨rfl,rfl⟩
    go_wp2_with fail
    go_round
    case rel=>exact ⟨k+1,withN s x,by omega,by go_num,rfl,hwl,HO⟩
    case measure=>simp [intOf];omega
   ·have hlt' : ¬ (k:Int)<(xs.length:Int):=by omega
    obtain rfl:k=xs.length:=by omega
    have HF:Hid ((s:Int)=(ofL xs:Nat)):=Lib.hid (by have:=HS.out;rw [List.take_length] at this;rw [this])
    clear hc hx hlt
    go_wp2_with fail
    go_ret
    exact ret_hu HF
theorem of_lit (w:World) (b:Nat) (cs:Array Value) (n:Nat) (hbw:b=w.heap.size) (hn:n=cs.size) (hc:cs=(cs.toList.map fun v=>Value.int .i64 (intOf v)).toArray) (hb:Ints (cs.toList.map intOf)) (hs:n<=1000) (h0:0<n) :
  Calls Tryz.prog 99 #[.slice (some ⟨b,0,none⟩) n n] (w.alloc (.cells cs 3)) fun e w'=>e=.returned (.int .u64 (ofL (cs.toList.map intOf):Nat))/\w'=w.alloc (.cells cs 3):=by
 subst hbw
 have hl:(cs.toList.map intOf).length=n:=by rw [List.length_map,hn];simp
 refine of_any _ _ _ (.inr ⟨w.heap.size,0,n,by rw [hl],by rw [hl];exact h0,by simp,fun j hj=>?_⟩) hb (by rw [hl];exact hs)
 rw [hl] at hj
 simp only [World.cell?,World.alloc_heap_new]
 rw [Nat.zero_add]
 have:cs[j]?=some (Value.int .i64 ((cs.toList.map intOf)[j]?.getD 0)):=by
  rw [hc]
  simp only [List.getElem?_toArray,List.getElem?_map]
  have hj':j<cs.toList.length:=by simpa [<- hn] using hj
  rw [List.getElem?_eq_getElem (by simpa using hj')]
  simp [intOf]
 simpa using this
open Go.RowKit Go.Maps SetM
def kinV (k:Nat):Value:=.agg #[.string ⟨(wordL k).toArray⟩,.int .u64 (maskN k:Int)]
def zeroK:Value:=.agg #[.string ⟨#[]⟩,.int .u64 0]
theorem kinV_out {k:Nat} (h:known k=false):kinV k=zeroK:=by
 unfold kinV;rw [wordL_out h,maskN_out h];rfl
def heldE:Value->Option (DataW Value × List MemPlace):=fun v=>some (.held v,[])
theorem keyK {i:Nat} (h:i<256):keyOf Tryz.prog 5 (.int .u8 (i:Int))=some (.int .u8 (i:Int)):=keyOf_int_mk Tryz.underlying5 (by
 have e1:IntKind.u8.min=0:=rfl
 have e2:IntKind.u8.max=255:=rfl
 simp [Lit.wf,e1,e2]
 omega)
theorem keyed:Keyed Tryz.prog 5:=int_keyed Tryz.underlying5
theorem zeroE (w:World):(zeroValue 136).run Tryz.prog w=.ok zeroK w:=by kernel_rfl
theorem keyLit {i:Nat} (h:i<256):WideAt.IsKeyLit (.int .u8 (i:Int)):=keyed.key (keyK h)
theorem lit_ne {i j:Nat} (h:i ≠ j):(Lit.int .u8 (i:Int)) ≠ .int .u8 (j:Int):=fun e=>h (by
 simp only [Lit.int.injEq,true_and] at e
 omega)
theorem held_inj {a b:Value} (h:(DataW.held a:DataW Value)=.held b):a=b:=by cases h;rfl
def MapAt (W:World) (M:Nat) (g:Nat->Option Value) (c:Nat):Prop:=
 ∃ D:DataW Value,W.ownsMap Tryz.prog 5 heldE M c D/\Maps.size D=c/\∀ i:Nat,i<256->Maps.has D (.int .u8 (i:Int))=(g i).isSome/\D.atKey (.int .u8 (i:Int)) (.held zeroK)=.held ((g i).getD zeroK)
def upd (g:Nat->Option Value) (i:Nat) (x:Option Value):Nat->Option Value:=fun k=>if k=i then x else g k
theorem upd_same (g:Nat->Option Value) (i:Nat) (x:Option Value):upd g i x i=x:=by simp [upd]
theorem upd_ne {g:Nat->Option Value} {i k:Nat} {x:Option Value} (h:k ≠ i):upd g i x k=g k:=by simp [upd,h]
section
variable {W W':World} {M c:Nat} {g:Nat->Option Value}
theorem MapAt.lt (h:MapAt W M g c):M<W.heap.size:=by obtain ⟨_,h,_⟩:=h;exact h.lt
theorem MapAt.of_block (h:MapAt W M g c) (hb:W'.heap[M]?=W.heap[M]?):MapAt W' M g c:=by
 obtain ⟨D,⟨es,clock,h1,r⟩,h2⟩:=h
 exact ⟨D,⟨es,clock,hb.trans h1,r⟩,h2⟩
theorem MapAt.but (h:MapAt W M g c) {S:List Nat} (hb:But S W W') (hn:M ∉ S):MapAt W' M g c:=h.of_block (hb.block M h.lt hn)
theorem MapAt.is (h:MapAt W M g c):∃ es clock,W.heap[M]?=some (.map es clock):=by obtain ⟨_,⟨es,clock,h1,_⟩,_⟩:=h;exact ⟨_,_,h1⟩
theorem mapAt_made (w:World):MapAt (w.alloc (.map #[] 0)) w.heap.size (fun _=>none) 0:=
 ⟨.map [],World.ownsMap_made w _ _ _,rfl,fun _ _=>⟨rfl,rfl⟩⟩
theorem MapAt.look (h:MapAt W M g c) {i:Nat} (hi:i<256):(Instr.lookup 139 (.map (some M)) (.int .u8 (i:Int)) true).run Tryz.prog W=.ok (.tuple #[(g i).getD zeroK,.bool (g i).isSome]) W:=by
 obtain ⟨D,hown,_,hD⟩:=h
 obtain ⟨v,ps,hrun,hv⟩:=hown.look_ok keyed Tryz.underlying139 (zeroE W) (show heldE zeroK=some (.held zeroK,[]) from rfl) (keyK hi)
 obtain ⟨h1,h2⟩:=hD i hi
 simp only [heldE,Option.some.injEq,Prod.mk.injEq] at hv
 rw [h2] at hv
 rw [hrun,h1,held_inj hv.1]
theorem MapAt.store (h:MapAt W M g c) (hc:c<maxLen) {i:Nat} (hi:i<256) (x:Value) :
  ∃ W',(Instr.mapUpdate 139 (.map (some M)) (.int .u8 (i:Int)) x).run Tryz.prog W=.ok () W'/\MapAt W' M (upd g i (some x)) (if (g i).isSome then c else c+1)/\But [M] W W':=by
 obtain ⟨D,hown,hs,hD⟩:=h
 obtain ⟨W',hrun,hown',hg⟩:=hown.update keyed Tryz.underlying139 hc (keyK hi) (show heldE x=some (.held x,[]) from rfl)
 have hT:=hown.tidy keyed
 have hsz:=size_put (k:=.int .u8 (i:Int)) hT (.held x)
 rw [(hD i hi).1,hs] at hsz
 refine ⟨W',hrun,⟨_,?_,hsz,fun k hk=>?_⟩,But.of_some hg (by simp)⟩
 ·obtain ⟨es,clock,hb,F,hn,hD'⟩:=hown'
  refine ⟨es,clock,hb,F,?_,hD'⟩
  rw [hD'] at hsz
  simp only [Maps.size,length_sorted,List.length_map,Array.length_toList] at hsz
  omega
 ·by_cases e:k=i
  ·subst e
   rw [upd_same]
   exact ⟨has_put_same hT.isMap (keyLit hk) _,atKey_put_same hT.isMap (keyLit hk) _ _⟩
  ·rw [upd_ne e]
   have e':=lit_ne e
   exact ⟨(has_put_other e' _).trans (hD k hk).1,(atKey_put_other e' _ _).trans (hD k hk).2⟩
end
def KMap (W:World) (M:Nat) (ds:List Nat):Prop:=∃ g,MapAt W M g ds.length/\∀ o,g o=if o ∈ ds then some (kinV o) else none
def kindsL:List Nat:=[26,25,24,23,22,21,11,10,9,8,7,6,5,4,3,2,1]
theorem mem_kinds (o:Nat):o ∈ kindsL ↔ known o=true:=by
 simp [kindsL,known]
 omega
section
variable {W W':World} {M:Nat} {ds:List Nat}
theorem KMap.but (h:KMap W M ds) {S:List Nat} (hb:But S W W') (hn:M ∉ S):KMap W' M ds:=by
 obtain ⟨g,h1,h2⟩:=h
 exact ⟨g,h1.but hb hn,h2⟩
theorem KMap.fresh (h:KMap W M ds) (hb:But [] W W'):KMap W' M ds:=h.but hb (by simp)
theorem kmap_made (w:World):KMap (w.alloc (.map #[] 0)) w.heap.size []:=⟨_,mapAt_made w,fun o=>by simp⟩
theorem KMap.store (h:KMap W M ds) {o:Nat} (ho:o<256) (hl:ds.length<100) (hn:o ∉ ds) {x:Value} (hx:x=kinV o) :
  ∃ W',(Instr.mapUpdate 139 (.map (some M)) (.int .u8 (o:Int)) x).run Tryz.prog W=.ok () W'/\KMap W' M (o::ds)/\But [M] W W':=by
 obtain ⟨g,h1,h2⟩:=h
 obtain ⟨W',hrun,r1,r2⟩:=h1.store (by unfold maxLen;omega) ho x
 have hno:(g o).isSome=false:=by rw [h2,if_neg hn];rfl
 rw [hno] at r1
 refine ⟨W',hrun,⟨_,r1,fun o'=>?_⟩,r2⟩
 by_cases e:o'=o
 ·subst e;rw [upd_same,if_pos (List.mem_cons_self ..),hx]
 ·rw [upd_ne e,h2]
  simp [e]
theorem KMap.look (h:KMap W M kindsL) {o:Nat} (ho:o<256):(Instr.lookup 139 (.map (some M)) (.int .u8 (o:Int)) true).run Tryz.prog W=.ok (.tuple #[kinV o,.bool (known o)]) W:=by
 obtain ⟨g,h1,h2⟩:=h
 rw [h1.look ho,h2]
 by_cases e:o ∈ kindsL
 ·rw [if_pos e,(mem_kinds o).1 e];rfl
 ·rw [if_neg e]
  have hk:known o=false:=by
   cases e2:known o with
   | false=>rfl
   | true=>exact absurd ((mem_kinds o).2 e2) e
  rw [hk,kinV_out hk];rfl
end
section
variable (w:World) {ops:Array Oper} {rest:List Oper} {o:Oper} {a:Act} {Q:Exit->Act->World->Prop}
theorem wpList_ins (hg:o.guard=none) (m x v:Operand) (hop:o.op=Op.insert 139 m x v)
  (hR:∃ M ds z,a.eval m=.map (some M)/\KMap w M ds/\a.eval x=.int .u8 z/\(0<=z/\z<256)/\ds.length<100/\z.toNat ∉ ds/\a.eval v=kinV z.toNat/\∀ w',KMap w' M (z.toNat::ds)->But [M] w w'->wpList Tryz.prog ops Q rest (a.put o.dst undef) w') :
  wpList Tryz.prog ops Q (o::rest) a w:=by
 obtain ⟨M,ds,z,hm,h,hx,hz,hl,hn,hy,hK⟩:=hR
 obtain ⟨k,rfl⟩:=Int.eq_ofNat_of_zero_le hz.1
 have hk:k<256:=by omega
 rw [Int.toNat_natCast] at hn hy hK
 refine wpList_plain hg fun K' hK'=>?_
 obtain ⟨w',hrun,r1,r2⟩:=h.store hk hl hn hy
 unfold Oper.wp
 simp [execOp,hop,hm,hx,Result.andThen]
 rw [hrun]
 exact hK' _ _ (hK w' r1 r2)
end
theorem below_ins {w0 w w':World} {M:Nat} (h:Below w0.heap.size w0 w) (hM:w0.heap.size<=M) (hb:But [M] w w'):Below w0.heap.size w0 w':=
 h.trans (hb.below h.size (by simpa using hM))
theorem kinds_any (w:World) :
  Calls Tryz.prog 59 #[] w fun e w'=>e=.returned (.map (some w.heap.size))/\KMap w' w.heap.size kindsL/\Below w.heap.size w w':=by
 have hK:=kmap_made w
 have hB:Below w.heap.size w (w.alloc (.map #[] 0)):=(Below.refl _ w).alloc (Nat.le_refl _) _
 go_enter Tryz.func59,Tryz.ntmps59
 have hmm:=@run_makeMap Tryz.prog
 simp only [List.append_eq,List.cons_append,List.nil_append]
 go_wp2_with (first
  | ((with_reducible refine (of_lit _ _ _ _ ?_ ?_ ?_ ?_ ?_ ?_).mono ?_);(next=>first | rfl | simp);(next=>rfl);(next=>rfl);(next=>(intro x hx;simp [intOf] at hx;omega));(next=>decide);(next=>decide);rintro e wo ⟨rfl,rfl⟩)
  | (refine wpList_ins _ rfl _ _ _ rfl ?_;refine ⟨w.heap.size,_,_,rfl,hK.fresh ((But.refl [] _).alloc _),rfl,?_,?_,?_,?_,?_⟩;(next=>decide);(next=>decide);(next=>decide);(next=>rfl);go_frame;intro wx hKx hbx;have hBx:=below_ins (hB.alloc hB.size _) (Nat.le_refl _) hbx;clear hK hB hbx;have hK:=hKx;have hB:=hBx;clear hKx hBx)
  | fail)
 go_wp2_with fail
 go_ret
 exact ⟨rfl,hK,hB⟩
open Go.RowKit SetM
theorem flag_any (b:Bool) (w:World) :
  Calls Tryz.prog 136 #[.bool b] w fun e w'=>e=.returned (.int .i64 (flagI b))/\w'=w:=by
 cases b <;> (go_enter Tryz.func136,Tryz.ntmps136;go_wp2_with fail;go_ret;exact ⟨rfl,rfl⟩)
theorem wrap_sgn {s:Nat} (h:s<18446744073709551616):IntKind.i64.wrap (s:Int)=sgn s:=by
 rw [IntKind.wrap_i64];unfold sgn;split <;> omega
theorem wrap_uns {v:Int} (h:I64b v):IntKind.u64.wrap v=(uns v:Int):=by
 unfold I64b at h
 rw [IntKind.wrap_u64];unfold uns;split <;> omega
theorem below1 (w:World) (o:Obj):Below w.heap.size w (w.alloc o):=(Below.refl _ w).alloc (Nat.le_refl _) _
theorem below2 (w:World) (o1 o2:Obj):Below w.heap.size w ((w.alloc o1).alloc o2):=((Below.refl _ w).alloc (Nat.le_refl _) _).alloc (by simp) _
theorem tell_any (x:En) (n:Nat) (hx:x.ok) (hn:n<13) (w:World) :
  Calls Tryz.prog 96 #[x.val,.int .i64 (n:Int)] w fun e w'=>e=.returned (.int .i64 (x.get n))/\Below w.heap.size w w':=by
 have hs:=wrap_sgn hx.s
 have hb:=below1 w
 obtain ⟨a,k,w0,t,p,c,b,q,v,u,o,e0,s⟩:=x
 have hf:=flag_any o
 obtain ⟨z,hz⟩:∃ z,z=sgn s:=⟨_,rfl⟩
 simp only at hs
 rw [<- hz] at hs
 have HZ:=Lib.hid hz
 clear hz hx
 unfold En.val
 rcases lt13 hn with rfl | rfl | rfl | rfl | rfl | rfl | rfl | rfl | rfl | rfl | rfl | rfl | rfl
 case' inr.inr.inr.inr.inr.inr.inr.inr.inr.inr.inl=>
  clear hn hs
  go_enter Tryz.func96,Tryz.ntmps96
  go_wp2_with fail
  refine (hf _).mono ?_
  rintro e w' ⟨rfl,rfl⟩
  go_wp2_with fail
  go_ret
  exact ⟨rfl,hb _⟩
 case' inr.inr.inr.inr.inr.inr.inr.inr.inr.inr.inr.inr=>
  clear hn hf
  go_enter Tryz.func96,Tryz.ntmps96
  go_wp2_with fail
  go_ret
  exact ⟨ret_v (by rw [HZ.out];rfl),hb _⟩
 all_goals
  clear hn hf hs
  go_enter Tryz.func96,Tryz.ntmps96
  go_wp2_with fail
  go_ret
  exact ⟨rfl,hb _⟩
theorem with_any (x:En) (n:Nat) (v0:Int) (hv:I64b v0) (hn:n<13) (w:World) :
  Calls Tryz.prog 98 #[x.val,.int .i64 (n:Int),.int .i64 v0] w fun e w'=>e=.returned (x.put n v0).val/\Below w.heap.size w w':=by
 have hs:=wrap_uns hv
 have hb:=below2 w
 obtain ⟨a,k,w0,t,p,c,b,q,v,u,o,e0,s⟩:=x
 obtain ⟨z,hz⟩:∃ z,z=uns v0:=⟨_,rfl⟩
 rw [<- hz] at hs
 have HZ:=Lib.hid hz
 clear hz hv
 unfold En.val
 rcases lt13 hn with rfl | rfl | rfl | rfl | rfl | rfl | rfl | rfl | rfl | rfl | rfl | rfl | rfl
 ·clear hn hs
  go_enter Tryz.func98,Tryz.ntmps98
  go_wp2_with fail
  exact bodyPost_ret (v:=.agg #[.int .i64 a,.int .u8 (k:Int),.int .i64 v0,.int .i64 t,.int .i64 p,.int .i64 c,.int .i64 b,.int .i64 q,.int .i64 v,.int .i64 u,.bool o,.int .i64 e0,.int .u64 (s:Int)]) (by simp [results,Tryz.f98,go_sem]) rfl ⟨rfl,hb _ _⟩
 ·clear hn hs
  go_enter Tryz.func98,Tryz.ntmps98
  go_wp2_with fail
  exact bodyPost_ret (v:=.agg #[.int .i64 a,.int .u8 (k:Int),.int .i64 w0,.int .i64 v0,.int .i64 p,.int .i64 c,.int .i64 b,.int .i64 q,.int .i64 v,.int .i64 u,.bool o,.int .i64 e0,.int .u64 (s:Int)]) (by simp [results,Tryz.f98,go_sem]) rfl ⟨rfl,hb _ _⟩
 ·clear hn hs
  go_enter Tryz.func98,Tryz.ntmps98
  go_wp2_with fail
  exact bodyPost_ret (v:=.agg #[.int .i64 a,.int .u8 (k:Int),.int .i64 w0,.int .i64 t,.int .i64 v0,.int .i64 c,.int .i64 b,.int .i64 q,.int .i64 v,.int .i64 u,.bool o,.int .i64 e0,.int .u64 (s:Int)]) (by simp [results,Tryz.f98,go_sem]) rfl ⟨rfl,hb _ _⟩
 ·clear hn hs
  go_enter Tryz.func98,Tryz.ntmps98
  go_wp2_with fail
  exact bodyPost_ret (v:=.agg #[.int .i64 a,.int .u8 (k:Int),.int .i64 w0,.int .i64 t,.int .i64 v0,.int .i64 c,.int .i64 b,.int .i64 q,.int .i64 v,.int .i64 u,.bool o,.int .i64 e0,.int .u64 (s:Int)]) (by simp [results,Tryz.f98,go_sem]) rfl ⟨rfl,hb _ _⟩
 ·clear hn hs
  go_enter Tryz.func98,Tryz.ntmps98
  go_wp2_with fail
  exact bodyPost_ret (v:=.agg #[.int .i64 a,.int .u8 (k:Int),.int .i64 w0,.int .i64 t,.int .i64 p,.int .i64 v0,.int .i64 b,.int .i64 q,.int .i64 v,.int .i64 u,.bool o,.int .i64 e0,.int .u64 (s:Int)]) (by simp [results,Tryz.f98,go_sem]) rfl ⟨rfl,hb _ _⟩
 ·clear hn hs
  go_enter Tryz.func98,Tryz.ntmps98
  go_wp2_with fail
  exact bodyPost_ret (v:=.agg #[.int .i64 a,.int .u8 (k:Int),.int .i64 w0,.int .i64 t,.int .i64 p,.int .i64 c,.int .i64 v0,.int .i64 q,.int .i64 v,.int .i64 u,.bool o,.int .i64 e0,.int .u64 (s:Int)]) (by simp [results,Tryz.f98,go_sem]) rfl ⟨rfl,hb _ _⟩
 ·clear hn hs
  go_enter Tryz.func98,Tryz.ntmps98
  go_wp2_with fail
  exact bodyPost_ret (v:=.agg #[.int .i64 a,.int .u8 (k:Int),.int .i64 w0,.int .i64 t,.int .i64 p,.int .i64 c,.int .i64 v0,.int .i64 q,.int .i64 v,.int .i64 u,.bool o,.int .i64 e0,.int .u64 (s:Int)]) (by simp [results,Tryz.f98,go_sem]) rfl ⟨rfl,hb _ _⟩
 ·clear hn hs
  go_enter Tryz.func98,Tryz.ntmps98
  go_wp2_with fail
  exact bodyPost_ret (v:=.agg #[.int .i64 a,.int .u8 (k:Int),.int .i64 w0,.int .i64 t,.int .i64 p,.int .i64 c,.int .i64 b,.int .i64 v0,.int .i64 v,.int .i64 u,.bool o,.int .i64 e0,.int .u64 (s:Int)]) (by simp [results,Tryz.f98,go_sem]) rfl ⟨rfl,hb _ _⟩
 ·clear hn hs
  go_enter Tryz.func98,Tryz.ntmps98
  go_wp2_with fail
  exact bodyPost_ret (v:=.agg #[.int .i64 a,.int .u8 (k:Int),.int .i64 w0,.int .i64 t,.int .i64 p,.int .i64 c,.int .i64 b,.int .i64 q,.int .i64 v0,.int .i64 u,.bool o,.int .i64 e0,.int .u64 (s:Int)]) (by simp [results,Tryz.f98,go_sem]) rfl ⟨rfl,hb _ _⟩
 ·clear hn hs
  go_enter Tryz.func98,Tryz.ntmps98
  go_wp2_with fail
  exact bodyPost_ret (v:=.agg #[.int .i64 a,.int .u8 (k:Int),.int .i64 w0,.int .i64 t,.int .i64 p,.int .i64 c,.int .i64 b,.int .i64 q,.int .i64 v,.int .i64 v0,.bool o,.int .i64 e0,.int .u64 (s:Int)]) (by simp [results,Tryz.f98,go_sem]) rfl ⟨rfl,hb _ _⟩
 ·clear hn hs
  go_enter Tryz.func98,Tryz.ntmps98
  go_wp2_with fail
  exact bodyPost_ret (v:=.agg #[.int .i64 a,.int .u8 (k:Int),.int .i64 w0,.int .i64 t,.int .i64 p,.int .i64 c,.int .i64 b,.int .i64 q,.int .i64 v,.int .i64 u,.bool (v0 != 0),.int .i64 e0,.int .u64 (s:Int)]) (by simp [results,Tryz.f98,go_sem]) rfl ⟨rfl,hb _ _⟩
 ·clear hn hs
  go_enter Tryz.func98,Tryz.ntmps98
  go_wp2_with fail
  exact bodyPost_ret (v:=.agg #[.int .i64 a,.int .u8 (k:Int),.int .i64 w0,.int .i64 t,.int .i64 p,.int .i64 c,.int .i64 b,.int .i64 q,.int .i64 v,.int .i64 u,.bool o,.int .i64 v0,.int .u64 (s:Int)]) (by simp [results,Tryz.f98,go_sem]) rfl ⟨rfl,hb _ _⟩
 ·clear hn
  go_enter Tryz.func98,Tryz.ntmps98
  go_wp2_with fail
  exact bodyPost_ret (v:=.agg #[.int .i64 a,.int .u8 (k:Int),.int .i64 w0,.int .i64 t,.int .i64 p,.int .i64 c,.int .i64 b,.int .i64 q,.int .i64 v,.int .i64 u,.bool o,.int .i64 e0,.int .u64 (z:Int)]) (by simp [results,Tryz.f98,go_sem]) rfl ⟨ret_v (by rw [HZ.out];rfl),hb _ _⟩
def faultB (v:Int):Bool:=v == 140 || (v == 141 || (v == 142 || v == 143))
theorem isFault_any (v:Int) (w:World) :
  Calls Tryz.prog 138 #[.int .i64 v] w fun e w'=>e=.returned (.bool (faultB v))/\w'=w:=by
 go_enter Tryz.func138,Tryz.ntmps138
 by_cases h:v=140 \/ v=141 \/ v=142 \/ v=143
 ·have HE:Hid (faultB v=true):=Lib.hid (by rcases h with rfl | rfl | rfl | rfl <;> rfl)
  rcases h with rfl | rfl | rfl | rfl <;> (go_wp2_with fail;go_ret;exact ⟨rfl,rfl⟩)
 ·have e0:(v == 140)=false:=by rw [beq_eq_false_iff_ne];omega
  have e1:(v == 141)=false:=by rw [beq_eq_false_iff_ne];omega
  have e2:(v == 142)=false:=by rw [beq_eq_false_iff_ne];omega
  have e3:(v == 143)=false:=by rw [beq_eq_false_iff_ne];omega
  have HE:Hid (faultB v=false):=Lib.hid (by unfold faultB;rw [e0,e1,e2,e3];rfl)
  clear h
  go_wp2_with fail
  go_ret
  exact ⟨ret_v (by rw [HE.out];rfl),rfl⟩
theorem within_any (l m v:Int) (B:Nat) (w:World) (h:w.cell? ⟨B,0,none⟩=some (.int .i64 v)) :
  Calls Tryz.prog 137 #[.int .i64 l,.int .i64 m,.pointer (some ⟨B,0,none⟩)] w fun e w'=>e=.returned (.bool (decide (l<=v) && decide (v<m)))/\w'=w:=by
 go_enter Tryz.func137,Tryz.ntmps137
 by_cases h0:l<=v
 ·have HE:Hid ((decide (l<=v) && decide (v<m))=decide (v<m)):=Lib.hid (by simp [h0])
  rw [HE.out]
  go_wp2_with fail
  go_ret
  exact ⟨rfl,rfl⟩
 ·have HE:Hid ((decide (l<=v) && decide (v<m))=false):=Lib.hid (by simp [h0])
  rw [HE.out]
  go_wp2_with fail
  go_ret
  exact ⟨rfl,rfl⟩
theorem may_any (n:Nat) (v:Int) (hn:n<13) (w:World) :
    Calls Tryz.prog 97 #[.int .i64 (n:Int),.int .i64 v] w fun e w'=>e=.returned (.bool (mayN n v))/\Below w.heap.size w w':=by
  have hb:=below1 w
  have hc:(w.alloc (.cells #[.int .i64 v] 2)).cell? ⟨w.heap.size,0,none⟩=some (.int .i64 v):=Boxed.cell (Boxed.new w _ _)
  have hin:=fun l m=>within_any l m v w.heap.size _ hc
  have hf:=fun W=>isFault_any v W
  rcases lt13 hn with rfl | rfl | rfl | rfl | rfl | rfl | rfl | rfl | rfl | rfl | rfl | rfl | rfl
  case' inr.inr.inr.inr.inr.inr.inr.inr.inl=>skip
  all_goals
    clear hn
    go_enter Tryz.func97,Tryz.ntmps97
    go_wp2_with fail
    first
      | (refine (hin _ _).mono ?_
         rintro e w' ⟨rfl,rfl⟩
         go_wp2_with fail
         go_ret
         exact ⟨rfl,hb _⟩)
      | (refine (hf _).mono ?_
         rintro e w' ⟨rfl,rfl⟩
         go_wp2_with fail
         go_ret
         exact ⟨rfl,hb _⟩)
      | (go_ret
         exact ⟨rfl,hb _⟩)
end Go.Proofs.YtnfbncgfpmcpnaaGreat.Ent
