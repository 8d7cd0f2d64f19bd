/-
  ReplayNext: its walks, part 13.
-/
import Derived.Deep.RegionLaw
import Derived.Lib.LazyBuf
import Derived.Test.YtnfbncgfpmcpnaaGreatQ12
set_option maxRecDepth 100000
set_option maxHeartbeats 12800000
namespace Go.Proofs.YtnfbncgfpmcpnaaGreat.Mch
open Go.RowKit
structure Wt where
 t:Int
 c:Int
 v:Int
def Wt.val (x:Wt):Value:=.agg #[.int .i64 x.t,.int .i64 x.c,.int .i64 x.v]
def Wt.cellsL (x:Wt):List Value:=[.int .i64 x.t,.int .i64 x.c,.int .i64 x.v]
def Wt.zero:Wt:=⟨0,0,0⟩
def flatW (xs:List Wt):List Value:=xs.flatMap Wt.cellsL
theorem flatW_snoc (xs:List Wt) (x:Wt):flatW (xs ++ [x])=flatW xs ++ x.cellsL:=by simp [flatW]
theorem flatW_len (xs:List Wt):(flatW xs).length=xs.length * 3:=by
 induction xs with
 | nil=>rfl
 | cons x t ih=>simp only [flatW,List.flatMap_cons,List.length_append,List.length_cons] at ih ⊢;rw [ih];simp [Wt.cellsL];omega
theorem flatW_at {xs:List Wt} {j:Nat} {x:Wt} (h:xs[j]?=some x):(flatW xs)[j * 3]?=some (.int .i64 x.t)/\(flatW xs)[j * 3+1]?=some (.int .i64 x.c)/\(flatW xs)[j * 3+2]?=some (.int .i64 x.v):=by
 induction xs generalizing j with
 | nil=>simp at h
 | cons y t ih=>
  cases j with
  | zero=>simp only [List.getElem?_cons_zero,Option.some.injEq] at h;subst h;simp [flatW,Wt.cellsL]
  | succ j=>
   obtain ⟨h0,h1,h2⟩:=ih (j:=j) (by simpa using h)
   simp only [flatW,List.flatMap_cons,Wt.cellsL] at h0 h1 h2 ⊢
   refine ⟨?_,?_,?_⟩
   ·rw [show (j+1) * 3=j * 3+3 by omega,List.getElem?_append_right (by simp)];simpa using h0
   ·rw [show (j+1) * 3+1=j * 3+1+3 by omega,List.getElem?_append_right (by simp)];simpa using h1
   ·rw [show (j+1) * 3+2=j * 3+2+3 by omega,List.getElem?_append_right (by simp)];simpa using h2
def ix (s:Bool):Nat:=if s then 0 else 1
theorem ix_lt (s:Bool):ix s<2:=by cases s <;> decide
def sel {α:Type} (s:Bool) (a b:α):α:=if s then a else b
def toSendK (cl:Bool) (m:Nat) (buf:List Int) (R:List Wt):Nat:=
 if cl=true then 1 else if R ≠ [] then 2 else if buf.length<m then 3 else 6
def toRecvK (cl:Bool) (m:Nat) (buf:List Int) (S:List Wt):Nat:=
 if S ≠ [] then (if m=0 then 2 else 4) else if buf ≠ [] then 3 else if cl=true then 5 else 6
def whatK (cl:Bool) (m:Nat) (buf:List Int) (S R:List Wt) (s:Bool):Nat:=if s then toSendK cl m buf R else toRecvK cl m buf S
structure Gt where
 k:Nat
 p:Wt
 v:Int
 ok:Bool
 u:Int
def Gt.val (g:Gt):Value:=.agg #[.int .u8 (g.k:Int),.int .i64 g.p.t,.int .i64 g.p.c,.int .i64 g.p.v,.int .i64 g.v,.bool g.ok,.int .i64 g.u]
def Gt.zero:Gt:=⟨0,.zero,0,false,0⟩
structure Frm (F:Nat->Prop) (w w':World):Prop where
 os:w'.os=w.os
 tape:w'.tape=w.tape
 output:w'.output=w.output
 size:w.heap.size<=w'.heap.size
 block:∀ k,k<w.heap.size->¬ F k->w'.heap[k]?=w.heap[k]?
def Fw (F:Nat->Prop) (w:World):Nat->Prop:=fun k=>F k \/ w.heap.size<=k
section
variable {F:Nat->Prop} {w w1 w2:World}
theorem Frm.refl (F:Nat->Prop) (w:World):Frm F w w:=⟨rfl,rfl,rfl,Nat.le_refl _,fun _ _ _=>rfl⟩
theorem Frm.next (h:Frm F w w1) (k:Frm (Fw F w) w1 w2):Frm F w w2:=
  ⟨k.os.trans h.os,k.tape.trans h.tape,k.output.trans h.output,Nat.le_trans h.size k.size,
   fun i hi hn=>(k.block i (Nat.lt_of_lt_of_le hi h.size) (fun e=>e.elim hn (fun e=>by omega))).trans (h.block i hi hn)⟩
theorem Frm.mono {G:Nat->Prop} (h:Frm F w w1) (hG:∀ k,F k->G k):Frm G w w1:=⟨h.os,h.tape,h.output,h.size,fun k hk hn=>h.block k hk (fun e=>hn (hG k e))⟩
theorem Frm.of_below (h:Below w.heap.size w w1) (F:Nat->Prop):Frm F w w1:=⟨h.os,h.tape,h.output,h.size,fun k hk _=>h.block k hk⟩
theorem Frm.of_grown {row:Option Nat} (h:w.grownBy w1 row) (hr:∀ k,row=some k->F k):Frm F w w1:=⟨h.os,h.tape,h.output,h.size,fun k hk hn=>h.block k hk (fun e=>hn (hr k e.symm))⟩
theorem Frm.set {p:Addr} (w:World) (v:Value) (hp:F p.block):Frm F w (w.setCell p v):=Frm.of_grown (grownBy_setCell w p v) (fun k e=>by cases e;exact hp)
theorem Frm.drew (h:Frm F w w1):Frm F w w1.drew:=⟨h.os,h.tape,h.output,h.size,h.block⟩
end
theorem below_nx {n:Nat} {w w1 w2:World} (h:Below n w w1) (k:Below w1.heap.size w1 w2) (hn:n<=w.heap.size):Below n w w2:=
 h.trans (k.mono (Nat.le_trans hn h.size))
theorem below1 (w:World) (o:Obj):Below w.heap.size w (w.alloc o):=(Below.refl _ w).alloc (Nat.le_refl _) _
theorem Below.al {n:Nat} {w W:World} (h:Below n w W) (hn:n<=W.heap.size) (o:Obj):Below n w (W.alloc o):=h.alloc hn o
theorem boxed_below {w w1:World} {B:Nat} {t:TypeId} {v:Value} (h:Boxed w B t v) (hb:Below w.heap.size w w1):Boxed w1 B t v:=(hb.block B h.lt).trans h
def WtAt (W:World) (B:Nat) (x:Wt):Prop:=W.heap[B]?=some (.cells #[.int .i64 x.t,.int .i64 x.c,.int .i64 x.v] 145 (0,0))
section
variable {W W':World} {B:Nat} {x:Wt}
theorem WtAt.lt (h:WtAt W B x):B<W.heap.size:=(Array.getElem?_eq_some_iff.1 h).1
theorem WtAt.of_block (h:WtAt W B x) (hb:W'.heap[B]?=W.heap[B]?):WtAt W' B x:=hb.trans h
theorem WtAt.c0 (h:WtAt W B x):W.cell? ⟨B,0,none⟩=some (.int .i64 x.t):=by simp [World.cell?,show W.heap[B]?=_ from h]
theorem WtAt.c1 (h:WtAt W B x):W.cell? ⟨B,1,none⟩=some (.int .i64 x.c):=by simp [World.cell?,show W.heap[B]?=_ from h]
theorem WtAt.c2 (h:WtAt W B x):W.cell? ⟨B,2,none⟩=some (.int .i64 x.v):=by simp [World.cell?,show W.heap[B]?=_ from h]
theorem WtAt.frozen (h:WtAt W B x) (k:Nat):W.frozen? ⟨B,k,none⟩=false:=by simp [World.frozen?,show W.heap[B]?=_ from h]
theorem wtAt_new (W:World) (x:Wt):WtAt (W.alloc (.cells #[.int .i64 x.t,.int .i64 x.c,.int .i64 x.v] 145)) W.heap.size x:=World.alloc_heap_new W _
theorem WtAt.alloc (h:WtAt W B x) (o:Obj):WtAt (W.alloc o) B x:=h.of_block ((World.grownBy_alloc W o none).block B h.lt (by simp))
theorem WtAt.below (h:WtAt W B x) (hb:Below W.heap.size W W'):WtAt W' B x:=h.of_block (hb.block B h.lt)
theorem WtAt.set (h:WtAt W B x) (z:Wt):WtAt (((W.setCell ⟨B,0,none⟩ (.int .i64 z.t)).setCell ⟨B,1,none⟩ (.int .i64 z.c)).setCell ⟨B,2,none⟩ (.int .i64 z.v)) B z:=by
 have h0:=heap_setCell_same (k:=0) (.int .i64 z.t) h
 have h1:=heap_setCell_same (k:=1) (.int .i64 z.c) h0
 have h2:=heap_setCell_same (k:=2) (.int .i64 z.v) h1
 simpa [WtAt] using h2
theorem wt_cell (h:WtAt W B x) (j:Nat) (u:Value) (hj:x.cellsL[j]?=some u):W.cell? (Addr.add ⟨B,0,none⟩ j)=some u:=by
 rw [show Addr.add ⟨B,0,none⟩ j=⟨B,j,none⟩ by by_cases e:j=0 <;> simp [Addr.add,e]]
 simp only [World.cell?,show W.heap[_]?=_ from h]
 simpa [Wt.cellsL] using hj
end
theorem wt_one (x:Wt):∀ u ∈ x.cellsL,u.oneCell'=true:=by simp [Wt.cellsL,Value.oneCell']
theorem flatW_one (xs:List Wt):∀ u ∈ flatW xs,u.oneCell'=true:=fun u h=>by
 obtain ⟨x,_,hx⟩:=List.mem_flatMap.1 h
 exact wt_one x u hx
theorem infoWait:(Tryz.prog.info? 145).map (fun i=>(i.zero,i.size,i.bytes))=some (some (.agg #[.int .i64 0,.int .i64 0,.int .i64 0]),3,24):=by kernel_rfl
theorem owns_slice' {w:World} {base:Nat} {e:TypeId} {size:Nat} {v:Value} {k:Nat} {xs:List Value} (h:w.ownsRow base e size v k xs):∃ a c,v=.slice a k c:=by
 rcases h.2 with ⟨rfl,rfl⟩ | ⟨g,cap,_,rfl,_⟩
 ·exact ⟨_,_,rfl⟩
 ·exact ⟨_,_,rfl⟩
theorem row_at {W:World} {b:Nat} {v:Value} {xs:List Wt} (h:W.ownsRow b 145 3 v xs.length (flatW xs)) {j:Nat} {x:Wt} (hj:xs[j]?=some x) :
  ∃ g cap,v=.slice (some ⟨g,0,none⟩) xs.length cap/\W.cell? ⟨g,j * 3,none⟩=some (.int .i64 x.t)/\W.cell? ⟨g,j * 3+1,none⟩=some (.int .i64 x.c)/\W.cell? ⟨g,j * 3+2,none⟩=some (.int .i64 x.v):=by
 have hlt:j<xs.length:=(List.getElem?_eq_some_iff.1 hj).1
 rcases h.2 with ⟨_,h0⟩ | ⟨g,cap,cur,rfl,_,hb,_,_,hcs,ht⟩
 ·omega
 obtain ⟨h0,h1,h2⟩:=flatW_at hj
 have key:∀ k,k<xs.length * 3->W.cell? ⟨g,k,none⟩=(flatW xs)[k]?:=fun k hk=>by
  simp only [World.cell?,hb]
  rw [<- ht,List.getElem?_take,if_pos hk];simp
 exact ⟨g,cap,rfl,(key _ (by omega)).trans h0,(key _ (by omega)).trans h1,(key _ (by omega)).trans h2⟩
end Go.Proofs.YtnfbncgfpmcpnaaGreat.Mch
namespace Go.Proofs.YtnfbncgfpmcpnaaGreat.Mdl
open Go.RowKit
open Ent (En)
open Mch (Wt Gt whatK putL)
structure Pla where
 s:Nat
 f:Fra
def Pla.zero:Pla:=⟨0,Fra.zero⟩
structure Cha where
 m:Nat
 cl:Bool
 buf:List Int
 S:List Wt
 R:List Wt
def Cha.zero:Cha:=⟨0,false,[],[],[]⟩
structure Mod where
 p:Prg
 most:Nat
 T:List Pla
 C:List Cha
 K:Nat->Int
 who:Int
 e:Int
structure Opn where
 b:Int
 s:Bool
 c:Int
 v:Int
def headW (xs:List Wt):Wt:=xs.head?.getD Mch.Wt.zero
def Cha.what (c:Cha) (s:Bool):Nat:=whatK c.cl c.m c.buf c.S c.R s
def Cha.got (c:Cha) (s:Bool) (v:Int):Gt:=match c.what s,s with
 | 2,true=>⟨2,headW c.R,v,true,0⟩
 | 2,false=>⟨2,headW c.S,(headW c.S).v,true,0⟩
 | 3,true=>⟨3,Mch.Wt.zero,v,true,0⟩
 | 3,false=>⟨3,Mch.Wt.zero,c.buf.head?.getD 0,true,0⟩
 | 4,false=>⟨4,headW c.S,c.buf.head?.getD 0,true,(headW c.S).v⟩
 | 5,false=>⟨5,Mch.Wt.zero,0,false,0⟩
 | _,_=>Mch.Gt.zero
def Cha.gotE (c:Cha) (s:Bool):Int:=match c.what s,s with
 | 2,_=>0
 | 3,_=>0
 | 4,false=>0
 | 5,false=>0
 | _,_=>8
def Cha.serve (c:Cha) (s:Bool) (v:Int):Cha:=match c.what s,s with
 | 2,true=>{ c with R:=c.R.tail }
 | 2,false=>{ c with S:=c.S.tail }
 | 3,true=>{ c with buf:=putL c.m c.buf v }
 | 3,false=>{ c with buf:=c.buf.tail }
 | 4,false=>{ c with buf:=putL c.m c.buf.tail (headW c.S).v,S:=c.S.tail }
 | _,_=>c
def unlike (t:Int) (l:List Wt):List Wt:=l.filter fun w=>!(w.t == t)
def Cha.drop (t:Int) (c:Cha):Cha:={ c with S:=unlike t c.S,R:=unlike t c.R }
def likeB (x w:Wt):Bool:=w.t == x.t && w.c == x.c
def waitL (x:Wt) (l:List Wt):List Wt:=if l.any (likeB x) then l else l ++ [x]
def Cha.wait (s:Bool) (x:Wt) (c:Cha):Cha:=if s then { c with S:=waitL x c.S } else { c with R:=waitL x c.R }
def Cha.close (c:Cha):Cha:={ c with cl:=true }
section
variable (M:Mod)
def Mod.task (t:Int):Option Pla:=if 0<=t then M.T[t.toNat]? else none
def Mod.ch (c:Int):Cha:=M.C[c.toNat]?.getD Cha.zero
def Mod.stand (t:Int):Fra × Int:=match M.task t with
 | none=>(Fra.zero,3)
 | some x=>if x.s=1 then ((runT M.p x.f 65536).1,(runT M.p x.f 65536).2.2) else (Fra.zero,3)
def Mod.does (t:Int):In:=(atF M.p (M.stand t).1).getD In.zero
def Mod.where_ (t:Int):Fra:=if (M.stand t).2=0 then (M.stand t).1 else (M.T[t.toNat]?.getD Pla.zero).f
def site (x:In):Sit:=M.p.sites[x.k.toNat]?.getD ⟨[],false⟩
def opOf (f:Fra) (k:Nat) (c:Cas):Opn:=⟨k,c.s,c.c,if c.s then f.get c.v.toNat else 0⟩
def tries (f:Fra) (x:In):List Opn:=match x.o with
 | 5=>[⟨-1,true,x.c,f.get x.a.toNat⟩]
 | 6=>[⟨-1,false,x.c,0⟩]
 | 8=>(site M x).cs.mapIdx (opOf f)
 | _=>[]
def ready (o:Opn):Bool:=(o.c != -1) && ((M.ch o.c).what o.s != 6)
def faultE (t p e:Int):En:=⟨0,11,0,t,p,0,0,0,0,0,false,e,0⟩
def moveE (t:Int) (o:Opn) (c:Cha):En:=
 let g:=c.got o.s o.v
 if c.gotE o.s ≠ 0 then faultE t (-1) 140
 else if g.k=2 then ⟨0,3,0,t,g.p.t,o.c,o.b,g.p.c,g.v,0,o.s,0,0⟩
 else if g.k=4 then ⟨0,4,0,t,g.p.t,o.c,o.b,g.p.c,g.v,g.u,false,0,0⟩
 else if o.s then ⟨0,1,0,t,0,o.c,o.b,0,g.v,0,false,0,0⟩
 else ⟨0,2,0,t,0,o.c,o.b,0,g.v,0,g.ok,0,0⟩
def bareE (k:Nat) (t:Int):En:=⟨0,k,0,t,0,0,0,0,0,0,false,0,0⟩
def commits (t:Int) (l:List Opn):List En:=(l.filter (ready M)).map fun o=>moveE t o (M.ch o.c)
def movesO (t:Int) (idle:Nat) (l:List Opn):List En:=if commits M t l = [] then [bareE idle t] else commits M t l
def closeE (t:Int) (x:In):En:=
 if x.c = -1 then faultE t (-1) 142 else if (M.ch x.c).cl then faultE t (-1) 141 else ⟨0,5,0,t,0,x.c,0,0,0,0,false,0,0⟩
def spawnE (t:Int) (x:In):En:=
 if M.most<=M.T.length then faultE t (-1) 143 else ⟨0,9,0,t,M.T.length,0,x.k,0,0,0,false,0,0⟩
def mayE (t:Int) (f:Fra) (x:In):List En:=match x.o with
 | 5=>movesO M t 8 (tries M f x)
 | 6=>movesO M t 8 (tries M f x)
 | 8=>movesO M t (if (site M x).d then 7 else 8) (tries M f x)
 | 7=>[closeE M t x]
 | 9=>[spawnE M t x]
 | _=>[bareE 10 t]
def befallE (t:Int) (i:Nat) (c:Cha):List En:=
  if c.cl then
    (if c.R.head?.isSome && ((headW c.R).t == t) then [⟨0,6,0,t,M.K i,i,(headW c.R).c,0,0,0,false,0,0⟩]
     else if !c.R.head?.isSome && c.S.head?.isSome && ((headW c.S).t == t) then [faultE t (M.K i) 140] else [])
  else []
def befalls (t:Int):List En:=(M.C.mapIdx (befallE M t)).flatten
def Mod.moves (t:Int):List En:=match M.task t with
 | none=>[]
 | some x=>if M.e ≠ 0 then [] else if x.s=2 then befalls M t else if (M.stand t).2 ≠ 0 then [] else mayE M t (M.stand t).1 (M.does t)
def Mod.setC (c:Int) (f:Cha->Cha):Mod:={ M with C:=M.C.modify c.toNat f }
def Mod.setT (t:Int) (x:Pla):Mod:={ M with T:=M.T.set t.toNat x }
def Mod.goOn (t k v:Int) (ok:Bool):Mod:=
 { M with T:=M.T.set t.toNat ⟨1,(doneF M.p (M.where_ t) k v ok).1⟩,C:=M.C.map (Cha.drop t) }
def waitAt (t:Int) (N:Mod) (o:Opn):Mod:=if o.c = -1 then N else N.setC o.c (Cha.wait o.s ⟨t,o.b,o.v⟩)
def Mod.block (t:Int):Mod:=((tries M (M.stand t).1 (M.does t)).foldl (waitAt t) M).setT t ⟨2,(M.stand t).1⟩
def Mod.do_ (x:En):Mod:=match x.k with
  | 1=>(M.setC x.c fun c=>c.serve true x.v).goOn x.t x.b 0 false
  | 2=>(M.setC x.c fun c=>c.serve false 0).goOn x.t x.b x.v x.o
  | 3=>if x.o then ((M.setC x.c fun c=>c.serve true x.v).goOn x.t x.b 0 false).goOn x.p x.q x.v true
         else ((M.setC x.c fun c=>c.serve false x.v).goOn x.t x.b x.v true).goOn x.p x.q 0 false
  | 4=>((M.setC x.c fun c=>c.serve false 0).goOn x.t x.b x.v true).goOn x.p x.q 0 false
  | 5=>({ M.setC x.c Cha.close with K:=fun j=>if j=x.c.toNat then x.t else M.K j }:Mod).goOn x.t (-1) 0 false
  | 6=>M.goOn x.t x.b 0 false
  | 7=>M.goOn x.t ((site M (M.does x.t)).cs.length:Int) 0 false
  | 8=>M.block x.t
  | 9=>({ M with T:=M.T ++ [⟨1,Fra.at0 x.b (M.where_ x.t)⟩] }:Mod).goOn x.t (-1) 0 false
  | 10=>M.setT x.t ⟨3,M.where_ x.t⟩
  | _=>{ M with who:=x.t,e:=x.e }
def En.at0 (x:En):En:={ x with a:=0 }
def Mod.applyE (x:En):Int:=
 if M.e ≠ 0 then 170 else if !(Ent.okB x && (decide (1<=x.k) && decide (x.k<=11))) then 2 else if En.at0 x ∈ M.moves x.t then 0 else 171
def Mod.apply (x:En):Mod:=if M.applyE x=0 then M.do_ (En.at0 x) else M
end
end Go.Proofs.YtnfbncgfpmcpnaaGreat.Mdl
namespace Go.Proofs.YtnfbncgfpmcpnaaGreat
open Go.RowKit
theorem owns_keep {w w':World} {base n s:Nat} {e:TypeId} {v:Value} {xs:List Value} (h:w.ownsRow base e s v n xs) (hk:∀ (k:Nat) (cs:Array Value) (z:Nat × Nat),base<=k->w.heap[k]?=some (.cells cs e z)->w'.heap[k]?=w.heap[k]?):w'.ownsRow base e s v n xs:=by
 refine ⟨h.1,?_⟩
 rcases h.2 with h2 | ⟨g,cap,cur,h1,h2,h3,h4⟩
 ·exact .inl h2
 ·exact .inr ⟨g,cap,cur,h1,h2,(hk g cur _ h2 h3).trans h3,h4⟩
theorem owns_fresh {w w':World} {base n s:Nat} {e:TypeId} {v:Value} {xs:List Value} (h:w.ownsRow base e s v n xs) (hb:Below w.heap.size w w'):w'.ownsRow base e s v n xs:=
 owns_keep h fun k _ _ _ hk=>hb.block k (Array.getElem?_eq_some_iff.1 hk).1
theorem owns_base {w:World} {base base' n s:Nat} {e:TypeId} {v:Value} {xs:List Value} (h:w.ownsRow base e s v n xs) (hb:base'<=base):w.ownsRow base' e s v n xs:=by
 refine ⟨h.1,?_⟩
 rcases h.2 with h2 | ⟨g,cap,cur,h1,h2,h3,h4⟩
 ·exact .inl h2
 ·exact .inr ⟨g,cap,cur,h1,by omega,h3,h4⟩
theorem owns_slice {w:World} {base n s:Nat} {e:TypeId} {v:Value} {xs:List Value} (h:w.ownsRow base e s v n xs):∃ a c,v=.slice a n c:=by
 rcases h.2 with ⟨rfl,rfl⟩ | ⟨g,cap,cur,rfl,_⟩
 ·exact ⟨none,0,rfl⟩
 ·exact ⟨_,cap,rfl⟩
theorem int_one (l:List Int):∀ u ∈ I64 l,u.oneCell'=true:=by
 intro u hu;obtain ⟨x,_,rfl⟩:=List.mem_map.1 hu;rfl
theorem ins_one (l:List In):∀ u ∈ l.flatMap In.cellsL,u.oneCell'=true:=by
 intro u hu;obtain ⟨x,_,hu⟩:=List.mem_flatMap.1 hu
 simp only [In.cellsL,List.mem_cons,List.not_mem_nil,or_false] at hu
 rcases hu with rfl | rfl | rfl | rfl | rfl <;> rfl
theorem case_one (l:List Cas):∀ u ∈ l.flatMap Cas.cellsL,u.oneCell'=true:=by
 intro u hu;obtain ⟨x,_,hu⟩:=List.mem_flatMap.1 hu
 simp only [Cas.cellsL,List.mem_cons,List.not_mem_nil,or_false] at hu
 rcases hu with rfl | rfl | rfl | rfl <;> rfl
theorem infoInt:(Tryz.prog.info? 3).map (fun i=>(i.zero,i.size,i.bytes))=some (some (.int .i64 0),1,8):=by kernel_rfl
theorem cloneInt_any {lo hi n:Nat} {v:Value} {xs:List Value} (w:World) (h:Flat lo hi w 1 n v xs) (t:hi<=w.heap.size) (h1:∀ u ∈ xs,u.oneCell'=true) (hn:n<=1000000) :
  Calls Tryz.prog 53 #[v] w fun e w'=>∃ v',e=.returned v'/\w'.ownsRow w.heap.size 3 1 v' n xs/\Below w.heap.size w w':=by
 obtain ⟨hl,a,cap,rfl,hc⟩:=h
 have qT:∀ w:World,(binOp .eql 22 (.slice a n cap) (.slice none 0 0)).run Tryz.prog w=.ok (.bool a.isNone) w:=fun w=>Lib.run_eql_slice_nil w 22 3 a n cap 0 0 Tryz.underlying22
 cases a with
 | none=>
  rcases hc with rfl | ⟨b,off,hc,_⟩
  ·obtain rfl:xs = []:=List.eq_nil_of_length_eq_zero (by simpa using hl)
   go_enter Tryz.func53,Tryz.ntmps53
   go_wp2_with fail
   go_ret
   exact ⟨_,rfl,World.ownsRow_nil _ _ _ _,Below.refl _ _⟩
  ·cases hc
 | some ad=>
  obtain ⟨i0,hi,hz0,hz1,hz2⟩:=info_parts infoInt
  have hb0:Below w.heap.size w (w.alloc (.cells #[] 3)):=(Below.refl _ w).alloc (Nat.le_refl _) _
  have hcs:∀ j u,xs[j]?=some u->(w.alloc (.cells #[] 3)).cell? (ad.add j)=some u:=fun j u hj=>by
   rcases hc with rfl | ⟨b,off,he,_,hb,hc⟩
   ·have:=(List.getElem?_eq_some_iff.1 hj).1;omega
   ·simp only [Option.some.injEq] at he
    subst he
    have:=(hb0.cell (p:=⟨b,off+j,none⟩) (Nat.lt_of_lt_of_le hb t)).trans (hc j u hj)
    rw [show Addr.add ⟨b,off,none⟩ j=⟨b,off+j,none⟩ by simp [Addr.add],this]
  go_enter Tryz.func53,Tryz.ntmps53
  go_wp2_with (at_builtin;refine wpList_append_own _ rfl _ _ 22 rfl w.heap.size 3 i0 (.int .i64 0) 1 8 Tryz.underlying22 hi hz0 hz1 hz2 rfl (by decide) _ 0 [] rfl (World.ownsRow_made w #[] 0 (Nat.le_refl _) (by decide) rfl) ad n cap xs rfl ?c0 ?c1 ?c2 ?c3 ?c4 ?c5 ?_)
  case c0=>omega
  case c1=>exact hcs
  case c2=>exact h1
  case c3=>unfold maxLen;omega
  case c4=>omega
  try (case c5=>first | exact Nat.le_refl _ | omega | (simp;done) | (simp;omega))
  intro v1 w1 hown hgrow hnil
  have hown':w1.ownsRow w.heap.size 3 1 v1 n xs:=by simpa using hown
  have hb1:Below w.heap.size w w1:=hb0.trans ⟨hgrow.os,hgrow.tape,hgrow.output,Nat.le_trans (by simp) hgrow.size,fun k hk=>hgrow.block k (by simp;omega) (fun e=>by have:k=w.heap.size:=Option.some.inj e;omega)⟩
  obtain ⟨a',c',rfl⟩:=owns_slice hown'
  clear hown hgrow hnil hc hcs
  go_wp2_with fail
  go_ret
  exact ⟨_,rfl,hown',hb1⟩
theorem infoIns:(Tryz.prog.info? 95).map (fun i=>(i.zero,i.size,i.bytes))=some (some (.agg #[.int .u8 0,.int .i64 0,.int .i64 0,.int .i64 0,.int .i64 0]),5,40):=by kernel_rfl
theorem cloneIns_any {lo hi n:Nat} {v:Value} {xs:List Value} (w:World) (h:Flat lo hi w 5 n v xs) (t:hi<=w.heap.size) (h1:∀ u ∈ xs,u.oneCell'=true) (hn:n<=1000000) :
  Calls Tryz.prog 55 #[v] w fun e w'=>∃ v',e=.returned v'/\w'.ownsRow w.heap.size 95 5 v' n xs/\Below w.heap.size w w':=by
 obtain ⟨hl,a,cap,rfl,hc⟩:=h
 have qT:∀ w:World,(binOp .eql 96 (.slice a n cap) (.slice none 0 0)).run Tryz.prog w=.ok (.bool a.isNone) w:=fun w=>Lib.run_eql_slice_nil w 96 95 a n cap 0 0 Tryz.underlying96
 cases a with
 | none=>
  rcases hc with rfl | ⟨b,off,hc,_⟩
  ·obtain rfl:xs = []:=List.eq_nil_of_length_eq_zero (by simpa using hl)
   go_enter Tryz.func55,Tryz.ntmps55
   go_wp2_with fail
   go_ret
   exact ⟨_,rfl,World.ownsRow_nil _ _ _ _,Below.refl _ _⟩
  ·cases hc
 | some ad=>
  obtain ⟨i0,hi,hz0,hz1,hz2⟩:=info_parts infoIns
  have hb0:Below w.heap.size w (w.alloc (.cells #[] 95)):=(Below.refl _ w).alloc (Nat.le_refl _) _
  have hcs:∀ j u,xs[j]?=some u->(w.alloc (.cells #[] 95)).cell? (ad.add j)=some u:=fun j u hj=>by
   rcases hc with rfl | ⟨b,off,he,_,hb,hc⟩
   ·have:=(List.getElem?_eq_some_iff.1 hj).1;omega
   ·simp only [Option.some.injEq] at he
    subst he
    have:=(hb0.cell (p:=⟨b,off+j,none⟩) (Nat.lt_of_lt_of_le hb t)).trans (hc j u hj)
    rw [show Addr.add ⟨b,off,none⟩ j=⟨b,off+j,none⟩ by simp [Addr.add],this]
  go_enter Tryz.func55,Tryz.ntmps55
  go_wp2_with (at_builtin;refine wpList_append_own _ rfl _ _ 96 rfl w.heap.size 95 i0 (.agg #[.int .u8 0,.int .i64 0,.int .i64 0,.int .i64 0,.int .i64 0]) 5 40 Tryz.underlying96 hi hz0 hz1 hz2 rfl (by decide) _ 0 [] rfl (World.ownsRow_made w #[] 0 (Nat.le_refl _) (by decide) rfl) ad n cap xs rfl ?c0 ?c1 ?c2 ?c3 ?c4 ?c5 ?_)
  case c0=>omega
  case c1=>exact hcs
  case c2=>exact h1
  case c3=>unfold maxLen;omega
  case c4=>omega
  try (case c5=>first | exact Nat.le_refl _ | omega | (simp;done) | (simp;omega))
  intro v1 w1 hown hgrow hnil
  have hown':w1.ownsRow w.heap.size 95 5 v1 n xs:=by simpa using hown
  have hb1:Below w.heap.size w w1:=hb0.trans ⟨hgrow.os,hgrow.tape,hgrow.output,Nat.le_trans (by simp) hgrow.size,fun k hk=>hgrow.block k (by simp;omega) (fun e=>by have:k=w.heap.size:=Option.some.inj e;omega)⟩
  obtain ⟨a',c',rfl⟩:=owns_slice hown'
  clear hown hgrow hnil hc hcs
  go_wp2_with fail
  go_ret
  exact ⟨_,rfl,hown',hb1⟩
theorem infoCase:(Tryz.prog.info? 169).map (fun i=>(i.zero,i.size,i.bytes))=some (some (.agg #[.bool false,.int .i64 0,.int .i64 0,.int .i64 0]),4,32):=by kernel_rfl
theorem cloneCase_any {lo hi n:Nat} {v:Value} {xs:List Value} (w:World) (h:Flat lo hi w 4 n v xs) (t:hi<=w.heap.size) (h1:∀ u ∈ xs,u.oneCell'=true) (hn:n<=1000000) :
  Calls Tryz.prog 94 #[v] w fun e w'=>∃ v',e=.returned v'/\w'.ownsRow w.heap.size 169 4 v' n xs/\Below w.heap.size w w':=by
 obtain ⟨hl,a,cap,rfl,hc⟩:=h
 have qT:∀ w:World,(binOp .eql 115 (.slice a n cap) (.slice none 0 0)).run Tryz.prog w=.ok (.bool a.isNone) w:=fun w=>Lib.run_eql_slice_nil w 115 169 a n cap 0 0 Tryz.underlying115
 cases a with
 | none=>
  rcases hc with rfl | ⟨b,off,hc,_⟩
  ·obtain rfl:xs = []:=List.eq_nil_of_length_eq_zero (by simpa using hl)
   go_enter Tryz.func94,Tryz.ntmps94
   go_wp2_with fail
   go_ret
   exact ⟨_,rfl,World.ownsRow_nil _ _ _ _,Below.refl _ _⟩
  ·cases hc
 | some ad=>
  obtain ⟨i0,hi,hz0,hz1,hz2⟩:=info_parts infoCase
  have hb0:Below w.heap.size w (w.alloc (.cells #[] 169)):=(Below.refl _ w).alloc (Nat.le_refl _) _
  have hcs:∀ j u,xs[j]?=some u->(w.alloc (.cells #[] 169)).cell? (ad.add j)=some u:=fun j u hj=>by
   rcases hc with rfl | ⟨b,off,he,_,hb,hc⟩
   ·have:=(List.getElem?_eq_some_iff.1 hj).1;omega
   ·simp only [Option.some.injEq] at he
    subst he
    have:=(hb0.cell (p:=⟨b,off+j,none⟩) (Nat.lt_of_lt_of_le hb t)).trans (hc j u hj)
    rw [show Addr.add ⟨b,off,none⟩ j=⟨b,off+j,none⟩ by simp [Addr.add],this]
  go_enter Tryz.func94,Tryz.ntmps94
  go_wp2_with (at_builtin;refine wpList_append_own _ rfl _ _ 115 rfl w.heap.size 169 i0 (.agg #[.bool false,.int .i64 0,.int .i64 0,.int .i64 0]) 4 32 Tryz.underlying115 hi hz0 hz1 hz2 rfl (by decide) _ 0 [] rfl (World.ownsRow_made w #[] 0 (Nat.le_refl _) (by decide) rfl) ad n cap xs rfl ?c0 ?c1 ?c2 ?c3 ?c4 ?c5 ?_)
  case c0=>omega
  case c1=>exact hcs
  case c2=>exact h1
  case c3=>unfold maxLen;omega
  case c4=>omega
  try (case c5=>first | exact Nat.le_refl _ | omega | (simp;done) | (simp;omega))
  intro v1 w1 hown hgrow hnil
  have hown':w1.ownsRow w.heap.size 169 4 v1 n xs:=by simpa using hown
  have hb1:Below w.heap.size w w1:=hb0.trans ⟨hgrow.os,hgrow.tape,hgrow.output,Nat.le_trans (by simp) hgrow.size,fun k hk=>hgrow.block k (by simp;omega) (fun e=>by have:k=w.heap.size:=Option.some.inj e;omega)⟩
  obtain ⟨a',c',rfl⟩:=owns_slice hown'
  clear hown hgrow hnil hc hcs
  go_wp2_with fail
  go_ret
  exact ⟨_,rfl,hown',hb1⟩
theorem infoCode:(Tryz.prog.info? 96).map (fun i=>(i.zero,i.size,i.bytes))=some (some (.slice none 0 0),1,24):=by kernel_rfl
theorem cloneCode_any {lo hi n:Nat} {v:Value} {xs:List Value} (w:World) (h:Flat lo hi w 1 n v xs) (t:hi<=w.heap.size) (h1:∀ u ∈ xs,u.oneCell'=true) (hn:n<=1000000) :
  Calls Tryz.prog 92 #[v] w fun e w'=>∃ v',e=.returned v'/\w'.ownsRow w.heap.size 96 1 v' n xs/\Below w.heap.size w w':=by
 obtain ⟨hl,a,cap,rfl,hc⟩:=h
 have qT:∀ w:World,(binOp .eql 23 (.slice a n cap) (.slice none 0 0)).run Tryz.prog w=.ok (.bool a.isNone) w:=fun w=>Lib.run_eql_slice_nil w 23 96 a n cap 0 0 Tryz.underlying23
 cases a with
 | none=>
  rcases hc with rfl | ⟨b,off,hc,_⟩
  ·obtain rfl:xs = []:=List.eq_nil_of_length_eq_zero (by simpa using hl)
   go_enter Tryz.func92,Tryz.ntmps92
   go_wp2_with fail
   go_ret
   exact ⟨_,rfl,World.ownsRow_nil _ _ _ _,Below.refl _ _⟩
  ·cases hc
 | some ad=>
  obtain ⟨i0,hi,hz0,hz1,hz2⟩:=info_parts infoCode
  have hb0:Below w.heap.size w (w.alloc (.cells #[] 96)):=(Below.refl _ w).alloc (Nat.le_refl _) _
  have hcs:∀ j u,xs[j]?=some u->(w.alloc (.cells #[] 96)).cell? (ad.add j)=some u:=fun j u hj=>by
   rcases hc with rfl | ⟨b,off,he,_,hb,hc⟩
   ·have:=(List.getElem?_eq_some_iff.1 hj).1;omega
   ·simp only [Option.some.injEq] at he
    subst he
    have:=(hb0.cell (p:=⟨b,off+j,none⟩) (Nat.lt_of_lt_of_le hb t)).trans (hc j u hj)
    rw [show Addr.add ⟨b,off,none⟩ j=⟨b,off+j,none⟩ by simp [Addr.add],this]
  go_enter Tryz.func92,Tryz.ntmps92
  go_wp2_with (at_builtin;refine wpList_append_own _ rfl _ _ 23 rfl w.heap.size 96 i0 (.slice none 0 0) 1 24 Tryz.underlying23 hi hz0 hz1 hz2 rfl (by decide) _ 0 [] rfl (World.ownsRow_made w #[] 0 (Nat.le_refl _) (by decide) rfl) ad n cap xs rfl ?c0 ?c1 ?c2 ?c3 ?c4 ?c5 ?_)
  case c0=>omega
  case c1=>exact hcs
  case c2=>exact h1
  case c3=>unfold maxLen;omega
  case c4=>omega
  try (case c5=>first | exact Nat.le_refl _ | omega | (simp;done) | (simp;omega))
  intro v1 w1 hown hgrow hnil
  have hown':w1.ownsRow w.heap.size 96 1 v1 n xs:=by simpa using hown
  have hb1:Below w.heap.size w w1:=hb0.trans ⟨hgrow.os,hgrow.tape,hgrow.output,Nat.le_trans (by simp) hgrow.size,fun k hk=>hgrow.block k (by simp;omega) (fun e=>by have:k=w.heap.size:=Option.some.inj e;omega)⟩
  obtain ⟨a',c',rfl⟩:=owns_slice hown'
  clear hown hgrow hnil hc hcs
  go_wp2_with fail
  go_ret
  exact ⟨_,rfl,hown',hb1⟩
theorem infoSite:(Tryz.prog.info? 117).map (fun i=>(i.zero,i.size,i.bytes))=some (some (.agg #[.slice none 0 0,.bool false]),2,32):=by kernel_rfl
theorem cloneSite_any {lo hi n:Nat} {v:Value} {xs:List Value} (w:World) (h:Flat lo hi w 2 n v xs) (t:hi<=w.heap.size) (h1:∀ u ∈ xs,u.oneCell'=true) (hn:n<=1000000) :
  Calls Tryz.prog 93 #[v] w fun e w'=>∃ v',e=.returned v'/\w'.ownsRow w.heap.size 117 2 v' n xs/\Below w.heap.size w w':=by
 obtain ⟨hl,a,cap,rfl,hc⟩:=h
 have qT:∀ w:World,(binOp .eql 24 (.slice a n cap) (.slice none 0 0)).run Tryz.prog w=.ok (.bool a.isNone) w:=fun w=>Lib.run_eql_slice_nil w 24 117 a n cap 0 0 Tryz.underlying24
 cases a with
 | none=>
  rcases hc with rfl | ⟨b,off,hc,_⟩
  ·obtain rfl:xs = []:=List.eq_nil_of_length_eq_zero (by simpa using hl)
   go_enter Tryz.func93,Tryz.ntmps93
   go_wp2_with fail
   go_ret
   exact ⟨_,rfl,World.ownsRow_nil _ _ _ _,Below.refl _ _⟩
  ·cases hc
 | some ad=>
  obtain ⟨i0,hi,hz0,hz1,hz2⟩:=info_parts infoSite
  have hb0:Below w.heap.size w (w.alloc (.cells #[] 117)):=(Below.refl _ w).alloc (Nat.le_refl _) _
  have hcs:∀ j u,xs[j]?=some u->(w.alloc (.cells #[] 117)).cell? (ad.add j)=some u:=fun j u hj=>by
   rcases hc with rfl | ⟨b,off,he,_,hb,hc⟩
   ·have:=(List.getElem?_eq_some_iff.1 hj).1;omega
   ·simp only [Option.some.injEq] at he
    subst he
    have:=(hb0.cell (p:=⟨b,off+j,none⟩) (Nat.lt_of_lt_of_le hb t)).trans (hc j u hj)
    rw [show Addr.add ⟨b,off,none⟩ j=⟨b,off+j,none⟩ by simp [Addr.add],this]
  go_enter Tryz.func93,Tryz.ntmps93
  go_wp2_with (at_builtin;refine wpList_append_own _ rfl _ _ 24 rfl w.heap.size 117 i0 (.agg #[.slice none 0 0,.bool false]) 2 32 Tryz.underlying24 hi hz0 hz1 hz2 rfl (by decide) _ 0 [] rfl (World.ownsRow_made w #[] 0 (Nat.le_refl _) (by decide) rfl) ad n cap xs rfl ?c0 ?c1 ?c2 ?c3 ?c4 ?c5 ?_)
  case c0=>omega
  case c1=>exact hcs
  case c2=>exact h1
  case c3=>unfold maxLen;omega
  case c4=>omega
  try (case c5=>first | exact Nat.le_refl _ | omega | (simp;done) | (simp;omega))
  intro v1 w1 hown hgrow hnil
  have hown':w1.ownsRow w.heap.size 117 2 v1 n xs:=by simpa using hown
  have hb1:Below w.heap.size w w1:=hb0.trans ⟨hgrow.os,hgrow.tape,hgrow.output,Nat.le_trans (by simp) hgrow.size,fun k hk=>hgrow.block k (by simp;omega) (fun e=>by have:k=w.heap.size:=Option.some.inj e;omega)⟩
  obtain ⟨a',c',rfl⟩:=owns_slice hown'
  clear hown hgrow hnil hc hcs
  go_wp2_with fail
  go_ret
  exact ⟨_,rfl,hown',hb1⟩
end Go.Proofs.YtnfbncgfpmcpnaaGreat
