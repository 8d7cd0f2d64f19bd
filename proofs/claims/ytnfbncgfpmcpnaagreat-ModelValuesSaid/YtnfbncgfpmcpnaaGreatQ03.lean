/-
  ReplayNext: its walks, part 3.
-/
import Derived.Laws.AppendOwn
import Derived.Recover
import Derived.Defers
import Derived.Deep.Light
import Derived.Test.YtnfbncgfpmcpnaaGreatQ02
set_option maxRecDepth 100000
set_option maxHeartbeats 12800000
namespace Go.Proofs.YtnfbncgfpmcpnaaGreat
open Go.RowKit
structure Cas where
 s:Bool
 c:Int
 v:Int
 o:Int
structure Cas.ok (x:Cas):Prop where
 c:I64b x.c
 v:I64b x.v
 o:I64b x.o
structure Sit where
 cs:List Cas
 d:Bool
structure Prg where
 caps:List Int
 codes:List (List In)
 sites:List Sit
def In.cellsL (x:In):List Value:=[.int .u8 (x.o:Int),.int .i64 x.a,.int .i64 x.b,.int .i64 x.c,.int .i64 x.k]
def Cas.cellsL (x:Cas):List Value:=[.bool x.s,.int .i64 x.c,.int .i64 x.v,.int .i64 x.o]
def I64 (xs:List Int):List Value:=xs.map (Value.int .i64)
theorem flat_len {α:Type} (f:α->List Value) (n:Nat) (hf:∀ x,(f x).length=n) (l:List α):(l.flatMap f).length=l.length * n:=by
 induction l with
 | nil=>simp
 | cons x t ih=>simp only [List.flatMap_cons,List.length_append,List.length_cons,hf,ih,Nat.add_mul,Nat.one_mul];omega
theorem flat_get {α:Type} (f:α->List Value) (n:Nat) (hf:∀ x,(f x).length=n) (l:List α) (i j:Nat) (hj:j<n):(l.flatMap f)[i * n+j]?=(l[i]?).bind fun x=>(f x)[j]?:=by
 induction l generalizing i with
 | nil=>simp
 | cons x t ih=>
  rw [List.flatMap_cons]
  cases i with
  | zero=>rw [Nat.zero_mul,Nat.zero_add,List.getElem?_append_left (by rw [hf];exact hj)];rfl
  | succ i=>
   rw [List.getElem?_append_right (by rw [hf,Nat.add_mul];omega),hf,show (i+1) * n+j - n=i * n+j by rw [Nat.add_mul];omega,ih]
   rfl
def Flat (lo hi:Nat) (W:World) (s n:Nat) (v:Value) (xs:List Value):Prop:=
 xs.length=n * s/\∃ a cap,v=.slice a n cap/\(n=0 \/ ∃ b off,a=some ⟨b,off,none⟩/\lo<=b/\b<hi/\∀ j u,xs[j]?=some u->W.cell? ⟨b,off+j,none⟩=some u)
def Stay (lo hi:Nat) (W W':World):Prop:=∀ b,lo<=b->b<hi->W'.heap[b]?=W.heap[b]?
theorem stay_below' {lo hi n:Nat} {W W':World} (h:Below n W W') (hn:hi<=n):Stay lo hi W W':=fun b _ hb=>h.block b (by omega)
theorem cell_stay {W W':World} {b k:Nat} {u:Value} (h:W.cell? ⟨b,k,none⟩=some u) (hb:W'.heap[b]?=W.heap[b]?):W'.cell? ⟨b,k,none⟩=some u:=by
 rw [<- h];simp [World.cell?,hb]
section
variable {lo hi:Nat} {W W':World} {s n:Nat} {v:Value} {xs:List Value}
theorem Flat.stay (h:Flat lo hi W s n v xs) (hs:Stay lo hi W W'):Flat lo hi W' s n v xs:=by
 obtain ⟨h1,a,cap,h2,h3⟩:=h
 refine ⟨h1,a,cap,h2,?_⟩
 rcases h3 with h3 | ⟨b,off,e,hl,hh,hc⟩
 ·exact .inl h3
 ·exact .inr ⟨b,off,e,hl,hh,fun j u hu=>cell_stay (hc j u hu) (hs b hl hh)⟩
theorem Flat.of_owns {e:TypeId} (h:W.ownsRow lo e s v n xs):Flat lo W.heap.size W s n v xs:=by
 refine ⟨h.1,?_⟩
 rcases id h.2 with ⟨rfl,rfl⟩ | ⟨g,cap,cur,rfl,h1,hg,_⟩
 ·exact ⟨none,0,rfl,.inl rfl⟩
 ·refine ⟨_,cap,rfl,.inr ⟨g,0,rfl,h1,(Array.getElem?_eq_some_iff.1 hg).1,fun j u hu=>?_⟩⟩
  have:=h.cells (g:=g) rfl j u hu
  by_cases hj:j=0
  ·subst hj;simpa [Addr.add] using this
  ·simpa [Addr.add,hj] using this
theorem Flat.slice (h:Flat lo hi W s n v xs):∃ a c,v=.slice a n c:=by obtain ⟨_,a,c,h,_⟩:=h;exact ⟨a,c,h⟩
theorem Flat.ad {a:Option Addr} {m c:Nat} (h:Flat lo hi W s n (.slice a m c) xs) (h0:0<n):∃ b off,a=some ⟨b,off,none⟩/\lo<=b/\b<hi/\∀ j u,xs[j]?=some u->W.cell? ⟨b,off+j,none⟩=some u:=by
 obtain ⟨_,a',c',h2,h3⟩:=h
 simp only [Value.slice.injEq] at h2
 obtain ⟨rfl,rfl,rfl⟩:=h2
 rcases h3 with h3 | h3
 ·omega
 ·exact h3
end
def IntsAt (lo hi:Nat) (W:World) (v:Value) (l:List Int):Prop:=Flat lo hi W 1 l.length v (I64 l)/\∀ x ∈ l,I64b x
def CodeAt (lo hi:Nat) (W:World) (v:Value) (l:List In):Prop:=Flat lo hi W 5 l.length v (l.flatMap In.cellsL)/\∀ x ∈ l,x.ok
def CasesAt (lo hi:Nat) (W:World) (v:Value) (l:List Cas):Prop:=Flat lo hi W 4 l.length v (l.flatMap Cas.cellsL)/\∀ x ∈ l,x.ok
def CodesAt (lo hi:Nat) (W:World) (v:Value) (l:List (List In)):Prop:=
 ∃ vs:List Value,Flat lo hi W 1 l.length v vs/\∀ (k:Nat) (u:Value) (x:List In),vs[k]?=some u->l[k]?=some x->CodeAt lo hi W u x
def siteCells (vs:List Value) (l:List Sit):List Value:=(vs.zip l).flatMap fun p=>[p.1,.bool p.2.d]
def SitesAt (lo hi:Nat) (W:World) (v:Value) (l:List Sit):Prop:=
 ∃ vs:List Value,vs.length=l.length/\Flat lo hi W 2 l.length v (siteCells vs l)/\∀ (k:Nat) (u:Value) (x:Sit),vs[k]?=some u->l[k]?=some x->CasesAt lo hi W u x.cs
structure PrgAt (lo hi:Nat) (W:World) (v1 v2 v3:Value) (p:Prg):Prop where
 top:hi<=W.heap.size
 caps:IntsAt lo hi W v1 p.caps
 codes:CodesAt lo hi W v2 p.codes
 sites:SitesAt lo hi W v3 p.sites
section
variable {lo hi:Nat} {W W':World} {v v1 v2 v3:Value} {a:Option Addr} {n c:Nat}
theorem IntsAt.stay {l:List Int} (h:IntsAt lo hi W v l) (hs:Stay lo hi W W'):IntsAt lo hi W' v l:=⟨h.1.stay hs,h.2⟩
theorem CodeAt.stay {l:List In} (h:CodeAt lo hi W v l) (hs:Stay lo hi W W'):CodeAt lo hi W' v l:=⟨h.1.stay hs,h.2⟩
theorem CasesAt.stay {l:List Cas} (h:CasesAt lo hi W v l) (hs:Stay lo hi W W'):CasesAt lo hi W' v l:=⟨h.1.stay hs,h.2⟩
theorem CodesAt.stay {l:List (List In)} (h:CodesAt lo hi W v l) (hs:Stay lo hi W W'):CodesAt lo hi W' v l:=by
 obtain ⟨vs,h1,h2⟩:=h
 exact ⟨vs,h1.stay hs,fun k u c hu hc=>(h2 k u c hu hc).stay hs⟩
theorem SitesAt.stay {l:List Sit} (h:SitesAt lo hi W v l) (hs:Stay lo hi W W'):SitesAt lo hi W' v l:=by
 obtain ⟨vs,h0,h1,h2⟩:=h
 exact ⟨vs,h0,h1.stay hs,fun k u c hu hc=>(h2 k u c hu hc).stay hs⟩
theorem PrgAt.stay {p:Prg} (h:PrgAt lo hi W v1 v2 v3 p) (hs:Stay lo hi W W') (hz:hi<=W'.heap.size):PrgAt lo hi W' v1 v2 v3 p:=⟨hz,h.caps.stay hs,h.codes.stay hs,h.sites.stay hs⟩
theorem PrgAt.later {p:Prg} (h:PrgAt lo hi W v1 v2 v3 p) (hb:Below W.heap.size W W'):PrgAt lo hi W' v1 v2 v3 p:=h.stay (stay_below' hb h.top) (Nat.le_trans h.top hb.size)
theorem IntsAt.slice {l:List Int} (h:IntsAt lo hi W v l):∃ a c,v=.slice a l.length c:=h.1.slice
theorem CodeAt.slice {l:List In} (h:CodeAt lo hi W v l):∃ a c,v=.slice a l.length c:=h.1.slice
theorem CasesAt.slice {l:List Cas} (h:CasesAt lo hi W v l):∃ a c,v=.slice a l.length c:=h.1.slice
theorem CodesAt.slice {l:List (List In)} (h:CodesAt lo hi W v l):∃ a c,v=.slice a l.length c:=by obtain ⟨vs,h,_⟩:=h;exact h.slice
theorem SitesAt.slice {l:List Sit} (h:SitesAt lo hi W v l):∃ a c,v=.slice a l.length c:=by obtain ⟨vs,_,h,_⟩:=h;exact h.slice
theorem IntsAt.at {l:List Int} (h:IntsAt lo hi W (.slice a n c) l) {k:Nat} (hk:k<l.length):∃ b off x,a=some ⟨b,off,none⟩/\lo<=b/\b<hi/\l[k]?=some x/\I64b x/\W.cell? ⟨b,off+k,none⟩=some (.int .i64 x):=by
 obtain ⟨b,off,rfl,hl,hh,hc⟩:=h.1.ad (by omega)
 refine ⟨b,off,l[k],rfl,hl,hh,List.getElem?_eq_getElem hk,h.2 _ (List.getElem_mem hk),hc k _ ?_⟩
 rw [I64,List.getElem?_map,List.getElem?_eq_getElem hk];rfl
theorem CodeAt.at {l:List In} (h:CodeAt lo hi W (.slice a n c) l) {k:Nat} (hk:k<l.length):∃ b off x,a=some ⟨b,off,none⟩/\lo<=b/\b<hi/\l[k]?=some x/\x.ok /\
  W.cell? ⟨b,off+k * 5,none⟩=some (.int .u8 (x.o:Int))/\W.cell? ⟨b,off+k * 5+1,none⟩=some (.int .i64 x.a)/\W.cell? ⟨b,off+k * 5+2,none⟩=some (.int .i64 x.b)/\W.cell? ⟨b,off+k * 5+3,none⟩=some (.int .i64 x.c)/\W.cell? ⟨b,off+k * 5+4,none⟩=some (.int .i64 x.k):=by
 obtain ⟨b,off,rfl,hl,hh,hc⟩:=h.1.ad (by omega)
 have key:∀ j u,j<5->(In.cellsL l[k])[j]?=some u->W.cell? ⟨b,off+k * 5+j,none⟩=some u:=fun j u hj hu=>by
  rw [Nat.add_assoc]
  exact hc _ _ (by rw [flat_get In.cellsL 5 (fun _=>rfl) l k j hj,List.getElem?_eq_getElem hk];exact hu)
 exact ⟨b,off,l[k],rfl,hl,hh,List.getElem?_eq_getElem hk,h.2 _ (List.getElem_mem hk),key 0 _ (by omega) rfl,key 1 _ (by omega) rfl,key 2 _ (by omega) rfl,key 3 _ (by omega) rfl,key 4 _ (by omega) rfl⟩
theorem CasesAt.at {l:List Cas} (h:CasesAt lo hi W (.slice a n c) l) {k:Nat} (hk:k<l.length):∃ b off x,a=some ⟨b,off,none⟩/\lo<=b/\b<hi/\l[k]?=some x/\x.ok /\
  W.cell? ⟨b,off+k * 4,none⟩=some (.bool x.s)/\W.cell? ⟨b,off+k * 4+1,none⟩=some (.int .i64 x.c)/\W.cell? ⟨b,off+k * 4+2,none⟩=some (.int .i64 x.v)/\W.cell? ⟨b,off+k * 4+3,none⟩=some (.int .i64 x.o):=by
 obtain ⟨b,off,rfl,hl,hh,hc⟩:=h.1.ad (by omega)
 have key:∀ j u,j<4->(Cas.cellsL l[k])[j]?=some u->W.cell? ⟨b,off+k * 4+j,none⟩=some u:=fun j u hj hu=>by
  rw [Nat.add_assoc]
  exact hc _ _ (by rw [flat_get Cas.cellsL 4 (fun _=>rfl) l k j hj,List.getElem?_eq_getElem hk];exact hu)
 exact ⟨b,off,l[k],rfl,hl,hh,List.getElem?_eq_getElem hk,h.2 _ (List.getElem_mem hk),key 0 _ (by omega) rfl,key 1 _ (by omega) rfl,key 2 _ (by omega) rfl,key 3 _ (by omega) rfl⟩
theorem CodesAt.at {l:List (List In)} (h:CodesAt lo hi W (.slice a n c) l) {k:Nat} (hk:k<l.length):∃ b off ra rc x,a=some ⟨b,off,none⟩/\lo<=b/\b<hi/\l[k]?=some x /\
  W.cell? ⟨b,off+k,none⟩=some (.slice ra x.length rc)/\CodeAt lo hi W (.slice ra x.length rc) x:=by
 obtain ⟨vs,h1,h2⟩:=h
 have hlen:=h1.1
 obtain ⟨b,off,rfl,hl,hh,hc⟩:=h1.ad (by omega)
 have hkv:k<vs.length:=by omega
 have hx:=h2 k _ _ (List.getElem?_eq_getElem hkv) (List.getElem?_eq_getElem hk)
 obtain ⟨ra,rc,hv⟩:=hx.slice
 exact ⟨b,off,ra,rc,l[k],rfl,hl,hh,List.getElem?_eq_getElem hk,hv ▸ hc k _ (List.getElem?_eq_getElem hkv),hv ▸ hx⟩
theorem SitesAt.at {l:List Sit} (h:SitesAt lo hi W (.slice a n c) l) {k:Nat} (hk:k<l.length):∃ b off ra rc x,a=some ⟨b,off,none⟩/\lo<=b/\b<hi/\l[k]?=some x /\
  W.cell? ⟨b,off+k * 2,none⟩=some (.slice ra x.cs.length rc)/\W.cell? ⟨b,off+k * 2+1,none⟩=some (.bool x.d)/\CasesAt lo hi W (.slice ra x.cs.length rc) x.cs:=by
 obtain ⟨vs,h0,h1,h2⟩:=h
 obtain ⟨b,off,rfl,hl,hh,hc⟩:=h1.ad (by omega)
 have hkv:k<vs.length:=by omega
 have hx:=h2 k _ _ (List.getElem?_eq_getElem hkv) (List.getElem?_eq_getElem hk)
 obtain ⟨ra,rc,hv⟩:=hx.slice
 have key:∀ j u,j<2->[vs[k],Value.bool l[k].d][j]?=some u->W.cell? ⟨b,off+k * 2+j,none⟩=some u:=fun j u hj hu=>by
  rw [Nat.add_assoc]
  refine hc _ _ ?_
  rw [siteCells,flat_get (fun p:Value × Sit=>[p.1,Value.bool p.2.d]) 2 (fun _=>rfl) _ k j hj]
  rw [List.getElem?_eq_getElem (by simp;omega)]
  simpa using hu
 exact ⟨b,off,ra,rc,l[k],rfl,hl,hh,List.getElem?_eq_getElem hk,hv ▸ key 0 _ (by omega) rfl,key 1 _ (by omega) rfl,hv ▸ hx⟩
end
def withinB (v a b:Int):Bool:=decide (a<=v) && decide (v<=b)
def mayCaseB (n:Int) (x:Cas):Bool:=(((x.c == -1 || withinB x.c 0 (n - 1)) && withinB x.v 0 7) && withinB x.o 0 7) && (!x.s || x.o == 0)
abbrev Wr:=Int × Int × Int
def wrongIf (b:Bool) (w:Wr):Option Wr:=if b then none else some w
def firstI {α:Type} (f:Nat->α->Option Wr):Nat->List α->Option Wr
 | _,[]=>none
 | k,x::t=>(f k x).or (firstI f (k+1) t)
theorem firstI_none {α:Type} {f:Nat->α->Option Wr} {l:List α} {n:Nat}:firstI f n l=none ↔ ∀ j x,l[j]?=some x->f (n+j) x=none:=by
 induction l generalizing n with
 | nil=>simp [firstI]
 | cons y t ih=>
  simp only [firstI,Option.or_eq_none_iff,ih]
  constructor
  ·rintro ⟨h1,h2⟩ j x hx
   cases j with
   | zero=>simp at hx;subst hx;exact h1
   | succ j=>rw [List.getElem?_cons_succ] at hx;rw [show n+(j+1)=n+1+j by omega];exact h2 j x hx
  ·intro h
   exact ⟨h 0 y rfl,fun j x hx=>by rw [show n+1+j=n+(j+1) by omega];exact h (j+1) x hx⟩
theorem firstI_some {α:Type} {f:Nat->α->Option Wr} {l:List α} {n k:Nat} {x:α} {w:Wr} (h:∀ j y,j<k->l[j]?=some y->f (n+j) y=none) (hx:l[k]?=some x) (hw:f (n+k) x=some w):firstI f n l=some w:=by
 induction l generalizing n k with
 | nil=>simp at hx
 | cons y t ih=>
  cases k with
  | zero=>simp at hx;subst hx;simp only [firstI];rw [show f n y=some w from hw];rfl
  | succ k=>
   simp only [firstI]
   rw [show f n y=none from h 0 y (by omega) rfl,Option.none_or]
   rw [List.getElem?_cons_succ] at hx
   exact ih (k:=k) (fun j z hj hz=>by rw [show n+1+j=n+(j+1) by omega];exact h (j+1) z (by omega) hz) hx (by rw [show n+1+k=n+(k+1) by omega];exact hw)
def chansW (caps:List Int):Option Wr:=(wrongIf (decide (caps.length<=6)) (0,0,110)).or (firstI (fun k c=>wrongIf (withinB c 0 8) ((k:Int),0,110)) 0 caps)
def siteW (n:Int) (k:Nat) (st:Sit):Option Wr:=(wrongIf (withinB st.cs.length 1 6) ((k:Int),0,111)).or (firstI (fun _ x=>wrongIf (mayCaseB n x) ((k:Int),0,111)) 0 st.cs)
def sitesW (n:Int) (l:List Sit):Option Wr:=(wrongIf (decide (l.length<=12)) (0,0,111)).or (firstI (siteW n) 0 l)
def codeW (a b c:Int) (k:Nat) (l:List In):Option Wr:=(wrongIf (withinB l.length 1 40) ((k:Int),0,112)).or (firstI (fun pc x=>wrongIf (checkB x a b c l.length) ((k:Int),(pc:Int),112)) 0 l)
def codesW (a b:Int) (l:List (List In)):Option Wr:=(wrongIf (withinB l.length 1 8) (0,0,112)).or (firstI (codeW a b l.length) 0 l)
def lastOp (l:List In):Nat:=(l[l.length - 1]?.getD In.zero).o
def fallW (k:Nat) (l:List In):Option Wr:=wrongIf (lastOp l == 10 || lastOp l == 3) ((k:Int),0,113)
def fallsW (l:List (List In)):Option Wr:=firstI fallW 0 l
def checkW (p:Prg):Option Wr:=(chansW p.caps).or ((sitesW p.caps.length p.sites).or ((codesW p.caps.length p.sites.length p.codes).or (fallsW p.codes)))
def checkT (p:Prg):Wr:=(checkW p).getD (0,0,0)
def endW:Option Wr->Ending
 | none=>.returned (.tuple #[])
 | some w=>.panicked [{ v:=.iface 122 (.agg #[.int .i64 w.1,.int .i64 w.2.1,.int .i64 w.2.2]),recovered:=false }]
open Go.RowKit
theorem within_any (v a b:Int) (w:World) :
  Calls Tryz.prog 89 #[.int .i64 v,.int .i64 a,.int .i64 b] w fun e w'=>e=.returned (.bool (withinB v a b))/\w'=w:=by
 go_enter Tryz.func89,Tryz.ntmps89
 by_cases h1:a<=v
 ·by_cases h2:v<=b
  ·have HE:Hid (withinB v a b=true):=Lib.hid (by simp [withinB,h1,h2])
   go_wp2_with fail
   go_ret
   exact ⟨ret_v (by rw [HE.out];rfl),rfl⟩
  ·have HE:Hid (withinB v a b=false):=Lib.hid (by simp [withinB,h1,h2])
   go_wp2_with fail
   go_ret
   exact ⟨ret_v (by rw [HE.out];rfl),rfl⟩
 ·have HE:Hid (withinB v a b=false):=Lib.hid (by simp [withinB,h1])
  go_wp2_with fail
  go_ret
  exact ⟨ret_v (by rw [HE.out];rfl),rfl⟩
theorem register_any (v:Int) (w:World) :
  Calls Tryz.prog 129 #[.int .i64 v] w fun e w'=>e=.returned (.bool (withinB v 0 7))/\w'=w:=by
 go_enter Tryz.func129,Tryz.ntmps129
 go_wp2_with (go_at_call 89;refine (within_any _ _ _ _).mono ?_;rintro e w' ⟨rfl,rfl⟩)
 go_ret
 exact ⟨rfl,rfl⟩
theorem need_any (b:Bool) (x y z:Int) (w:World) :
  Calls Tryz.prog 88 #[.bool b,.agg #[.int .i64 x,.int .i64 y,.int .i64 z]] w fun e w'=>e=endW (wrongIf b (x,y,z))/\Below w.heap.size w w':=by
 have hb0:Below w.heap.size w (w.alloc (.cells #[.int .i64 x,.int .i64 y,.int .i64 z] 122)):=(Below.refl _ w).alloc (Nat.le_refl _) _
 go_enter Tryz.func88,Tryz.ntmps88
 cases b with
 | true=>
  go_wp2_with fail
  go_end0
  exact ⟨rfl,hb0⟩
 | false=>
  go_wp2_with fail
  exact ⟨rfl,rfl,hb0⟩
theorem mayCase_any (v1 v2 v3:Value) (a:Option Addr) (n c:Nat) (hv:v1=.slice a n c) (hn:n<=1000000) (x:Cas) (w:World) :
  Calls Tryz.prog 90 #[.agg #[v1,v2,v3],.agg #[.bool x.s,.int .i64 x.c,.int .i64 x.v,.int .i64 x.o]] w fun e w'=>e=.returned (.bool (mayCaseB n x))/\Below w.heap.size w w':=by
 subst hv
 obtain ⟨s,k,v,o⟩:=x
 have hw:IntKind.i64.wrap ((n:Int) - 1)=(n:Int) - 1:=by rw [IntKind.wrap_i64];omega
 have HE:Hid (mayCaseB n ⟨s,k,v,o⟩=((((k == -1 || withinB k 0 ((n:Int) - 1)) && withinB v 0 7) && withinB o 0 7) && (!s || o == 0))):=Lib.hid rfl
 simp only
 generalize mayCaseB n ⟨s,k,v,o⟩=r at HE
 have h1:=fun w=>within_any k 0 ((n:Int) - 1) w
 have h2:=fun w=>register_any v w
 have h3:=fun w=>register_any o w
 generalize withinB k 0 ((n:Int) - 1)=p1 at h1 HE
 generalize withinB v 0 7=p2 at h2 HE
 generalize withinB o 0 7=p3 at h3 HE
 have hb0:Below w.heap.size w ((w.alloc (.cells #[.slice a n c,v2,v3] 125)).alloc (.cells #[.bool s,.int .i64 k,.int .i64 v,.int .i64 o] 169)):=((Below.refl _ w).alloc (Nat.le_refl _) _).alloc (by simp) _
 go_enter Tryz.func90,Tryz.ntmps90
 by_cases hk:k = -1
 ·subst hk
  have ek:((-1:Int) == -1)=true:=rfl
  cases p2
  ·go_wp2_with (go_at_call 129;refine (h2 _).mono ?_;rintro e w' ⟨rfl,rfl⟩)
   go_ret
   exact ⟨ret_v (by rw [HE.out];simp),hb0⟩
  cases p3
  ·go_wp2_with (go_at_call 129;(first | refine (h2 _).mono ?_ | refine (h3 _).mono ?_);rintro e w' ⟨rfl,rfl⟩)
   go_ret
   exact ⟨ret_v (by rw [HE.out];simp),hb0⟩
  cases s
  ·go_wp2_with (go_at_call 129;(first | refine (h2 _).mono ?_ | refine (h3 _).mono ?_);rintro e w' ⟨rfl,rfl⟩)
   go_ret
   exact ⟨ret_v (by rw [HE.out];simp),hb0⟩
  ·go_wp2_with (go_at_call 129;(first | refine (h2 _).mono ?_ | refine (h3 _).mono ?_);rintro e w' ⟨rfl,rfl⟩)
   go_ret
   exact ⟨ret_v (by rw [HE.out];simp),hb0⟩
 ·have ek:(k == -1)=false:=by simpa using hk
  cases p1
  ·go_wp2_with (go_at_call 89;refine (h1 _).mono ?_;rintro e w' ⟨rfl,rfl⟩)
   go_ret
   exact ⟨ret_v (by rw [HE.out,ek];simp),hb0⟩
  cases p2
  ·go_wp2_with (first | (go_at_call 89;refine (h1 _).mono ?_;rintro e w' ⟨rfl,rfl⟩) | (go_at_call 129;refine (h2 _).mono ?_;rintro e w' ⟨rfl,rfl⟩))
   go_ret
   exact ⟨ret_v (by rw [HE.out,ek];simp),hb0⟩
  cases p3
  ·go_wp2_with (first | (go_at_call 89;refine (h1 _).mono ?_;rintro e w' ⟨rfl,rfl⟩) | (go_at_call 129;(first | refine (h2 _).mono ?_ | refine (h3 _).mono ?_);rintro e w' ⟨rfl,rfl⟩))
   go_ret
   exact ⟨ret_v (by rw [HE.out,ek];simp),hb0⟩
  cases s
  ·go_wp2_with (first | (go_at_call 89;refine (h1 _).mono ?_;rintro e w' ⟨rfl,rfl⟩) | (go_at_call 129;(first | refine (h2 _).mono ?_ | refine (h3 _).mono ?_);rintro e w' ⟨rfl,rfl⟩))
   go_ret
   exact ⟨ret_v (by rw [HE.out,ek];simp),hb0⟩
  ·go_wp2_with (first | (go_at_call 89;refine (h1 _).mono ?_;rintro e w' ⟨rfl,rfl⟩) | (go_at_call 129;(first | refine (h2 _).mono ?_ | refine (h3 _).mono ?_);rintro e w' ⟨rfl,rfl⟩))
   go_ret
   exact ⟨ret_v (by rw [HE.out,ek];simp),hb0⟩
open Go.RowKit
def Blk (W:World) (B:Nat) (t:TypeId) (cs:Array Value):Prop:=W.heap[B]?=some (.cells cs t (0,0))
theorem Blk.lt {W:World} {B:Nat} {t:TypeId} {cs:Array Value} (h:Blk W B t cs):B<W.heap.size:=(Array.getElem?_eq_some_iff.1 h).1
theorem Blk.cell {W:World} {B:Nat} {t:TypeId} {cs:Array Value} (h:Blk W B t cs) {k:Nat} {v:Value} (hv:cs[k]?=some v):W.cell? ⟨B,k,none⟩=some v:=by
 simp [World.cell?,show W.heap[B]?=_ from h,hv]
theorem Blk.later {W W':World} {B n:Nat} {t:TypeId} {cs:Array Value} (h:Blk W B t cs) (hb:Below n W W') (hn:B<n):Blk W' B t cs:=(hb.block B hn).trans h
theorem blk_new (W:World) (t:TypeId) (cs:Array Value):Blk (W.alloc (.cells cs t)) W.heap.size t cs:=World.alloc_heap_new W _
theorem need_ok (x y z:Int) (w:World) :
  Calls Tryz.prog 88 #[.bool true,.agg #[.int .i64 x,.int .i64 y,.int .i64 z]] w fun e w'=>e=.returned (.tuple #[])/\Below w.heap.size w w':=need_any true x y z w
theorem need_no (x y z:Int) (w:World) :
  Calls Tryz.prog 88 #[.bool false,.agg #[.int .i64 x,.int .i64 y,.int .i64 z]] w fun e w'=>e=.panicked [{ v:=.iface 122 (.agg #[.int .i64 x,.int .i64 y,.int .i64 z]),recovered:=false }]/\Below w.heap.size w w':=need_any false x y z w
theorem channels_any {lo hi:Nat} {v1 v2 v3:Value} {p:Prg} (w:World) (h:PrgAt lo hi w v1 v2 v3 p) (hn:p.caps.length<=1000000) :
  Calls Tryz.prog 47 #[.agg #[v1,v2,v3]] w fun e w'=>e=endW (chansW p.caps)/\Below w.heap.size w w':=by
 obtain ⟨a,c,rfl⟩:=h.caps.slice
 have hb0:Below w.heap.size w (w.alloc (.cells #[.slice a p.caps.length c,v2,v3] 125)):=(Below.refl _ w).alloc (Nat.le_refl _) _
 go_enter Tryz.func47,Tryz.ntmps47
 by_cases h6:p.caps.length<=6
 ·have h6':(p.caps.length:Int)<=6:=by omega
  have HE:Hid (chansW p.caps=firstI (fun k c=>wrongIf (withinB c 0 8) ((k:Int),0,110)) 0 p.caps):=Lib.hid (by simp [chansW,wrongIf,h6])
  go_wp2_with fail
  refine (need_ok _ _ _ _).mono ?_
  rintro e w1 ⟨rfl,hb1⟩
  have hB1:=below_next hb0 hb1 (Nat.le_refl _)
  have hk0:=(blk_new w 125 #[.slice a p.caps.length c,v2,v3]).later hb1 (by simp)
  have k0:w1.cell? ⟨w.heap.size,0,none⟩=some (.slice a p.caps.length c):=hk0.cell rfl
  clear hb0 hb1 hk0 h6'
  go_wp2_with fail
  go_loopw [15] (fun iv wr=>∃ k:Nat,k<=p.caps.length/\iv=.int .i64 (k:Int)/\Below w.heap.size w wr/\Hid (∀ j y,j<k->p.caps[j]?=some y->wrongIf (withinB y 0 8) (((0+j:Nat):Int),0,110)=none)) (fun iv _=>p.caps.length - (intOf iv).toNat)
  case atStart=>exact ⟨0,Nat.zero_le _,rfl,hB1,Lib.hid (fun j y hj=>by omega)⟩
  case round=>
   clear hB1 k0
   obtain ⟨k,hk,rfl,hB,HN⟩:=hrel
   by_cases hlt:k<p.caps.length
   ·have hlt':(k:Int)<(p.caps.length:Int):=by omega
    have k0:(0:Int)<=(k:Int):=by omega
    have hw1:IntKind.i64.wrap ((k:Int)+1)=(k:Int)+1:=by rw [IntKind.wrap_i64];omega
    obtain ⟨b,off,x,rfl,hl,hh,hx,hx64,hc⟩:=(h.later hB).caps.at hlt
    have hwi:=fun w=>within_any x 0 8 w
    cases hv:withinB x 0 8 with
    | true=>
     rw [hv] at hwi
     have HX:=Lib.hid (And.intro hx hv)
     clear hx hv
     go_wp2_with (first | (go_at_call 89;refine (hwi _).mono ?_;rintro e w' ⟨rfl,rfl⟩) | (go_at_call 88;refine (need_ok _ _ _ _).mono ?_;rintro e w2 ⟨rfl,hb2⟩))
     go_round
     case rel=>
      refine ⟨k+1,by omega,by go_num,below_next hB hb2 (Nat.le_refl _),Lib.hid (fun j y hj hy=>?_)⟩
      by_cases e:j=k
      ·subst e
       rw [HX.out.1] at hy
       cases hy
       rw [HX.out.2];rfl
      ·exact HN.out j y (by omega) hy
     case measure=>simp [intOf];omega
    | false=>
     rw [hv] at hwi
     have HX:Hid (chansW p.caps=some ((k:Int),0,110)):=Lib.hid (by
      rw [HE.out]
      refine firstI_some (k:=k) HN.out hx ?_
      simp only [hv,Nat.zero_add];rfl)
     clear hx hv
     go_wp2_with (first | (go_at_call 89;refine (hwi _).mono ?_;rintro e w' ⟨rfl,rfl⟩) | (go_at_call 88;refine (need_no _ _ _ _).mono ?_;rintro e w2 ⟨rfl,hb2⟩))
     exact ⟨rfl,by rw [HX.out];rfl,below_next hB hb2 (Nat.le_refl _)⟩
   ·have hlt' : ¬ (k:Int)<(p.caps.length:Int):=by omega
    have HX:Hid (chansW p.caps=none):=Lib.hid (by
     rw [HE.out,firstI_none]
     intro j x hx
     exact HN.out j x (by have:=(List.getElem?_eq_some_iff.1 hx).1;omega) hx)
    go_wp2_with fail
    go_end0
    exact ⟨by rw [HX.out];rfl,hB⟩
 ·have h6' : ¬ (p.caps.length:Int)<=6:=by omega
  have HE:Hid (chansW p.caps=some (0,0,110)):=Lib.hid (by simp [chansW,wrongIf,h6])
  go_wp2_with (go_at_call 88;refine (need_no _ _ _ _).mono ?_;rintro e w1 ⟨rfl,hb1⟩)
  exact ⟨rfl,by rw [HE.out];rfl,below_next hb0 hb1 (Nat.le_refl _)⟩
theorem insCheck_any (x:In) (hx:x.ok) (a b c d:Int) (w:World) :
  Calls Tryz.prog 91 #[.agg #[.int .u8 (x.o:Int),.int .i64 x.a,.int .i64 x.b,.int .i64 x.c,.int .i64 x.k],.int .i64 a,.int .i64 b,.int .i64 c,.int .i64 d] w fun e w'=>e=.returned (.int .i64 (checkE x a b c d))/\Below w.heap.size w w':=check_any x hx a b c d w
theorem falls_any {lo hi:Nat} {v1 v2 v3:Value} {p:Prg} (w:World) (h:PrgAt lo hi w v1 v2 v3 p) (hn:p.codes.length<=1000000) (hne:∀ x ∈ p.codes,0<x.length/\x.length<=1000000) :
  Calls Tryz.prog 50 #[.agg #[v1,v2,v3]] w fun e w'=>e=endW (fallsW p.codes)/\Below w.heap.size w w':=by
 obtain ⟨a,c,rfl⟩:=h.codes.slice
 have hb0:Below w.heap.size w (w.alloc (.cells #[v1,.slice a p.codes.length c,v3] 125)):=(Below.refl _ w).alloc (Nat.le_refl _) _
 go_enter Tryz.func50,Tryz.ntmps50
 go_wp2_with fail
 go_loopw [9] (fun iv wr=>∃ k:Nat,k<=p.codes.length/\iv=.int .i64 (k:Int)/\Below w.heap.size w wr/\Hid (∀ j y,j<k->p.codes[j]?=some y->fallW (0+j) y=none)) (fun iv _=>p.codes.length - (intOf iv).toNat)
 case atStart=>exact ⟨0,Nat.zero_le _,rfl,hb0,Lib.hid (fun j y hj=>by omega)⟩
 case round=>
  clear hb0
  obtain ⟨k,hk,rfl,hB,HN⟩:=hrel
  by_cases hlt:k<p.codes.length
  ·have hlt':(k:Int)<(p.codes.length:Int):=by omega
   have k0:(0:Int)<=(k:Int):=by omega
   have hw1:IntKind.i64.wrap ((k:Int)+1)=(k:Int)+1:=by rw [IntKind.wrap_i64];omega
   obtain ⟨b,off,ra,rc,x,rfl,-, -, hx,hc,hr⟩:=(h.later hB).codes.at hlt
   obtain ⟨hx0,hx1⟩:=hne x (List.mem_of_getElem? hx)
   obtain ⟨m,hm⟩:∃ m,x.length=m+1:=⟨x.length - 1,by omega⟩
   obtain ⟨b2,off2,y,rfl,-, -, hy,-, c0,-, -, -, -⟩:=hr.at (k:=m) (by omega)
   rw [hm] at hc
   have HL:Hid (fallW k x=wrongIf (y.o == 10 || y.o == 3) ((k:Int),0,113)):=Lib.hid (by rw [fallW,lastOp,show x.length - 1=m by omega,hy];rfl)
   have hwm:IntKind.i64.wrap (m:Int)=(m:Int):=by rw [IntKind.wrap_i64];omega
   have m0:(0:Int)<=(m:Int):=by omega
   have m1:(m:Int)<(m:Int)+1:=by omega
   have HX:=Lib.hid hx
   clear hx hy hr hx0
   obtain ⟨o,ho⟩:∃ o,o=y.o:=⟨_,rfl⟩
   rw [<- ho] at HL c0
   clear ho
   by_cases h10:o=10
   ·subst h10
    go_wp2_with (go_at_call 88;refine (need_ok _ _ _ _).mono ?_;rintro e w2 ⟨rfl,hb2⟩)
    go_round
    case rel=>
     refine ⟨k+1,by omega,by go_num,below_next hB hb2 (Nat.le_refl _),Lib.hid (fun j z hj hz=>?_)⟩
     by_cases e:j=k
     ·subst e
      rw [HX.out] at hz
      cases hz
      rw [Nat.zero_add,HL.out];rfl
     ·exact HN.out j z (by omega) hz
    case measure=>simp [intOf];omega
   ·have e10:((o:Int) == 10)=false:=by rw [beq_eq_false_iff_ne];omega
    by_cases h3:o=3
    ·subst h3
     go_wp2_with (go_at_call 88;refine (need_ok _ _ _ _).mono ?_;rintro e w2 ⟨rfl,hb2⟩)
     go_round
     case rel=>
      refine ⟨k+1,by omega,by go_num,below_next hB hb2 (Nat.le_refl _),Lib.hid (fun j z hj hz=>?_)⟩
      by_cases e:j=k
      ·subst e
       rw [HX.out] at hz
       cases hz
       rw [Nat.zero_add,HL.out];rfl
      ·exact HN.out j z (by omega) hz
     case measure=>simp [intOf];omega
    ·have e3:((o:Int) == 3)=false:=by rw [beq_eq_false_iff_ne];omega
     have HY:Hid (fallsW p.codes=some ((k:Int),0,113)):=Lib.hid (by
      refine firstI_some (k:=k) HN.out HX.out ?_
      rw [Nat.zero_add,HL.out]
      simp [wrongIf,h10,h3])
     go_wp2_with (go_at_call 88;refine (need_no _ _ _ _).mono ?_;rintro e w2 ⟨rfl,hb2⟩)
     exact ⟨rfl,by rw [HY.out];rfl,below_next hB hb2 (Nat.le_refl _)⟩
  ·have hlt' : ¬ (k:Int)<(p.codes.length:Int):=by omega
   have HX:Hid (fallsW p.codes=none):=Lib.hid (by
    rw [fallsW,firstI_none]
    intro j x hx
    exact HN.out j x (by have:=(List.getElem?_eq_some_iff.1 hx).1;omega) hx)
   go_wp2_with fail
   go_end0
   exact ⟨by rw [HX.out];rfl,hB⟩
theorem codes_any {lo hi:Nat} {v1 v2 v3:Value} {p:Prg} (w:World) (h:PrgAt lo hi w v1 v2 v3 p) (hn:p.codes.length<=1000000) (hne:∀ x ∈ p.codes,x.length<=1000000) :
  Calls Tryz.prog 49 #[.agg #[v1,v2,v3]] w fun e w'=>e=endW (codesW p.caps.length p.sites.length p.codes)/\Below w.heap.size w w':=by
 obtain ⟨a1,n1,rfl⟩:=h.caps.slice
 obtain ⟨a,c,rfl⟩:=h.codes.slice
 obtain ⟨a3,n3,rfl⟩:=h.sites.slice
 have hb0:Below w.heap.size w (w.alloc (.cells #[.slice a1 p.caps.length n1,.slice a p.codes.length c,.slice a3 p.sites.length n3] 125)):=(Below.refl _ w).alloc (Nat.le_refl _) _
 have hwi:=fun w=>within_any (p.codes.length:Int) 1 8 w
 go_enter Tryz.func49,Tryz.ntmps49
 cases hv:withinB (p.codes.length:Int) 1 8 with
 | false=>
  rw [hv] at hwi
  have HE:Hid (codesW p.caps.length p.sites.length p.codes=some (0,0,112)):=Lib.hid (by simp [codesW,wrongIf,hv])
  clear hv
  go_wp2_with (first | (go_at_call 89;refine (hwi _).mono ?_;rintro e w' ⟨rfl,rfl⟩) | (go_at_call 88;refine (need_no _ _ _ _).mono ?_;rintro e w1 ⟨rfl,hb1⟩))
  exact ⟨rfl,by rw [HE.out];rfl,below_next hb0 hb1 (Nat.le_refl _)⟩
 | true=>
  rw [hv] at hwi
  have HE:Hid (codesW p.caps.length p.sites.length p.codes=firstI (codeW p.caps.length p.sites.length p.codes.length) 0 p.codes):=Lib.hid (by simp [codesW,wrongIf,hv])
  clear hv
  go_wp2_with (go_at_call 89;refine (hwi _).mono ?_;rintro e w' ⟨rfl,rfl⟩)
  refine (need_ok _ _ _ _).mono ?_
  rintro e w1 ⟨rfl,hb1⟩
  have hB1:=below_next hb0 hb1 (Nat.le_refl _)
  have hk1:=(blk_new w 125 #[.slice a1 p.caps.length n1,.slice a p.codes.length c,.slice a3 p.sites.length n3]).later hb1 (by simp)
  have k1:w1.cell? ⟨w.heap.size,1,none⟩=some (.slice a p.codes.length c):=hk1.cell rfl
  clear hb0 hb1 hwi
  go_wp2_with fail
  clear k1
  go_loopw [18] (fun iv wr=>∃ k:Nat,k<=p.codes.length/\iv=.int .i64 (k:Int)/\Below w.heap.size w wr/\Blk wr w.heap.size 125 #[.slice a1 p.caps.length n1,.slice a p.codes.length c,.slice a3 p.sites.length n3] /\
   Hid (∀ j y,j<k->p.codes[j]?=some y->codeW p.caps.length p.sites.length p.codes.length (0+j) y=none)) (fun iv _=>p.codes.length - (intOf iv).toNat)
  case atStart=>exact ⟨0,Nat.zero_le _,rfl,hB1,hk1,Lib.hid (fun j y hj=>by omega)⟩
  case round=>
   clear hB1 hk1
   obtain ⟨k,hk,rfl,hB,hK,HN⟩:=hrel
   by_cases hlt:k<p.codes.length
   ·have hlt':(k:Int)<(p.codes.length:Int):=by omega
    have k0:(0:Int)<=(k:Int):=by omega
    have hw1:IntKind.i64.wrap ((k:Int)+1)=(k:Int)+1:=by rw [IntKind.wrap_i64];omega
    obtain ⟨b,off,ra,rc,x,rfl,-, hbh,hx,hcw,hr⟩:=h.codes.at hlt
    have hc:=cell_stay hcw (hB.block b (Nat.lt_of_lt_of_le hbh h.top))
    clear hcw
    have hxl:=hne x (List.mem_of_getElem? hx)
    have hwx:=fun w=>within_any (x.length:Int) 1 40 w
    cases hv:withinB (x.length:Int) 1 40 with
    | false=>
     rw [hv] at hwx
     have HX:Hid (codesW p.caps.length p.sites.length p.codes=some ((k:Int),0,112)):=Lib.hid (by
      rw [HE.out]
      refine firstI_some (k:=k) HN.out hx ?_
      simp [codeW,wrongIf,hv])
     clear hx hv
     go_wp2_with (first | (go_at_call 89;refine (hwx _).mono ?_;rintro e w' ⟨rfl,rfl⟩) | (go_at_call 88;refine (need_no _ _ _ _).mono ?_;rintro e w2 ⟨rfl,hb2⟩))
     exact ⟨rfl,by rw [HX.out];rfl,below_next hB hb2 (Nat.le_refl _)⟩
    | true=>
     rw [hv] at hwx
     have HX:=Lib.hid hx
     have HV:Hid (codeW p.caps.length p.sites.length p.codes.length k x=firstI (fun pc y=>wrongIf (checkB y p.caps.length p.sites.length p.codes.length x.length) ((k:Int),(pc:Int),112)) 0 x):=Lib.hid (by simp [codeW,wrongIf,hv])
     clear hx hv
     go_wp2_with (first | (go_at_call 89;refine (hwx _).mono ?_;rintro e w' ⟨rfl,rfl⟩) | (go_at_call 88;refine (need_ok _ _ _ _).mono ?_;rintro e w2 ⟨rfl,hb2⟩))
     have hB2:=below_next hB hb2 (Nat.le_refl _)
     have hK2:=hK.later hb2 hK.lt
     clear hb2 hc hwx hB hK
     go_loopw [31] (fun iv wr=>∃ m:Nat,m<=x.length/\iv=.int .i64 (m:Int)/\Below w.heap.size w wr/\Blk wr w.heap.size 125 #[.slice a1 p.caps.length n1,.slice (some ⟨b,off,none⟩) p.codes.length c,.slice a3 p.sites.length n3] /\
      Hid (∀ j y,j<m->x[j]?=some y->wrongIf (checkB y p.caps.length p.sites.length p.codes.length x.length) ((k:Int),((0+j:Nat):Int),112)=none)) (fun iv _=>x.length - (intOf iv).toNat)
     case atStart=>exact ⟨0,Nat.zero_le _,rfl,hB2,hK2,Lib.hid (fun j y hj=>by omega)⟩
     case round=>
      clear hB2 hK2
      obtain ⟨m,hm,rfl,hB,hK,HM⟩:=hrel
      by_cases hltm:m<x.length
      ·have hltm':(m:Int)<(x.length:Int):=by omega
       have m0:(0:Int)<=(m:Int):=by omega
       have hwm:IntKind.i64.wrap ((m:Int)+1)=(m:Int)+1:=by rw [IntKind.wrap_i64];omega
       obtain ⟨b2,off2,y,rfl,-, -, hy,hyo,c0,c1,c2,c3,c4⟩:=(hr.stay (stay_below' hB h.top)).at hltm
       have HY:=Lib.hid hy
       have k0:wr.cell? ⟨w.heap.size,0,none⟩=some (.slice a1 p.caps.length n1):=hK.cell rfl
       have k1:wr.cell? ⟨w.heap.size,1,none⟩=some (.slice (some ⟨b,off,none⟩) p.codes.length c):=hK.cell rfl
       have k2:wr.cell? ⟨w.heap.size,2,none⟩=some (.slice a3 p.sites.length n3):=hK.cell rfl
       have hlt3:=hK.lt
       clear hy hr
       cases hcb:checkB y p.caps.length p.sites.length p.codes.length x.length with
       | true=>
        have hchk:=fun w=>insCheck_any y hyo p.caps.length p.sites.length p.codes.length x.length w
        rw [show checkE y p.caps.length p.sites.length p.codes.length x.length=0 by unfold checkE;rw [hcb];rfl] at hchk
        have HC:=Lib.hid hcb
        clear hcb
        go_wp2_with fail
        refine (hchk _).mono ?_
        rintro e w3 ⟨rfl,hb3⟩
        have hbb:Below wr.heap.size wr w3:=((Below.refl _ wr).alloc (Nat.le_refl _) _).trans (hb3.mono (by simp))
        have hB3:=below_next hB hbb (Nat.le_refl _)
        have hK3:=hK.later hbb hlt3
        clear hb3 hbb hchk k0 k1 k2 c0 c1 c2 c3 c4 hB hK
        go_wp2_with (go_at_call 88;refine (need_ok _ _ _ _).mono ?_;rintro e w4 ⟨rfl,hb4⟩)
        go_round
        case rel=>
         refine ⟨m+1,by omega,by go_num,below_next hB3 hb4 (Nat.le_refl _),hK3.later hb4 hK3.lt,Lib.hid (fun j z hj hz=>?_)⟩
         by_cases e:j=m
         ·subst e
          rw [HY.out] at hz
          cases hz
          rw [HC.out];rfl
         ·exact HM.out j z (by omega) hz
        case measure=>simp [intOf];omega
       | false=>
        have hchk:=fun w=>insCheck_any y hyo p.caps.length p.sites.length p.codes.length x.length w
        rw [show checkE y p.caps.length p.sites.length p.codes.length x.length=2 by unfold checkE;rw [hcb];rfl] at hchk
        have HC:=Lib.hid hcb
        clear hcb
        go_wp2_with fail
        refine (hchk _).mono ?_
        rintro e w3 ⟨rfl,hb3⟩
        have hbb:Below wr.heap.size wr w3:=((Below.refl _ wr).alloc (Nat.le_refl _) _).trans (hb3.mono (by simp))
        have hB3:=below_next hB hbb (Nat.le_refl _)
        have hK3:=hK.later hbb hlt3
        clear hb3 hbb hchk k0 k1 k2 c0 c1 c2 c3 c4 hB hK
        have HZ:Hid (codesW p.caps.length p.sites.length p.codes=some ((k:Int),(m:Int),112)):=Lib.hid (by
         rw [HE.out]
         refine firstI_some (k:=k) HN.out HX.out ?_
         rw [Nat.zero_add,HV.out]
         refine firstI_some (k:=m) HM.out HY.out ?_
         rw [HC.out,Nat.zero_add];rfl)
        go_wp2_with (go_at_call 88;refine (need_no _ _ _ _).mono ?_;rintro e w4 ⟨rfl,hb4⟩)
        exact ⟨rfl,by rw [HZ.out];rfl,below_next hB3 hb4 (Nat.le_refl _)⟩
      ·have hltm' : ¬ (m:Int)<(x.length:Int):=by omega
       have HY:Hid (codeW p.caps.length p.sites.length p.codes.length k x=none):=Lib.hid (by
        rw [HV.out,firstI_none]
        intro j y hy
        exact HM.out j y (by have:=(List.getElem?_eq_some_iff.1 hy).1;omega) hy)
       clear HV HM
       go_wp2_with fail
       go_round
       case rel=>
        refine ⟨k+1,by omega,by go_num,hB,hK,Lib.hid (fun j z hj hz=>?_)⟩
        by_cases e:j=k
        ·subst e
         rw [HX.out] at hz
         cases hz
         rw [Nat.zero_add,HY.out]
        ·exact HN.out j z (by omega) hz
       case measure=>simp [intOf];omega
   ·have hlt' : ¬ (k:Int)<(p.codes.length:Int):=by omega
    have HX:Hid (codesW p.caps.length p.sites.length p.codes=none):=Lib.hid (by
     rw [HE.out,firstI_none]
     intro j x hx
     exact HN.out j x (by have:=(List.getElem?_eq_some_iff.1 hx).1;omega) hx)
    go_wp2_with fail
    go_end0
    exact ⟨by rw [HX.out];rfl,hB⟩
end Go.Proofs.YtnfbncgfpmcpnaaGreat
