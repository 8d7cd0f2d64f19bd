/-
  ReplayNext: its walks, part 6.
-/
import Derived.Laws.Rows
import Derived.Laws.Tables
import Derived.Test.YtnfbncgfpmcpnaaGreatQ05
set_option maxRecDepth 100000
set_option maxHeartbeats 12800000
namespace Go.Proofs.YtnfbncgfpmcpnaaGreat
open Go.RowKit
def atIn (p:Prg) (i k:Int):Option In:=if 0<=i/\0<=k then (p.codes[i.toNat]?).bind fun c=>c[k.toNat]? else none
def insV (x:In):Value:=.agg #[.int .u8 (x.o:Int),.int .i64 x.a,.int .i64 x.b,.int .i64 x.c,.int .i64 x.k]
def AtPost (w:World) (r:Option In) (e:Ending) (w':World):Prop:=e=.returned (.tuple #[insV (r.getD In.zero),.bool r.isSome])/\Below w.heap.size w w'
theorem at_any {lo hi:Nat} {v1 v2 v3:Value} {p:Prg} (w:World) (h:PrgAt lo hi w v1 v2 v3 p) (hs:Small p) (i k:Int) :
  Calls Tryz.prog 120 #[.agg #[v1,v2,v3],.int .i64 i,.int .i64 k] w (AtPost w (atIn p i k)):=by
 obtain ⟨a1,c1,rfl⟩:=h.caps.slice
 obtain ⟨a2,c2,rfl⟩:=h.codes.slice
 obtain ⟨a3,c3,rfl⟩:=h.sites.slice
 have hb:=below2 w (.cells #[.slice a1 p.caps.length c1,.slice a2 p.codes.length c2,.slice a3 p.sites.length c3] 26) (.cells #[.int .u8 0,.int .i64 0,.int .i64 0,.int .i64 0,.int .i64 0] 95)
 have hn:=hs.codes
 have hwn:IntKind.i64.wrap ((p.codes.length:Int) - 1)=(p.codes.length:Int) - 1:=by rw [IntKind.wrap_i64];omega
 have hw1:=fun w=>within_any i 0 ((p.codes.length:Int) - 1) w
 go_enter Tryz.func120,Tryz.ntmps120
 cases hv:withinB i 0 ((p.codes.length:Int) - 1) with
 | false=>
  rw [hv] at hw1
  have HE:Hid (atIn p i k=none):=Lib.hid (by
   unfold atIn
   split
   ·rename_i hik
    unfold withinB at hv
    simp [hik.1] at hv
    rw [List.getElem?_eq_none (by omega)];rfl
   ·rfl)
  clear hv
  go_wp2_with (go_at_call 89;refine (hw1 _).mono ?_;rintro e w' ⟨rfl,rfl⟩)
  refine bodyPost_ret (v:=.tuple #[insV In.zero,.bool false]) (by simp [results,Tryz.f120,go_sem,insV,In.zero]) rfl ?_
  exact ⟨by rw [HE.out];rfl,below2 w _ _⟩
 | true=>
  rw [hv] at hw1
  obtain ⟨m,rfl⟩:∃ m:Nat,i=(m:Int):=⟨i.toNat,by unfold withinB at hv;simp at hv;omega⟩
  have hm:m<p.codes.length:=by unfold withinB at hv;simp at hv;omega
  clear hv
  have hm':(m:Int)<(p.codes.length:Int):=by omega
  have m0:(0:Int)<=(m:Int):=by omega
  obtain ⟨b,off,ra,rc,x,rfl,-, hbh,hx,hc,hr⟩:=h.codes.at hm
  have hbl:b<w.heap.size:=Nat.lt_of_lt_of_le hbh h.top
  have hxl:=hs.code x (List.mem_of_getElem? hx)
  have hwx:IntKind.i64.wrap ((x.length:Int) - 1)=(x.length:Int) - 1:=by rw [IntKind.wrap_i64];omega
  have hw2:=fun w=>within_any k 0 ((x.length:Int) - 1) w
  have HX:=Lib.hid hx
  clear hx
  cases hv:withinB k 0 ((x.length:Int) - 1) with
  | false=>
   rw [hv] at hw2
   have HE:Hid (atIn p (m:Int) k=none):=Lib.hid (by
    unfold atIn
    split
    ·rename_i hik
     rw [Int.toNat_natCast,HX.out]
     unfold withinB at hv
     simp [hik.2] at hv
     simp only [Option.bind_some]
     rw [List.getElem?_eq_none (by omega)]
    ·rfl)
   clear hv
   go_wp2_with fail
   refine (hw1 _).mono ?_
   rintro e w' ⟨rfl,rfl⟩
   go_wp2_with fail
   refine (hw2 _).mono ?_
   rintro e w' ⟨rfl,rfl⟩
   go_wp2_with fail
   refine bodyPost_ret (v:=.tuple #[insV In.zero,.bool false]) (by simp [results,Tryz.f120,go_sem,insV,In.zero]) rfl ?_
   exact ⟨by rw [HE.out];rfl,below2 w _ _⟩
  | true=>
   rw [hv] at hw2
   obtain ⟨n,rfl⟩:∃ n:Nat,k=(n:Int):=⟨k.toNat,by unfold withinB at hv;simp at hv;omega⟩
   have hn2:n<x.length:=by unfold withinB at hv;simp at hv;omega
   clear hv
   have hn':(n:Int)<(x.length:Int):=by omega
   have n0:(0:Int)<=(n:Int):=by omega
   obtain ⟨b2,off2,y,rfl,-, hbh2,hy,-, d0,d1,d2,d3,d4⟩:=hr.at hn2
   have hbl2:b2<w.heap.size:=Nat.lt_of_lt_of_le hbh2 h.top
   have HE:Hid (atIn p (m:Int) (n:Int)=some y):=Lib.hid (by
    unfold atIn
    rw [if_pos ⟨m0,n0⟩,Int.toNat_natCast,Int.toNat_natCast,HX.out]
    exact hy)
   clear hy hr
   go_wp2_with fail
   refine (hw1 _).mono ?_
   rintro e w' ⟨rfl,rfl⟩
   go_wp2_with fail
   refine (hw2 _).mono ?_
   rintro e w' ⟨rfl,rfl⟩
   go_wp2_with fail
   refine bodyPost_ret (v:=.tuple #[insV y,.bool true]) (by simp [results,Tryz.f120,go_sem,insV]) rfl ?_
   exact ⟨by rw [HE.out];rfl,below2 w _ _⟩
structure Is (W:World) (g B:Nat) (xs:List In):Prop where
 row:Blk W g 96 #[.slice (some ⟨B,0,none⟩) xs.length xs.length]
 ins:Blk W B 95 (xs.flatMap In.cellsL).toArray
def one (xs:List In):Prg:=⟨[],[xs],[]⟩
section
variable {p:Prg} {m n:Nat} {c:List In} {x:In}
theorem at_some (hc:p.codes[m]?=some c) (hx:c[n]?=some x):atIn p m n=some x:=by
 unfold atIn
 rw [if_pos ⟨by omega,by omega⟩,Int.toNat_natCast,Int.toNat_natCast,hc]
 exact hx
theorem at_next (h:checkW p=none) (hc:p.codes[m]?=some c) (hx:c[n]?=some x):(atIn p m ((n:Int)+1)).isSome=true \/ ((atIn p m ((n:Int)+1)).isSome=false/\(x.o=10 \/ x.o=3)):=by
 have hn:=(List.getElem?_eq_some_iff.1 hx).1
 by_cases hl:n+1<c.length
 ·left
  rw [show (n:Int)+1=((n+1:Nat):Int) by omega,at_some hc (List.getElem?_eq_getElem hl)];rfl
 ·right
  refine ⟨?_,may_last h hc (by rw [show c.length - 1=n by omega];exact hx)⟩
  unfold atIn
  rw [if_pos ⟨by omega,by omega⟩,Int.toNat_natCast,hc]
  simp only [Option.bind_some]
  rw [List.getElem?_eq_none (by omega)];rfl
theorem at_place (h:checkW p=none) (hc:p.codes[m]?=some c) (hx:c[n]?=some x) (ho:x.o=3 \/ x.o=4):(atIn p m x.k).isSome=true:=by
 obtain ⟨h0,h1⟩:=may_place (may_ins h hc hx) ho
 obtain ⟨j,hj⟩:∃ j:Nat,x.k=(j:Int):=⟨x.k.toNat,by omega⟩
 rw [hj,at_some hc (List.getElem?_eq_getElem (by omega))];rfl
end
open Go.RowKit
structure Fra where
 c:Int
 p:Int
 r0:Int
 r1:Int
 r2:Int
 r3:Int
 r4:Int
 r5:Int
 r6:Int
 r7:Int
structure Fra.ok (f:Fra):Prop where
 c:I64b f.c
 p:I64b f.p
 r0:I64b f.r0
 r1:I64b f.r1
 r2:I64b f.r2
 r3:I64b f.r3
 r4:I64b f.r4
 r5:I64b f.r5
 r6:I64b f.r6
 r7:I64b f.r7
def Fra.get (f:Fra):Nat->Int
 | 0=>f.r0
 | 1=>f.r1
 | 2=>f.r2
 | 3=>f.r3
 | 4=>f.r4
 | 5=>f.r5
 | 6=>f.r6
 | _=>f.r7
def Fra.put (f:Fra) (n:Nat) (v:Int):Fra:=match n with
 | 0=>{ f with r0:=v }
 | 1=>{ f with r1:=v }
 | 2=>{ f with r2:=v }
 | 3=>{ f with r3:=v }
 | 4=>{ f with r4:=v }
 | 5=>{ f with r5:=v }
 | 6=>{ f with r6:=v }
 | _=>{ f with r7:=v }
def Fra.goto (f:Fra) (v:Int):Fra:={ f with p:=v }
def Fra.zero:Fra:=⟨0,0,0,0,0,0,0,0,0,0⟩
def Fra.at0 (c:Int) (f:Fra):Fra:=⟨c,0,f.r0,f.r1,f.r2,f.r3,f.r4,f.r5,f.r6,f.r7⟩
abbrev fraV (f:Fra):Value:=.agg #[.int .i64 f.c,.int .i64 f.p,.int .i64 f.r0,.int .i64 f.r1,.int .i64 f.r2,.int .i64 f.r3,.int .i64 f.r4,.int .i64 f.r5,.int .i64 f.r6,.int .i64 f.r7]
abbrev fraA (f:Fra):Array Value:=#[.int .i64 f.c,.int .i64 f.p,.int .i64 f.r0,.int .i64 f.r1,.int .i64 f.r2,.int .i64 f.r3,.int .i64 f.r4,.int .i64 f.r5,.int .i64 f.r6,.int .i64 f.r7]
theorem fra_set (f:Fra) {n:Nat} (hn:n<8) (v:Int):(fraA f).setIfInBounds (2+n) (.int .i64 v)=fraA (f.put n v):=by
 have:n=0 \/ n=1 \/ n=2 \/ n=3 \/ n=4 \/ n=5 \/ n=6 \/ n=7:=by omega
 rcases this with rfl | rfl | rfl | rfl | rfl | rfl | rfl | rfl <;> rfl
theorem fra_get (f:Fra) {n:Nat} (hn:n<8):(fraA f)[2+n]?=some (.int .i64 (f.get n)):=by
 have:n=0 \/ n=1 \/ n=2 \/ n=3 \/ n=4 \/ n=5 \/ n=6 \/ n=7:=by omega
 rcases this with rfl | rfl | rfl | rfl | rfl | rfl | rfl | rfl <;> rfl
theorem put_c (f:Fra) (n:Nat) (v:Int):(f.put n v).c=f.c:=by unfold Fra.put;split <;> rfl
theorem put_p (f:Fra) (n:Nat) (v:Int):(f.put n v).p=f.p:=by unfold Fra.put;split <;> rfl
theorem Fra.ok.get {f:Fra} (h:f.ok) (n:Nat):I64b (f.get n):=by
 unfold Fra.get
 split
 ·exact h.r0
 ·exact h.r1
 ·exact h.r2
 ·exact h.r3
 ·exact h.r4
 ·exact h.r5
 ·exact h.r6
 ·exact h.r7
theorem Fra.zero_ok:Fra.zero.ok:=⟨i64_zero,i64_zero,i64_zero,i64_zero,i64_zero,i64_zero,i64_zero,i64_zero,i64_zero,i64_zero⟩
def atF (p:Prg) (f:Fra):Option In:=atIn p f.c f.p
def locO (o:Nat):Bool:=decide (1<=o) && decide (o<=4)
def doF (x:In) (f:Fra):Fra:=match x.o with
 | 1=>(f.put x.a.toNat x.k).goto (f.p+1)
 | 2=>(f.put x.a.toNat (wrap64 (f.get x.a.toNat+f.get x.b.toNat))).goto (f.p+1)
 | 3=>f.goto x.k
 | _=>f.goto (if f.get x.a.toNat=0 then x.k else f.p+1)
def stepF (p:Prg) (f:Fra):Fra × Int:=match atF p f with
 | none=>(Fra.zero,2)
 | some x=>if locO x.o then (doF x f,0) else (Fra.zero,8)
def locAt (p:Prg) (f:Fra):Bool:=match atF p f with
 | none=>false
 | some x=>locO x.o
def nextF (p:Prg) (f:Fra):Fra:=match atF p f with
 | none=>f
 | some x=>doF x f
def runK (p:Prg) (f:Fra):Nat->Fra
 | 0=>f
 | n+1=>nextF p (runK p f n)
def runF (p:Prg):Nat->Nat->Fra->Fra × Int × Int
 | 0,n,f=>if locAt p f then (Fra.zero,0,5) else (f,(n:Int),0)
 | m+1,n,f=>if locAt p f then runF p m (n+1) (nextF p f) else (f,(n:Int),0)
def runT (p:Prg) (f:Fra) (most:Int):Fra × Int × Int:=if (atF p f).isSome && decide (0<=most) && decide (most<=65536) then runF p most.toNat 0 f else (Fra.zero,0,2)
theorem runF_more {p:Prg}:∀ (m n:Nat) (f g:Fra) (k:Int),runF p m n f=(g,k,0)->(∀ b,runF p (m+b) n f=(g,k,0))/\locAt p g=false/\(n:Int)<=k/\k<=n+m:=by
 intro m
 induction m with
 | zero=>
  intro n f g k h
  unfold runF at h
  cases hl:locAt p f with
  | true=>rw [hl] at h;simp at h
  | false=>
   rw [hl] at h
   simp only [Bool.false_eq_true,if_false,Prod.mk.injEq,and_true] at h
   obtain ⟨rfl,rfl⟩:=h
   refine ⟨fun b=>?_,hl,by omega,by omega⟩
   cases b <;> simp [runF,hl]
 | succ m ih=>
  intro n f g k h
  unfold runF at h
  cases hl:locAt p f with
  | true=>
   rw [hl] at h
   simp only [if_true] at h
   obtain ⟨h1,h2,h3,h4⟩:=ih _ _ _ _ h
   refine ⟨fun b=>?_,h2,by omega,by omega⟩
   rw [show m+1+b=(m+b)+1 by omega]
   unfold runF
   rw [hl]
   simp only [if_true]
   exact h1 b
  | false=>
   rw [hl] at h
   simp only [Bool.false_eq_true,if_false,Prod.mk.injEq,and_true] at h
   obtain ⟨rfl,rfl⟩:=h
   refine ⟨fun b=>?_,hl,by omega,by omega⟩
   rw [show m+1+b=(m+b)+1 by omega]
   simp [runF,hl]
theorem runF_still {p:Prg} {f:Fra} (h:locAt p f=false) (m n:Nat):runF p m n f=(f,(n:Int),0):=by
 cases m <;> simp [runF,h]
theorem runF_ends {p:Prg}:∀ (k m n:Nat) (f:Fra),k<=m->(∀ j,j<k->locAt p (runK p f j)=true)->locAt p (runK p f k)=false->runF p m n f=(runK p f k,((n+k:Nat):Int),0):=by
 have step:∀ (f:Fra) (k:Nat),runK p (nextF p f) k=runK p f (k+1):=by
  intro f k
  induction k with
  | zero=>rfl
  | succ k ih=>show nextF p (runK p (nextF p f) k)=_;rw [ih];rfl
 intro k
 induction k with
 | zero=>intro m n f _ _ h;exact runF_still h m n
 | succ k ih=>
  intro m n f hm hj h
  obtain ⟨m,rfl⟩:∃ m',m=m'+1:=⟨m - 1,by omega⟩
  have h0:locAt p f=true:=hj 0 (by omega)
  unfold runF
  rw [h0]
  simp only [if_true]
  rw [ih m (n+1) (nextF p f) (by omega) (fun j hj'=>by rw [step];exact hj (j+1) (by omega)) (by rw [step];exact h),step]
  rw [show n+1+k=n+(k+1) by omega]
theorem runF_long {p:Prg}:∀ (m n:Nat) (f:Fra),(∀ j,j<=m->locAt p (runK p f j)=true)->runF p m n f=(Fra.zero,0,5):=by
 have step:∀ (f:Fra) (k:Nat),runK p (nextF p f) k=runK p f (k+1):=by
  intro f k
  induction k with
  | zero=>rfl
  | succ k ih=>show nextF p (runK p (nextF p f) k)=_;rw [ih];rfl
 intro m
 induction m with
 | zero=>intro n f h;unfold runF;rw [show locAt p f=true from h 0 (by omega)];rfl
 | succ m ih=>
  intro n f h
  unfold runF
  rw [show locAt p f=true from h 0 (by omega)]
  simp only [if_true]
  exact ih _ _ (fun j hj=>by rw [step];exact h (j+1) (by omega))
section
variable {p:Prg} {f:Fra} {x:In}
theorem atF_parts (h:atF p f=some x):∃ (m n:Nat) (c:List In),f.c=(m:Int)/\f.p=(n:Int)/\p.codes[m]?=some c/\c[n]?=some x:=by
 unfold atF atIn at h
 split at h
 ·rename_i hik
  cases hc:p.codes[f.c.toNat]? with
  | none=>rw [hc] at h;cases h
  | some c=>rw [hc] at h;exact ⟨_,_,c,by omega,by omega,hc,h⟩
 ·cases h
theorem check_known {a b d l:Int} (h:checkB x a b d l=true):known x.o=true:=by
 have key:∀ (q:List (Nat × Int)),q.foldl (checkStep a b d l) false=false:=fun q=>by
  induction q with
  | nil=>rfl
  | cons y t ih=>simp only [List.foldl_cons,checkStep,Bool.false_and];exact ih
 cases hk:known x.o with
 | true=>rfl
 | false=>
  unfold checkB okI at h
  rw [hk,Bool.false_and,key] at h
  cases h
theorem check_regs {a b d l:Int} (h:checkB x a b d l=true):(0<=x.a/\x.a<8)/\(0<=x.b/\x.b<8):=by
 have hk:=check_known h
 obtain ⟨o,xa,xb,xc,xk⟩:=x
 rcases known_cases hk with rfl | rfl | rfl | rfl | rfl | rfl | rfl | rfl | rfl | rfl <;>
  simp [checkB,okI,bareOf,bareStep,In.put,In.only,In.eq,known,pairs,namesOf,In.get,checkStep,mayB,belowB] at h ⊢ <;> omega
theorem at_regs (h:checkW p=none) (hx:atF p f=some x):(0<=x.a/\x.a<8)/\(0<=x.b/\x.b<8):=by
 obtain ⟨m,n,c,_,_,hc,hn⟩:=atF_parts hx
 exact check_regs (may_ins h hc hn)
theorem at_kind (h:checkW p=none) (hx:atF p f=some x):1<=x.o/\x.o<=10:=by
 obtain ⟨m,n,c,_,_,hc,hn⟩:=atF_parts hx
 exact known_iff.1 (check_known (may_ins h hc hn))
theorem locO_iff {o:Nat}:locO o=true ↔ 1<=o/\o<=4:=by simp [locO]
theorem doF_at (h:checkW p=none) (hx:atF p f=some x) (hl:locO x.o=true):(atF p (doF x f)).isSome=true/\(doF x f).c=f.c:=by
 obtain ⟨m,n,c,hfc,hfp,hc,hn⟩:=atF_parts hx
 have hnext:=at_next h hc hn
 have hl':=locO_iff.1 hl
 have hc1:∀ (g:Fra) (v:Int),g.c=f.c->atF p (g.goto v)=atIn p m v:=fun g v hg=>by unfold atF Fra.goto;simp only;rw [hg,hfc]
 unfold doF
 split
 ·rename_i ho
  refine ⟨?_,put_c _ _ _⟩
  rw [hc1 _ _ (put_c _ _ _),hfp]
  rcases hnext with h1 | ⟨_,h1⟩
  ·exact h1
  ·omega
 ·rename_i ho
  refine ⟨?_,put_c _ _ _⟩
  rw [hc1 _ _ (put_c _ _ _),hfp]
  rcases hnext with h1 | ⟨_,h1⟩
  ·exact h1
  ·omega
 ·rename_i ho
  refine ⟨?_,rfl⟩
  rw [hc1 _ _ rfl]
  exact at_place h hc hn (.inl ho)
 ·rename_i h1 h2 h3
  have ho:x.o=4:=by
   have a1:x.o ≠ 1:=h1
   have a2:x.o ≠ 2:=h2
   have a3:x.o ≠ 3:=h3
   omega
  refine ⟨?_,rfl⟩
  rw [hc1 _ _ rfl]
  split
  ·exact at_place h hc hn (.inr ho)
  ·rw [hfp]
   rcases hnext with h1 | ⟨_,h1⟩
   ·exact h1
   ·omega
end
open Go.RowKit
abbrev FrAt (W:World) (B:Nat) (f:Fra):Prop:=Blk W B 61 (fraA f)
section
variable {W:World} {B:Nat} {f:Fra}
theorem fra_cells {t:TypeId} (h:Blk W B t (fraA f)):W.cell? ⟨B,0,none⟩=some (.int .i64 f.c)/\W.cell? ⟨B,1,none⟩=some (.int .i64 f.p)/\W.cell? ⟨B,2,none⟩=some (.int .i64 f.r0)/\W.cell? ⟨B,3,none⟩=some (.int .i64 f.r1)/\W.cell? ⟨B,4,none⟩=some (.int .i64 f.r2)/\W.cell? ⟨B,5,none⟩=some (.int .i64 f.r3)/\W.cell? ⟨B,6,none⟩=some (.int .i64 f.r4)/\W.cell? ⟨B,7,none⟩=some (.int .i64 f.r5)/\W.cell? ⟨B,8,none⟩=some (.int .i64 f.r6)/\W.cell? ⟨B,9,none⟩=some (.int .i64 f.r7):=⟨h.cell rfl,h.cell rfl,h.cell rfl,h.cell rfl,h.cell rfl,h.cell rfl,h.cell rfl,h.cell rfl,h.cell rfl,h.cell rfl⟩
end
theorem ins_cells {W:World} {B:Nat} {t:TypeId} {x:In} (h:Blk W B t x.cellsL.toArray):W.cell? ⟨B,0,none⟩=some (.int .u8 (x.o:Int))/\W.cell? ⟨B,1,none⟩=some (.int .i64 x.a)/\W.cell? ⟨B,2,none⟩=some (.int .i64 x.b)/\W.cell? ⟨B,3,none⟩=some (.int .i64 x.c)/\W.cell? ⟨B,4,none⟩=some (.int .i64 x.k):=⟨h.cell rfl,h.cell rfl,h.cell rfl,h.cell rfl,h.cell rfl⟩
theorem cas_cells {W:World} {B:Nat} {t:TypeId} {x:Cas} (h:Blk W B t x.cellsL.toArray):W.cell? ⟨B,0,none⟩=some (.bool x.s)/\W.cell? ⟨B,1,none⟩=some (.int .i64 x.c)/\W.cell? ⟨B,2,none⟩=some (.int .i64 x.v)/\W.cell? ⟨B,3,none⟩=some (.int .i64 x.o):=⟨h.cell rfl,h.cell rfl,h.cell rfl,h.cell rfl⟩
theorem setRow_put {w:World} {g:Nat} {t:TypeId} {old cs:Array Value} (hg:Blk w g t old):Blk (w.setRow g cs) g t cs/\But [g] w (w.setRow g cs):=by
 refine ⟨setRow_heap w g old cs t (0,0) hg,⟨rfl,rfl,rfl,by simp [World.setRow],fun k hk hn=>?_⟩⟩
 have hne:g ≠ k:=fun e=>hn (by simp [e])
 simp only [World.setRow,Array.getElem?_modify,if_neg hne]
theorem wpList_put {P:Program} {ops:Array Oper} {rest:List Oper} {o:Oper} {a:Act} {w:World} {Q:Exit->Act->World->Prop} (hgd:o.guard=none) (ty:TypeId) (x y:Operand) (ho:o.op=.store ty x y)
  (g:Nat) (cs:Array Value) (hx:a.eval x=.pointer (some ⟨g,0,none⟩)) (hy:a.eval y=.agg cs) {t:TypeId} {old:Array Value} (hg:Blk w g t old) (hi:(P.info? ty).map (·.size)=some cs.size)
  (hold:old.size=cs.size) (h1:cs.all (·.oneCell')=true)
  (h:∀ W',Blk W' g t cs->But [g] w W'->wpList P ops Q rest (a.put o.dst undef) W'):wpList P ops Q (o::rest) a w:=
 wpList_store_row hgd ty x y ho g cs hx hy t old hg hi hold h1 (h _ (setRow_put hg).1 (setRow_put hg).2)
theorem szFra:(Tryz.prog.info? 61).map (·.size)=some 10:=by kernel_rfl
theorem but_on {t:TypeId} {W W':World} {B g:Nat} {cs:Array Value} (h:Blk W B t cs) (hb:But [g] W W') (hn:B ≠ g):Blk W' B t cs:=(hb.block B h.lt (by simpa using hn)).trans h
theorem below_but {n:Nat} {w W W':World} {g:Nat} (h:Below n w W) (hb:But [g] W W') (hn:n<=w.heap.size) (hg:n<=g):Below n w W':=
 h.trans (hb.below (Nat.le_trans hn h.size) (by simpa using hg))
theorem below3 (w:World) (o1 o2 o3:Obj):Below w.heap.size w (((w.alloc o1).alloc o2).alloc o3):=(below2 w o1 o2).alloc (by simp;omega) _
theorem rows2 {α:Type} (x0 x1 a0 a1:α):((((#[x0,x1]:Array α)).setIfInBounds 0 a0).setIfInBounds 1 a1)=#[a0,a1]:=by
 simp
theorem sto2 {W:World} {B:Nat} {t:TypeId} {x0 x1:Value} (h:Blk W B t #[x0,x1]) (a0 a1:Value) :
  Blk ((W.setCell ⟨B,0,none⟩ a0).setCell ⟨B,1,none⟩ a1) B t #[a0,a1]/\But [B] W ((W.setCell ⟨B,0,none⟩ a0).setCell ⟨B,1,none⟩ a1):=by
 have hm:B ∈ [B]:=by simp
 refine ⟨?_,(((But.refl [B] W).set (.inl hm) _).set (.inl hm) _)⟩
 rw [<- rows2 x0 x1 a0 a1]
 exact ((h.set 0 a0).set 1 a1)
theorem rows4 {α:Type} (x0 x1 x2 x3 a0 a1 a2 a3:α):((((((#[x0,x1,x2,x3]:Array α)).setIfInBounds 0 a0).setIfInBounds 1 a1).setIfInBounds 2 a2).setIfInBounds 3 a3)=#[a0,a1,a2,a3]:=by
 simp
theorem sto4 {W:World} {B:Nat} {t:TypeId} {x0 x1 x2 x3:Value} (h:Blk W B t #[x0,x1,x2,x3]) (a0 a1 a2 a3:Value) :
  Blk ((((W.setCell ⟨B,0,none⟩ a0).setCell ⟨B,1,none⟩ a1).setCell ⟨B,2,none⟩ a2).setCell ⟨B,3,none⟩ a3) B t #[a0,a1,a2,a3]/\But [B] W ((((W.setCell ⟨B,0,none⟩ a0).setCell ⟨B,1,none⟩ a1).setCell ⟨B,2,none⟩ a2).setCell ⟨B,3,none⟩ a3):=by
 have hm:B ∈ [B]:=by simp
 refine ⟨?_,(((((But.refl [B] W).set (.inl hm) _).set (.inl hm) _).set (.inl hm) _).set (.inl hm) _)⟩
 rw [<- rows4 x0 x1 x2 x3 a0 a1 a2 a3]
 exact ((((h.set 0 a0).set 1 a1).set 2 a2).set 3 a3)
theorem rows5 {α:Type} (x0 x1 x2 x3 x4 a0 a1 a2 a3 a4:α):(((((((#[x0,x1,x2,x3,x4]:Array α)).setIfInBounds 0 a0).setIfInBounds 1 a1).setIfInBounds 2 a2).setIfInBounds 3 a3).setIfInBounds 4 a4)=#[a0,a1,a2,a3,a4]:=by
 simp
theorem sto5 {W:World} {B:Nat} {t:TypeId} {x0 x1 x2 x3 x4:Value} (h:Blk W B t #[x0,x1,x2,x3,x4]) (a0 a1 a2 a3 a4:Value) :
  Blk (((((W.setCell ⟨B,0,none⟩ a0).setCell ⟨B,1,none⟩ a1).setCell ⟨B,2,none⟩ a2).setCell ⟨B,3,none⟩ a3).setCell ⟨B,4,none⟩ a4) B t #[a0,a1,a2,a3,a4]/\But [B] W (((((W.setCell ⟨B,0,none⟩ a0).setCell ⟨B,1,none⟩ a1).setCell ⟨B,2,none⟩ a2).setCell ⟨B,3,none⟩ a3).setCell ⟨B,4,none⟩ a4):=by
 have hm:B ∈ [B]:=by simp
 refine ⟨?_,((((((But.refl [B] W).set (.inl hm) _).set (.inl hm) _).set (.inl hm) _).set (.inl hm) _).set (.inl hm) _)⟩
 rw [<- rows5 x0 x1 x2 x3 x4 a0 a1 a2 a3 a4]
 exact (((((h.set 0 a0).set 1 a1).set 2 a2).set 3 a3).set 4 a4)
theorem rows10 {α:Type} (x0 x1 x2 x3 x4 x5 x6 x7 x8 x9 a0 a1 a2 a3 a4 a5 a6 a7 a8 a9:α):((((((((((((#[x0,x1,x2,x3,x4,x5,x6,x7,x8,x9]:Array α)).setIfInBounds 0 a0).setIfInBounds 1 a1).setIfInBounds 2 a2).setIfInBounds 3 a3).setIfInBounds 4 a4).setIfInBounds 5 a5).setIfInBounds 6 a6).setIfInBounds 7 a7).setIfInBounds 8 a8).setIfInBounds 9 a9)=#[a0,a1,a2,a3,a4,a5,a6,a7,a8,a9]:=by
 simp
theorem sto10 {W:World} {B:Nat} {t:TypeId} {x0 x1 x2 x3 x4 x5 x6 x7 x8 x9:Value} (h:Blk W B t #[x0,x1,x2,x3,x4,x5,x6,x7,x8,x9]) (a0 a1 a2 a3 a4 a5 a6 a7 a8 a9:Value) :
  Blk ((((((((((W.setCell ⟨B,0,none⟩ a0).setCell ⟨B,1,none⟩ a1).setCell ⟨B,2,none⟩ a2).setCell ⟨B,3,none⟩ a3).setCell ⟨B,4,none⟩ a4).setCell ⟨B,5,none⟩ a5).setCell ⟨B,6,none⟩ a6).setCell ⟨B,7,none⟩ a7).setCell ⟨B,8,none⟩ a8).setCell ⟨B,9,none⟩ a9) B t #[a0,a1,a2,a3,a4,a5,a6,a7,a8,a9]/\But [B] W ((((((((((W.setCell ⟨B,0,none⟩ a0).setCell ⟨B,1,none⟩ a1).setCell ⟨B,2,none⟩ a2).setCell ⟨B,3,none⟩ a3).setCell ⟨B,4,none⟩ a4).setCell ⟨B,5,none⟩ a5).setCell ⟨B,6,none⟩ a6).setCell ⟨B,7,none⟩ a7).setCell ⟨B,8,none⟩ a8).setCell ⟨B,9,none⟩ a9):=by
 have hm:B ∈ [B]:=by simp
 refine ⟨?_,(((((((((((But.refl [B] W).set (.inl hm) _).set (.inl hm) _).set (.inl hm) _).set (.inl hm) _).set (.inl hm) _).set (.inl hm) _).set (.inl hm) _).set (.inl hm) _).set (.inl hm) _).set (.inl hm) _)⟩
 rw [<- rows10 x0 x1 x2 x3 x4 x5 x6 x7 x8 x9 a0 a1 a2 a3 a4 a5 a6 a7 a8 a9]
 exact ((((((((((h.set 0 a0).set 1 a1).set 2 a2).set 3 a3).set 4 a4).set 5 a5).set 6 a6).set 7 a7).set 8 a8).set 9 a9)
theorem local_any (o:Nat) (w:World) (ho:o<256):Calls Tryz.prog 162 #[.int .u8 (o:Int)] w fun e w'=>e=.returned (.bool (locO o))/\w'=w:=by
 have hc:o=1 \/ o=2 \/ o=3 \/ o=4 \/ (locO o=false/\(o:Int) ≠ 1/\(o:Int) ≠ 2/\(o:Int) ≠ 3/\(o:Int) ≠ 4):=by
  by_cases h:1<=o/\o<=4
  ·omega
  ·refine .inr (.inr (.inr (.inr ⟨?_,by omega,by omega,by omega,by omega⟩)))
   cases hl:locO o with
   | false=>rfl
   | true=>exact absurd (locO_iff.1 hl) h
 go_enter Tryz.func162,Tryz.ntmps162
 rcases hc with rfl | rfl | rfl | rfl | ⟨h0,h1,h2,h3,h4⟩
 ·go_wp2_with fail
  go_ret
  exact ⟨rfl,rfl⟩
 ·go_wp2_with fail
  go_ret
  exact ⟨rfl,rfl⟩
 ·go_wp2_with fail
  go_ret
  exact ⟨rfl,rfl⟩
 ·go_wp2_with fail
  go_ret
  exact ⟨rfl,rfl⟩
 ·go_wp2_with fail
  go_ret
  exact ⟨by rw [h0];rfl,rfl⟩
theorem fat_any {lo hi:Nat} {v1 v2 v3:Value} {p:Prg} (w:World) (h:PrgAt lo hi w v1 v2 v3 p) (hs:Small p) (f:Fra) :
  Calls Tryz.prog 85 #[.agg #[v1,v2,v3],fraV f] w (AtPost w (atF p f)):=by
 obtain ⟨wf,hwf⟩:∃ wf,wf=((w.alloc (.cells #[v1,v2,v3] 26)).alloc (.cells (fraA f) 61)).alloc (.cells #[.int .u8 0,.int .i64 0,.int .i64 0,.int .i64 0,.int .i64 0] 95):=⟨_,rfl⟩
 have hB:Below w.heap.size w wf:=by rw [hwf];exact below3 w _ _ _
 have hZ:Blk wf (w.heap.size+1+1) 95 #[.int .u8 0,.int .i64 0,.int .i64 0,.int .i64 0,.int .i64 0]:=by rw [hwf];exact blk_at (by simp)
 have hc:=at_any wf (h.later hB) hs f.c f.p
 go_enter Tryz.func85,Tryz.ntmps85
 go_wp2_with fail
 rw [<- hwf]
 clear hwf
 refine hc.mono ?_
 rintro e w1 ⟨rfl,hb⟩
 have hB1:=below_next hB hb (Nat.le_refl _)
 have hZ1:=hZ.later hb hZ.lt
 have hr:=Lib.hid (show atIn p f.c f.p=atF p f from rfl)
 obtain ⟨y,hy⟩:∃ y,y=(atIn p f.c f.p).getD In.zero:=⟨_,rfl⟩
 rw [<- hy]
 have HY:=Lib.hid hy
 clear hc hZ hb hB hy
 obtain ⟨z0,z1,z2,z3,z4⟩:=ins_cells (x:=In.zero) hZ1
 have zf:=hZ1.frozen
 have hX:=sto5 hZ1 (.int .u8 (y.o:Int)) (.int .i64 y.a) (.int .i64 y.b) (.int .i64 y.c) (.int .i64 y.k)
 unfold insV
 go_wp2_with fail
 revert hX
 generalize (((((w1.setCell ⟨w.heap.size+1+1,0,none⟩ (.int .u8 (y.o:Int))).setCell ⟨w.heap.size+1+1,1,none⟩ (.int .i64 y.a)).setCell ⟨w.heap.size+1+1,2,none⟩ (.int .i64 y.b)).setCell ⟨w.heap.size+1+1,3,none⟩ (.int .i64 y.c)).setCell ⟨w.heap.size+1+1,4,none⟩ (.int .i64 y.k))=w2
 rintro ⟨hX,hbX⟩
 obtain ⟨q0,q1,q2,q3,q4⟩:=ins_cells hX
 refine bodyPost_ret (v:=.tuple #[insV y,.bool (atIn p f.c f.p).isSome]) (by simp [results,Tryz.f85,go_sem,insV,q0,q1,q2,q3,q4]) rfl ?_
 exact ⟨by rw [HY.out];rfl,below_but hB1 hbX (Nat.le_refl _) (by omega)⟩
open Go.RowKit
theorem fatP_any {lo hi:Nat} {v1 v2 v3:Value} {p:Prg} (w:World) (h:PrgAt lo hi w v1 v2 v3 p) (hs:Small p) (f:Fra) :
  Calls Tryz.prog 85 #[.agg #[v1,v2,v3],fraV f] w fun e w'=>∃ y:In,e=.returned (.tuple #[.agg #[.int .u8 (y.o:Int),.int .i64 y.a,.int .i64 y.b,.int .i64 y.c,.int .i64 y.k],.bool (atF p f).isSome])/\y=(atF p f).getD In.zero/\Below w.heap.size w w':=
 (fat_any w h hs f).mono fun _ _ ⟨h1,h2⟩=>⟨_,h1,rfl,h2⟩
def okE (b:Bool):Int:=if b then 0 else 2
theorem fcheck_any {lo hi:Nat} {v1 v2 v3:Value} {p:Prg} (w:World) (h:PrgAt lo hi w v1 v2 v3 p) (hs:Small p) (f:Fra) :
  Calls Tryz.prog 146 #[.agg #[v1,v2,v3],fraV f] w fun e w'=>e=.returned (.int .i64 (okE (atF p f).isSome))/\Below w.heap.size w w':=by
 obtain ⟨wf,hwf⟩:∃ wf,wf=(w.alloc (.cells #[v1,v2,v3] 26)).alloc (.cells (fraA f) 61):=⟨_,rfl⟩
 have hB:Below w.heap.size w wf:=by rw [hwf];exact below2 w _ _
 have hc:=fatP_any wf (h.later hB) hs f
 go_enter Tryz.func146,Tryz.ntmps146
 go_wp2_with fail
 rw [<- hwf]
 clear hwf
 refine hc.mono ?_
 rintro e w1 ⟨y,rfl,-, hb⟩
 have hB1:=(below_next hB hb (Nat.le_refl _)).alloc (below_next hB hb (Nat.le_refl _)).size (.cells #[.int .u8 (y.o:Int),.int .i64 y.a,.int .i64 y.b,.int .i64 y.c,.int .i64 y.k] 95)
 clear hc hB hb
 obtain ⟨b,hbe⟩:∃ b,b=(atF p f).isSome:=⟨_,rfl⟩
 have HB:=Lib.hid hbe
 rw [<- hbe]
 clear hbe
 cases b with
 | true=>
  go_wp2_with fail
  go_ret
  exact ⟨by rw [<- HB.out];rfl,hB1⟩
 | false=>
  go_wp2_with fail
  go_ret
  exact ⟨by rw [<- HB.out];rfl,hB1⟩
theorem spawn_any (f:Fra) (c:Int) (w:World):Calls Tryz.prog 52 #[fraV f,.int .i64 c] w fun e w'=>e=.returned (fraV (Fra.at0 c f))/\Below w.heap.size w w':=by
 have hb:=below2 w (.cells (fraA f) 61) (.cells (fraA (Fra.at0 c f)) 61)
 have hX:Blk ((w.alloc (.cells (fraA f) 61)).alloc (.cells (fraA (Fra.at0 c f)) 61)) (w.heap.size+1) 61 (fraA (Fra.at0 c f)):=blk_at (by simp)
 obtain ⟨q0,q1,q2,q3,q4,q5,q6,q7,q8,q9⟩:=fra_cells hX
 go_enter Tryz.func52,Tryz.ntmps52
 go_wp2_with fail
 refine bodyPost_ret (v:=fraV (Fra.at0 c f)) (by simp [results,Tryz.f52,go_sem,fraV,fraA,Fra.at0] at q0 q1 q2 q3 q4 q5 q6 q7 q8 q9 ⊢) rfl ?_
 exact ⟨rfl,hb⟩
theorem flag_any (b:Bool) (w:World):Calls Tryz.prog 165 #[.bool b] w fun e w'=>e=.returned (.int .i64 (if b then 1 else 0))/\w'=w:=by
 go_enter Tryz.func165,Tryz.ntmps165
 cases b
 ·go_wp2_with fail
  go_ret
  exact ⟨rfl,rfl⟩
 ·go_wp2_with fail
  go_ret
  exact ⟨rfl,rfl⟩
def regB (v:Int):Bool:=withinB v 0 7
theorem regB_iff {v:Int}:regB v=true ↔ 0<=v/\v<8:=by unfold regB withinB;simp;omega
theorem registers_any (xs:List Int) (B:Nat) (w:World) (h:Blk w B 3 (I64 xs).toArray) (hl:xs.length<=8) :
  Calls Tryz.prog 164 #[.slice (some ⟨B,0,none⟩) xs.length xs.length] w fun e w'=>e=.returned (.bool (xs.all regB))/\w'=w:=by
 go_enter Tryz.func164,Tryz.ntmps164
 go_wp2_with fail
 go_loop [7] (fun iv=>∃ k:Nat,k<=xs.length/\iv=.int .i64 (k:Int)/\Hid (∀ (j:Nat) (x:Int),j<k->xs[j]?=some x->regB x=true)) (fun iv=>8 - (intOf iv).toNat)
 case atStart=>exact ⟨0,Nat.zero_le _,rfl,Lib.hid (fun j x hj=>by omega)⟩
 case round=>
  obtain ⟨k,hk,rfl,HK⟩:=hrel
  have hw:IntKind.i64.wrap ((k:Int)+1)=(k:Int)+1:=by rw [IntKind.wrap_i64];omega
  have k0:(0:Int)<=(k:Int):=by omega
  by_cases hlt:k<xs.length
  ·have hlt':(k:Int)<(xs.length:Int):=by omega
   obtain ⟨x,hx⟩:∃ x,xs[k]?=some x:=⟨_,List.getElem?_eq_getElem hlt⟩
   have hc:w.cell? ⟨B,k,none⟩=some (.int .i64 x):=h.cell (by simp [I64,hx])
   have HX:=Lib.hid hx
   clear hx
   by_cases h0:x<0
   ·have HE:Hid (xs.all regB=false):=Lib.hid (by
     rw [List.all_eq_false]
     exact ⟨x,List.mem_of_getElem? HX.out,fun e=>by have:=regB_iff.1 e;omega⟩)
    go_wp2_with fail
    go_ret
    exact ⟨by rw [HE.out];rfl,rfl⟩
   by_cases h8:8<=x
   ·have HE:Hid (xs.all regB=false):=Lib.hid (by
     rw [List.all_eq_false]
     exact ⟨x,List.mem_of_getElem? HX.out,fun e=>by have:=regB_iff.1 e;omega⟩)
    have h8':decide (8<=x)=true:=by simpa using h8
    go_wp2_with fail
    go_ret
    exact ⟨by rw [HE.out];rfl,rfl⟩
   ·have h8':decide (8<=x)=false:=by simpa using h8
    go_wp2_with fail
    go_round
    case rel=>
     refine ⟨k+1,by omega,by go_num,Lib.hid (fun j y hj hy=>?_)⟩
     by_cases e:j=k
     ·subst e
      rw [HX.out] at hy
      cases hy
      exact regB_iff.2 ⟨by omega,by omega⟩
     ·exact HK.out j y (by omega) hy
    case measure=>simp [intOf];omega
  ·have hlt' : ¬ (k:Int)<(xs.length:Int):=by omega
   have HE:Hid (xs.all regB=true):=Lib.hid (by
    rw [List.all_eq_true]
    intro x hx
    obtain ⟨j,hj,rfl⟩:=List.mem_iff_getElem.1 hx
    exact HK.out j _ (by omega) (List.getElem?_eq_getElem hj))
   go_wp2_with fail
   go_ret
   exact ⟨by rw [HE.out];rfl,rfl⟩
end Go.Proofs.YtnfbncgfpmcpnaaGreat
