/-
  ReplayNext: its walks, part 17.
-/
import Derived.Test.YtnfbncgfpmcpnaaGreatQ16
set_option maxRecDepth 100000
set_option maxHeartbeats 12800000
namespace Go.Proofs.YtnfbncgfpmcpnaaGreat.Mch
open Go.RowKit Go.Shelf
attribute [local go_sem] Oper.semAt_some
theorem step_append_at {P:Program} {ops:Array Oper} {o:Oper} {a:Act} {w:World} {K:Act->World->Prop} {Q:Exit->Act->World->Prop} {E:Prop}
  (hg:o.guard=none) (s x:Operand) (t:TypeId) (ho:o.op=.call { callee:=.builtin .append,args:=#[s,x],argTypes:=#[t,t] })
  (base:Nat) (e:TypeId) (i:TypeInfo) (z:Value) (size bytes:Nat) (ht:P.underlying t=some (.slice e)) (hi:P.info? e=some i) (hz:i.zero=some z)
  (hsize:i.size=size) (hby:i.bytes=bytes) (hzs:z.cells.size=size) (hsz:0<size)
  (v:Value) (n:Nat) (xs:List Value) (hs:a.eval s=v) (hown:w.ownsRow base e size v n xs)
  (ad:Addr) (m c:Nat) (news:List Value) (hx:a.eval x=.slice (some ad) m c) (hl:news.length=m * size) (hnews:∀ j u,news[j]?=some u->w.cell? (ad.add j)=some u) (h1:∀ u ∈ news,u.oneCell'=true)
  (h63:n+m<=maxLen) (hbytes:(n+m) * bytes<=140737488355328) (hbase:base<=w.heap.size)
  (h:∀ v' w',w'.ownsRow base e size v' (n+m) (xs ++ news)->w.grownBy w' v.ownBlock->(v'.ownBlock=v.ownBlock \/ v'.ownBlock=some w.heap.size)->K (a.put o.dst v') w') :
  if Region.wanted o (yielded ops a.tmps)=true then Oper.wp P o a w K Q else E:=by
 have hw:Region.wanted o (yielded ops a.tmps)=true:=by simp [Region.wanted,hg]
 rw [if_pos hw]
 obtain ⟨v',w',hr,h2,h3,_,h5⟩:=run_append_own_at (P:=P) w base t o.type e i z size bytes ht hi hz hsize hby hzs hsz v n xs hown ad m c news hl hnews h1 h63 hbytes hbase
 unfold Oper.wp execOp
 simp only [ho,resolve,invoke,builtin,Sem.run_bind,Sem.run_pure,Result.andThen_ok,List.map_toArray,List.map_cons,List.map_nil,hs,hx,hr]
 exact h v' w' h2 h3 h5
def onlyN (Q:Exit->Act->World->Prop):Exit->Act->World->Prop
 | .normal,a,w=>Q .normal a w
 | _,_,_=>False
theorem wp_onlyN {P:Program} {c:Code} {Q:Exit->Act->World->Prop} {a:Act} {w:World} (h:c.wp P (onlyN Q) a w):c.wp P Q a w:=
 Code.wp_mono (fun e a w h=>by cases e <;> first | exact h | exact h.elim) h
def likeW (x y:Wt):Bool:=y.t == x.t && y.c == x.c
theorem wait_turn {F:Nat->Prop} {C B m:Nat} {cl:Bool} {v0 v1 v v':Value} {buf:List Int} {S R xs:List Wt} {s:Bool} {x:Wt} {w W w1:World} {tmp:Obj} {E D:Nat}
  (h:ChAt W C B m cl v0 v1 buf S R) (ho:Own F C B v0 v1) (hl:Low w.heap.size C B v0 v1) (hb:Below w.heap.size w W) (hv:v=(if s then v0 else v1)) (hxs:xs=sel s S R)
  (hr:Boxed W E 31 (.int .i64 0)) (hE:w.heap.size<=E) (hK:W.heap[D]?=some (.deferred (some []))) (hD:w.heap.size<=D)
  (hrow:w1.ownsRow 0 145 3 v' (xs.length+1) (flatW xs ++ x.cellsL)) (hg:(W.alloc tmp).drew.grownBy w1 v.ownBlock) (hat:v'.ownBlock=v.ownBlock \/ v'.ownBlock=some (W.alloc tmp).drew.heap.size) :
  Boxed (w1.setCell ⟨C,2+ix s,none⟩ v') E 31 (.int .i64 0)/\Chn (w1.setCell ⟨C,2+ix s,none⟩ v') (Fw F W) C m cl buf (sel s (S ++ [x]) S) (sel s R (R ++ [x]))/\Frm F w (w1.setCell ⟨C,2+ix s,none⟩ v')/\(w1.setCell ⟨C,2+ix s,none⟩ v').heap[D]?=some (.deferred (some [])):=by
 subst hv
 have hbA:Below W.heap.size W (W.alloc tmp).drew:=(below1 W tmp).drew
 have hsz:(W.alloc tmp).drew.heap.size=W.heap.size+1:=World.size_alloc W tmp
 have hvl:=hl.w s
 have hEW:=hr.lt
 have hDW:D<W.heap.size:=(Array.getElem?_eq_some_iff.1 hK).1
 have hC:=hl.c
 have hws:=hb.size
 have hA:=h.below hbA
 have ho2:v'.ownBlock=(if s then v0 else v1).ownBlock \/ ∃ g,v'.ownBlock=some g/\(W.alloc tmp).drew.heap.size<=g:=hat.elim .inl (fun e=>.inr ⟨_,e,Nat.le_refl _⟩)
 have ho3:v'.ownBlock=(if s then v0 else v1).ownBlock \/ ∃ g,v'.ownBlock=some g/\W.heap.size<=g:=hat.elim .inl (fun e=>.inr ⟨_,e,by omega⟩)
 have hrow':w1.ownsRow 0 145 3 v' (xs ++ [x]).length (flatW (xs ++ [x])):=by rw [flatW_snoc,List.length_append];exact hrow
 have hnb:∀ n,w.heap.size<=n->some n ≠ (if s then v0 else v1).ownBlock:=fun n hn e=>by have:=hvl n e.symm;omega
 have hnC:∀ n,w.heap.size<=n->n ≠ C:=fun n hn=>by omega
 refine ⟨?_,?_,?_,?_⟩
 ·exact (Below.heap_setCell _ _ _ _ (hnC E hE)).trans ((hg.block E (by omega) (hnb E hE)).trans ((hbA.block E hEW).trans hr))
 ·have ht:=hA.turn (s:=s) (l:=xs ++ [x]) ho2 hrow' hg
  have hc:=ht.chn (Own.turn ho W ho3)
  rw [hxs] at hc
  cases s
  ·exact hc
  ·exact hc
 ·exact Frm.old (below_nx hb hbA (Nat.le_refl _)) (ho.frm hg v' (2+ix s))
 ·exact (Below.heap_setCell _ _ _ _ (hnC D hD)).trans ((hg.block D (by omega) (hnb D hD)).trans ((hbA.block D hDW).trans hK))
theorem Chn.putObj {W:World} {F:Nat->Prop} {C m:Nat} {cl:Bool} {buf:List Int} {S R:List Wt} (h:Chn W F C m cl buf S R) {D:Nat} {o:Obj} (hK:W.heap[D]?=some o) (hn:o.isCells=false) (o':Obj):Chn (W.putObj D o') F C m cl buf S R:=by
 obtain ⟨B,v0,v1,h,ho⟩:=h.at
 have gs:=grownBy_putObj' W D o'
 have key:∀ k cs t z,W.heap[k]?=some (.cells cs t z)->some k ≠ some D:=fun k cs t z hk e=>by cases e;rw [hk] at hK;cases hK;cases hn
 obtain ⟨vs,f,hraw,_⟩:=id h.ring
 refine ChAt.chn (B:=B) (v0:=v0) (v1:=v1) ⟨(gs.block C h.lt (key _ _ _ _ h.head)).trans h.head,h.ring.kept gs (key _ _ _ _ hraw.2),h.sends.kept gs ?_,h.recvs.kept gs ?_,h.apart⟩ ho
 ·cases e:v0.ownBlock with
  | none=>exact .inl rfl
  | some g=>obtain ⟨cs,hc⟩:=own_at h.sends e;exact .inr (key _ _ _ _ hc)
 ·cases e:v1.ownBlock with
  | none=>exact .inl rfl
  | some g=>obtain ⟨cs,hc⟩:=own_at h.recvs e;exact .inr (key _ _ _ _ hc)
theorem wait_end {F:Nat->Prop} {C m:Nat} {cl:Bool} {buf:List Int} {S R:List Wt} {w W:World} {D E:Nat} (hD:w.heap.size<=D) (t0 t1 t2 t3 t4 t5 t7 t8 t9 t10 t11 t12 t13 t14 t15 t16 t17 t18 t19 t20 t21 t22 t23 t24 t25 t26 t27 t28 t29 t30 t31 t32 t33 t34 t35 t36 t37 t38 t39 t40 t41 t42:Value)
  (hr:Boxed W E 31 (.int .i64 0)) (hc:Chn W (Fw F w) C m cl buf S R) (hF:Frm F w W) (hK:W.heap[D]?=some (.deferred (some []))) :
  bodyPostM Fence.wide 4 Tryz.prog Tryz.f105 (fun e w'=>e=.returned (.int .i64 0)/\Chn w' (Fw F w) C m cl buf S R/\Frm F w w') .ret
   { tmps:=#[t0,t1,t2,t3,t4,t5,.pointer (some ⟨E,0,none⟩),t7,t8,t9,t10,t11,t12,t13,t14,t15,t16,t17,t18,t19,t20,t21,t22,t23,t24,t25,t26,t27,t28,t29,t30,t31,t32,t33,t34,t35,t36,t37,t38,t39,t40,t41,t42],defers:=[{ target:=Target.collected D,args:=#[] }] } W:=by
 refine ⟨by simp,.inl ⟨_,_,rfl,run_takeDeferred hK,?_⟩⟩
 have hg:=grownBy_putObj' W D (.deferred none)
 have hq:∀ r,some D=some r->∃ o,W.heap[r]?=some o/\o.isCells=false:=fun r e=>by cases e;exact ⟨_,hK,rfl⟩
 have a1:=cell_kept hr.cell hg hq
 refine ⟨.int .i64 0,?_,rfl,hc.putObj hK rfl _,hF.next (Frm.of_grown hg (fun k e=>by cases e;exact .inr hD))⟩
 simp [results,Tryz.f105,go_sem,a1]
theorem wait_any {F:Nat->Prop} {C m:Nat} {cl:Bool} {buf:List Int} {S R:List Wt} (s:Bool) (x:Wt) (w:World) (h:Chn w F C m cl buf S R) (hno:∀ y ∈ sel s S R,likeW x y=false) (hl:(sel s S R).length<=900) :
    Calls Tryz.prog 105 #[.pointer (some ⟨C,0,none⟩),.bool s,x.val] w fun e w'=>e=.returned (.int .i64 0)/\Chn w' (Fw F w) C m cl buf (sel s (S ++ [x]) S) (sel s R (R ++ [x]))/\Frm F w w':=by
  obtain ⟨i0,hi,hz0,hz1,hz2⟩:=info_parts infoWait
  obtain ⟨B,v0,v1,h,ho⟩:=h.fl.at
  obtain ⟨xs,hxs⟩:∃ xs,xs=sel s S R:=⟨_,rfl⟩
  obtain ⟨v,hv⟩:∃ v,v=(if s then v0 else v1):=⟨_,rfl⟩
  have hcw:=h.w s
  have hrw:w.ownsRow 0 145 3 v xs.length (flatW xs):=by rw [hv,hxs];exact h.row s
  rw [<- hxs] at hno hl
  rw [<- hv] at hcw
  obtain ⟨w2,hw2⟩:∃ w2,w2=(w.alloc (.cells #[.int .i64 x.t,.int .i64 x.c,.int .i64 x.v] 145)).alloc (.cells #[.int .i64 0] 31):=⟨_,rfl⟩
  have hx2:WtAt w2 w.heap.size x:=by rw [hw2];exact (wtAt_new w x).alloc _
  have hr2:Boxed w2 (w.heap.size+1) 31 (.int .i64 0):=by
    have h1:=Boxed.new (w.alloc (.cells #[.int .i64 x.t,.int .i64 x.c,.int .i64 x.v] 145)) 31 (.int .i64 0)
    rw [World.size_alloc] at h1
    rw [hw2];exact h1
  have hB2:Below w.heap.size w w2:=by rw [hw2];exact Below.al (below1 w _) (by simp) _
  obtain ⟨w4,hw4⟩:∃ w4,w4=(w2.alloc (.cells #[.pointer (some ⟨C,0,none⟩)] 46)).alloc (.cells #[.int .i64 (ix s:Int)] 3):=⟨_,rfl⟩
  have hb24:Below w2.heap.size w2 w4:=by rw [hw4];exact Below.al (below1 w2 _) (by simp) _
  have hc4:Boxed w4 w2.heap.size 46 (.pointer (some ⟨C,0,none⟩)):=by rw [hw4];exact (Boxed.new w2 _ _).alloc _
  have hi4:Boxed w4 (w2.heap.size+1) 3 (.int .i64 (ix s:Int)):=by
    have h1:=Boxed.new (w2.alloc (.cells #[.pointer (some ⟨C,0,none⟩)] 46)) 3 (.int .i64 (ix s:Int))
    rw [World.size_alloc] at h1
    rw [hw4];exact h1
  have hB4:=below_nx hB2 hb24 (Nat.le_refl _)
  have hx4:=hx2.below hb24
  have hr4:=boxed_below hr2 hb24
  have hcell4:=World.grownBy.cell (grown_below hB4) hcw (by simp)
  have hrow4:=hrw.kept (grown_below hB4) (by cases v.ownBlock <;> simp)
  have hsz:w.heap.size+1<w4.heap.size:=hr4.lt
  have hra:=row_any (some ⟨C,0,none⟩) (ix s:Int) w2
  rw [<- hw4] at hra
  have HV:=Lib.hid hv
  have HXS:=Lib.hid hxs
  have HNO:=Lib.hid hno
  refine (callsIn_wide (n:=4)).1 ?_
  refine callsIn_of_wp_marks Tryz.func105 rfl trivial ?_ rfl
  simp only [Tryz.ntmps105,List.size_toArray,List.length_cons,List.length_nil,Nat.reduceAdd,Nat.reduceSub,Array.replicate_succ,Array.replicate_zero,List.push_toArray,List.append_toArray,List.nil_append,List.cons_append]
  clear hcw hrw hx2 hr2 hv hxs hno
  refine wpIn_wide.2 ?_
  unfold Wt.val
  go_wp2_with fail
  refine (rowOf_any s _).mono ?_
  rintro e w' ⟨rfl,rfl⟩
  rw [<- hw2]
  clear hw2
  go_wp2_with fail
  refine hra.mono ?_
  rintro e w4 ⟨rfl,rfl⟩
  go_wp2_with fail
  rw [<- hw4]
  clear hra hw4
  refine (wpIn_wide (n:=4)).1 ?_
  refine wpIn_rangeFunc_ownH rfl (by omega) (gf:=148) (lb:=#[.pointer (some ⟨w2.heap.size,0,none⟩),.pointer (some ⟨w2.heap.size+1,0,none⟩)]) rfl trivial (enters_of Tryz.func148 (by kernel_rfl) rfl)
    (row_stops hc4 hi4 hcell4 hrow4 (by omega) (Below.refl _ _)) (fun h k=>h.trans k) (fun W l o o' hl ho hc hw=>belowK_b (Nat.le_refl _) W l o o' hl ho hc hw) (Below.refl _ _) (fun _=>rfl)
    (fun pre W=>Below w4.heap.size w4 W/\True)
    (fun c pre W=>Hid (∃ y ∈ pre,likeW x y=true)/\c=.ret)
    (OwnFrom.and (ownFrom_below (Nat.le_refl _) (Nat.le_refl _)) (fun _ _ _ _ h _ _=>h))
    (fun c=>OwnFrom.and (fun _ _ _ _ h _ _=>h) (fun _ _ _ _ h _ _=>h))
    ⟨Below.refl _ _,trivial⟩
    (fun y a' W=>∃ X,a' = { tmps:=#[.pointer (some ⟨C,0,none⟩),.bool s,(.agg #[.int .i64 x.t,.int .i64 x.c,.int .i64 x.v]),undef,undef,.pointer (some ⟨w.heap.size,0,none⟩),.pointer (some ⟨w.heap.size+1,0,none⟩),.int .i64 (ix s:Int),.pointer (some ⟨X,0,none⟩),.pointer (some ⟨C,0,none⟩),.bool false,.bool s,.int .i64 (ix s:Int),.pointer (some ⟨C,0,none⟩),.int .i64 (ix s:Int),.func (.func 148) #[] #[.pointer (some ⟨w2.heap.size,0,none⟩),.pointer (some ⟨w2.heap.size+1,0,none⟩)],y.val,undef,undef,undef,undef,undef,undef,undef,undef,undef,undef,undef,undef,undef,undef,undef,undef,undef,undef,undef,undef,undef,undef,undef,undef,undef,undef],defers:=[] }/\WtAt W X y/\w4.heap.size<=X) ?abides ?assign ?body ?done ?stop
  case abides=>
    intro y a' u W W' row hs hg hr
    obtain ⟨X,h1,h2,h3⟩:=hs
    exact ⟨X,h1,wtAt_abides X (fun _:Unit=>y) _ () W W' row h2 hg hr,h3⟩
  case assign=>
    rintro l pre y W K ⟨hB,-⟩ hK
    unfold Wt.val at hK ⊢
    gi_wp2
    exact hK _ _ ((KeepsOthers.alloc W _).from _) ((below1 W _).mono hB.size) ⟨Below.al hB hB.size _,trivial⟩ ⟨_,rfl,wtAt_new W y,hB.size⟩
  case body=>
    rintro l pre y a' W hl2 hr ⟨hB,-⟩ ⟨X,rfl,hX,hXl⟩ hlt
    have hxW:=hx4.below hB
    have hrW:=boxed_below hr4 hB
    have c0:=hX.c0
    have c1:=hX.c1
    have d0:=hxW.c0
    have d1:=hxW.c1
    have r0:=hrW.cell
    have r1:=hrW.frozen
    unfold Wt.val
    by_cases h0:y.t=x.t
    · have t0:(y.t == x.t)=true:=beq_iff_eq.2 h0
      by_cases h1:y.c=x.c
      · have t1:(y.c == x.c)=true:=beq_iff_eq.2 h1
        have HL:Hid (∃ z ∈ pre ++ [y],likeW x z=true):=Lib.hid ⟨y,by simp,by unfold likeW;rw [t0,t1];rfl⟩
        clear h0 h1
        gi_wp2
        exact ⟨(KeepsOthers.setCell _ _ _).from _,HL,rfl⟩
      · have t1:(y.c == x.c)=false:=beq_eq_false_iff_ne.2 h1
        clear h0
        gi_wp2
        exact ⟨KeepsFrom.refl _ _,Below.refl _ _,hB,trivial⟩
    · have t0:(y.t == x.t)=false:=beq_eq_false_iff_ne.2 h0
      gi_wp2
      exact ⟨KeepsFrom.refl _ _,Below.refl _ _,hB,trivial⟩
  case done=>
    rintro D ys W hD - ⟨hB,-⟩ hK
    have hbW:=below_nx hB4 hB (Nat.le_refl _)
    have hA:=h.below hbW
    have hxW:=hx4.below hB
    have hrW:=boxed_below hr4 hB
    have hcW:=hA.w s
    have hfW:=hA.frozen (2+ix s)
    have hwW:=hA.row s
    rw [<- HV.out] at hcW hwW
    rw [show (if s=true then S else R)=xs from HXS.out.symm] at hwW
    have hlow:=h.low
    have hi0:(0:Int)<=(ix s:Int):=by omega
    have hi2:(ix s:Int)<2:=by have:=ix_lt s;omega
    have hneC:v.ownBlock ≠ some C:=by rw [HV.out];exact h.ne_w s
    have hDw:w.heap.size<=D:=by omega
    obtain ⟨va,vc,rfl⟩:=owns_slice' hwW
    have c0:=hxW.c0
    have c1:=hxW.c1
    have c2:=hxW.c2
    have hne2:∀ (j:Nat) (u:Value),x.cellsL[j]?=some u->(W.alloc (.cells #[.int .i64 x.t,.int .i64 x.c,.int .i64 x.v] 145)).drew.cell? (Addr.add ⟨W.heap.size,0,none⟩ j)=some u:=fun j u hj=>wt_cell (wtAt_new W x) j u hj
    have h1:=wt_one x
    have hrow2:(W.alloc (.cells #[.int .i64 x.t,.int .i64 x.c,.int .i64 x.v] 145)).drew.ownsRow 0 145 3 (.slice va xs.length vc) xs.length (flatW xs):=(hwW.alloc _).drew
    have hcA:(W.alloc (.cells #[.int .i64 x.t,.int .i64 x.c,.int .i64 x.v] 145)).cell? ⟨C,2+ix s,none⟩=some (.slice va xs.length vc):=World.grownBy.cell (World.grownBy_alloc W _ none) hcW (by simp)
    have hcAd:(W.alloc (.cells #[.int .i64 x.t,.int .i64 x.c,.int .i64 x.v] 145)).drew.cell? ⟨C,2+ix s,none⟩=some (.slice va xs.length vc):=hcA
    have hCl:C<(W.alloc (.cells #[.int .i64 x.t,.int .i64 x.c,.int .i64 x.v] 145)).drew.heap.size:=by show C<(W.alloc _).heap.size;simp;have:=hA.lt;omega
    have hfAd:(W.alloc (.cells #[.int .i64 x.t,.int .i64 x.c,.int .i64 x.v] 145)).drew.frozen? ⟨C,2+ix s,none⟩=false:=(World.frozen?_of_block ((World.grownBy_alloc W _ none).block C hA.lt (by simp))).trans hfW
    have hbx:∀ w1,(W.alloc (.cells #[.int .i64 x.t,.int .i64 x.c,.int .i64 x.v] 145)).drew.grownBy w1 (Value.slice va xs.length vc).ownBlock->w1.cell? ⟨C,2+ix s,none⟩=some (.slice va xs.length vc)/\w1.frozen? ⟨C,2+ix s,none⟩=false:=fun w1 hg=>
      ⟨hg.cell hcAd (fun e=>hneC e.symm),(World.frozen?_of_block (hg.block C hCl (fun e=>hneC e.symm))).trans hfAd⟩
    have HT:=fun (w1:World) (v':Value) hr hg ha=>wait_turn (F:=Fl F w) (w:=w) (w1:=w1) (v':=v') (x:=x) (tmp:=(.cells #[.int .i64 x.t,.int .i64 x.c,.int .i64 x.v] 145)) hA ho hlow hbW HV.out HXS.out hrW (by omega) hK hDw hr hg ha
    have hsz2:0<=(W.alloc (.cells #[.int .i64 x.t,.int .i64 x.c,.int .i64 x.v] 145)).drew.heap.size:=Nat.zero_le _
    clear hA hxW hrW hwW hfAd hcAd hneC
    go_wp2_with fail
    refine wp_onlyN ?_
    go_region_law (refine step_append_at rfl (.tmp 36) (.tmp 38) 90 rfl 0 145 i0 (.agg #[.int .i64 0,.int .i64 0,.int .i64 0]) 3 24 Tryz.underlying90 hi hz0 hz1 hz2 rfl (by decide) (.slice va xs.length vc) xs.length (flatW xs) rfl hrow2 ⟨W.heap.size,0,none⟩ 1 1 x.cellsL rfl rfl hne2 h1 (by unfold maxLen;omega) (by omega) hsz2 ?_
                   intro v1' w1 hown1 hg1 hat1
                   obtain ⟨g1,cap1,rfl⟩:=ownsRow_succ hown1
                   obtain ⟨hv1,hf1⟩:=hbx w1 hg1)
    all_goals obtain ⟨hr3,hc3,hF3,hK3⟩:=HT w1 _ hown1 hg1 hat1
    all_goals simp only [onlyN]
    all_goals obtain ⟨W3,hW3⟩:∃ W3,W3=w1.setCell ⟨C,2+ix s,none⟩ (.slice (some ⟨g1,0,none⟩) (xs.length+1) cap1):=⟨_,rfl⟩
    all_goals rw [<- hW3] at hr3 hc3 hF3 hK3 ⊢
    all_goals have r0:=hr3.cell
    all_goals have r1:=hr3.frozen
    all_goals have hnE : ¬ Fw (Fl F w) W (w.heap.size+1):=fun e=>e.elim (fun e=>by have:=e.2;omega) (fun e=>by have:=hr4.lt;have:=hB.size;omega)
    all_goals have hc5:=(hc3.off hnE 0 (.int .i64 0)).mono (G:=Fw F w) (fun k e=>e.elim (fun e=>.inl e.1) (fun e=>.inr (Nat.le_trans hbW.size e)))
    all_goals have hF5:=(hF3.mono (G:=F) (fun k e=>e.1)).next (Frm.set (F:=Fw F w) W3 (p:=⟨w.heap.size+1,0,none⟩) (.int .i64 0) (.inr (by simp)))
    all_goals have hr5:=hr3.set (.int .i64 0)
    all_goals have hK5:=(KeepsOthers.setCell W3 ⟨w.heap.size+1,0,none⟩ (.int .i64 0)).same D _ hK3 rfl
    all_goals clear hW3 HT hbx hcW hcA hfW hown1 hg1 hat1 hv1 hf1 hne2 hrow2 c0 c1 c2 h1
    all_goals go_wp2_with fail
    all_goals exact wait_end hDw _ _ _ _ _ _ _ _ _ _ _ _ _ _ _ _ _ _ _ _ _ _ _ _ _ _ _ _ _ _ _ _ _ _ _ _ _ _ _ _ _ _ hr5 hc5 hF5 hK5
  case stop=>
    rintro D c pre W hD hpre ⟨HL,rfl⟩ hK
    obtain ⟨y,hy,hyl⟩:=HL.out
    exact absurd ((HNO.out y (hpre.subset hy)).symm.trans hyl) (by decide)
end Go.Proofs.YtnfbncgfpmcpnaaGreat.Mch
