/-
  ReplayNext: its walks, part 16.
-/
import Derived.Test.YtnfbncgfpmcpnaaGreatQ15
set_option maxRecDepth 100000
set_option maxHeartbeats 12800000
namespace Go.Proofs.YtnfbncgfpmcpnaaGreat.Mch
open Go.RowKit
section
variable {C B m:Nat} {cl:Bool} {v0 v1:Value} {buf:List Int} {S R:List Wt}
theorem closed_any (w:World) (h:ChAt w C B m cl v0 v1 buf S R) :
  Calls Tryz.prog 82 #[.pointer (some ⟨C,0,none⟩)] w fun e w'=>e=.returned (.bool cl)/\w'=w:=by
 have hc:=h.c
 clear h
 go_enter Tryz.func82,Tryz.ntmps82
 go_wp2_with fail
 go_ret
 exact ⟨rfl,rfl⟩
theorem close_any {F:Nat->Prop} (w:World) (h:Chn w F C m cl buf S R) :
  Calls Tryz.prog 103 #[.pointer (some ⟨C,0,none⟩)] w fun e w'=>(∃ k:Int,e=.returned (.int .i64 k))/\Chn w' F C m true buf S R/\Frm F w w':=by
 obtain ⟨B,v0,v1,h,ho⟩:=h.at
 have hc:=h.c
 have hf:=h.frozen 1
 cases cl with
 | true=>
  have HH:=Lib.hid (h.chn ho)
  clear h
  go_enter Tryz.func103,Tryz.ntmps103
  go_wp2_with fail
  go_ret
  exact ⟨⟨_,rfl⟩,HH.out,Frm.refl _ _⟩
 | false=>
  have gs:=grownBy_setCell w ⟨C,1,none⟩ (.bool true)
  have HH:Hid (Chn (w.setCell ⟨C,1,none⟩ (.bool true)) F C m true buf S R/\Frm F w (w.setCell ⟨C,1,none⟩ (.bool true))):=Lib.hid ⟨by
   refine ChAt.chn (B:=B) (v0:=v0) (v1:=v1) ⟨?_,h.ring.kept gs (fun e=>h.ne_ring (by cases e;rfl)),h.sends.kept gs ?_,h.recvs.kept gs ?_,h.apart⟩ ho
   ·have:=heap_setCell_same (k:=1) (.bool true) h.head
    simpa using this
   ·cases e:v0.ownBlock with
    | none=>exact .inl rfl
    | some g=>exact .inr (fun e2=>h.ne_s.1 (by rw [e];exact e2))
   ·cases e:v1.ownBlock with
    | none=>exact .inl rfl
    | some g=>exact .inr (fun e2=>h.ne_r.1 (by rw [e];exact e2)),Frm.set w _ ho.c⟩
  clear h gs
  go_enter Tryz.func103,Tryz.ntmps103
  go_wp2_with fail
  go_ret
  exact ⟨⟨_,rfl⟩,HH.out⟩
end
theorem cloneW_any {b:Nat} {v:Value} {l:List Wt} (w:World) (h:w.ownsRow b 145 3 v l.length (flatW l)) (hn:l.length<=1000000) :
  Calls Tryz.prog 73 #[v] w fun e w'=>∃ v',e=.returned v'/\w'.ownsRow w.heap.size 145 3 v' l.length (flatW l)/\Below w.heap.size w w':=by
 obtain ⟨n,hnl⟩:∃ n,n=l.length:=⟨_,rfl⟩
 obtain ⟨xs,hxs⟩:∃ xs,xs=flatW l:=⟨_,rfl⟩
 have h1:∀ u ∈ xs,u.oneCell'=true:=by rw [hxs];exact flatW_one l
 have hl:xs.length=n * 3:=by rw [hxs,hnl];exact flatW_len l
 rw [<- hnl, <- hxs] at h ⊢
 rw [<- hnl] at hn
 clear hnl hxs
 rcases id h.2 with ⟨rfl,hn0⟩ | ⟨g,cap,cur,rfl,hg,hb,_⟩
 ·have qT:∀ w:World,(binOp .eql 90 (.slice none 0 0) (.slice none 0 0)).run Tryz.prog w=.ok (.bool true) w:=fun w=>Lib.run_eql_slice_nil w 90 145 none 0 0 0 0 Tryz.underlying90
  have HH:Hid (n=0/\xs = []):=Lib.hid ⟨hn0,List.eq_nil_of_length_eq_zero (by omega)⟩
  clear h hn0 hl hn h1
  go_enter Tryz.func73,Tryz.ntmps73
  go_wp2_with fail
  go_ret
  obtain ⟨rfl,rfl⟩:=HH.out
  exact ⟨_,rfl,World.ownsRow_nil _ _ _ _,Below.refl _ _⟩
 ·have qT:∀ w:World,(binOp .eql 90 (.slice (some ⟨g,0,none⟩) n cap) (.slice none 0 0)).run Tryz.prog w=.ok (.bool false) w:=fun w=>Lib.run_eql_slice_nil w 90 145 (some ⟨g,0,none⟩) n cap 0 0 Tryz.underlying90
  obtain ⟨i0,hi,hz0,hz1,hz2⟩:=info_parts infoWait
  have hb0:Below w.heap.size w (w.alloc (.cells #[] 145)):=below1 w _
  have hcs:∀ j u,xs[j]?=some u->(w.alloc (.cells #[] 145)).cell? (Addr.add ⟨g,0,none⟩ j)=some u:=fun j u hj=>(h.alloc (.cells #[] 145)).cells (g:=g) rfl j u hj
  clear h hb
  go_enter Tryz.func73,Tryz.ntmps73
  go_wp2_with (at_builtin;refine wpList_append_own _ rfl _ _ 90 rfl w.heap.size 145 i0 (.agg #[.int .i64 0,.int .i64 0,.int .i64 0]) 3 24 Tryz.underlying90 hi hz0 hz1 hz2 rfl (by decide) _ 0 [] rfl (World.ownsRow_made w #[] 0 (Nat.le_refl _) (by decide) rfl) ⟨g,0,none⟩ n cap xs rfl ?c0 ?c1 ?c2 ?c3 ?c4 ?c5 ?_)
  case c0=>omega
  case c1=>exact hcs
  case c2=>exact h1
  case c3=>unfold maxLen;omega
  case c4=>omega
  try (case c5=>first | exact Nat.le_refl _ | omega | (simp;done) | (simp;omega))
  intro v1 w1 hown hgrow hnil
  have hown':w1.ownsRow w.heap.size 145 3 v1 n xs:=by simpa using hown
  have hb1:Below w.heap.size w w1:=hb0.trans ⟨hgrow.os,hgrow.tape,hgrow.output,Nat.le_trans (by simp) hgrow.size,fun k hk=>hgrow.block k (by simp;omega) (fun e=>by have:k=w.heap.size:=Option.some.inj e;omega)⟩
  obtain ⟨a',c',rfl⟩:=owns_slice' hown'
  clear hown hgrow hnil hcs
  go_wp2_with fail
  go_ret
  exact ⟨_,rfl,hown',hb1⟩
section
variable {W w3:World} {F:Nat->Prop} {C B m:Nat} {cl:Bool} {v0 v1 v':Value} {buf:List Int} {S R l:List Wt} {s:Bool}
theorem ChAt.renew (h:ChAt W C B m cl v0 v1 buf S R) (ho:∀ g,v'.ownBlock=some g->W.heap.size<=g) (hr:w3.ownsRow 0 145 3 v' l.length (flatW l)) (hb:Below W.heap.size W w3) :
  ChAt (w3.setCell ⟨C,2+ix s,none⟩ v') C B m cl (if s then v' else v0) (if s then v1 else v') buf (if s then l else S) (if s then R else l):=by
 have gs:=grownBy_setCell w3 ⟨C,2+ix s,none⟩ v'
 have h3:=h.below hb
 have hlow:=h.low
 have hrow:(w3.setCell ⟨C,2+ix s,none⟩ v').ownsRow 0 145 3 v' l.length (flatW l):=hr.kept gs (by
  cases e:v'.ownBlock with
  | none=>exact .inl rfl
  | some g=>exact .inr (fun e2=>by have:=ho g e;have:=h.lt;cases e2;simp at this;omega))
 have ks:(w3.setCell ⟨C,2+ix s,none⟩ v').ownsRow 0 145 3 v0 S.length (flatW S):=h3.sends.kept gs (by
  cases e:v0.ownBlock with
  | none=>exact .inl rfl
  | some g=>exact .inr (fun e2=>h.ne_s.1 (by rw [e];cases e2;rfl)))
 have kr:(w3.setCell ⟨C,2+ix s,none⟩ v').ownsRow 0 145 3 v1 R.length (flatW R):=h3.recvs.kept gs (by
  cases e:v1.ownBlock with
  | none=>exact .inl rfl
  | some g=>exact .inr (fun e2=>h.ne_r.1 (by rw [e];cases e2;rfl)))
 have kb:=h3.ring.kept gs (fun e=>h.ne_ring (by cases e;rfl))
 cases s
 ·exact ⟨by simpa [ix] using heap_setCell_same (k:=3) v' h3.head,kb,ks,hrow,fun g e1 e2=>by have e2':v'.ownBlock=some g:=e2;have:=ho g e2';have:=hlow.s g e1;omega⟩
 ·exact ⟨by simpa [ix] using heap_setCell_same (k:=2) v' h3.head,kb,hrow,kr,fun g e1 e2=>by have e1':v'.ownBlock=some g:=e1;have:=ho g e1';have:=hlow.r g e2;omega⟩
theorem Own.renew (h:Own F C B v0 v1) (W:World) (ho:∀ g,v'.ownBlock=some g->W.heap.size<=g):Own (Fw F W) C B (if s then v' else v0) (if s then v1 else v'):=by
 cases s
 ·exact ⟨.inl h.c,.inl h.b,fun g e=>.inl (h.s g e),fun g e=>.inr (ho g e)⟩
 ·exact ⟨.inl h.c,.inl h.b,fun g e=>.inr (ho g e),fun g e=>.inl (h.r g e)⟩
theorem owns_ge {b:Nat} {e:TypeId} {v:Value} {k n:Nat} {xs:List Value} (h:W.ownsRow b e k v n xs):∀ g,v.ownBlock=some g->b<=g:=by
 rcases h.2 with ⟨rfl,_⟩ | ⟨g,cap,cur,rfl,hg,_⟩
 ·intro g e;simp [Value.ownBlock] at e
 ·intro g' e
  obtain rfl:g=g':=by simpa [Value.ownBlock] using e
  exact hg
theorem owns_zero {b:Nat} {e:TypeId} {v:Value} {k n:Nat} {xs:List Value} (h:W.ownsRow b e k v n xs):W.ownsRow 0 e k v n xs:=by
 refine ⟨h.1,?_⟩
 rcases h.2 with h0 | ⟨g,cap,cur,rfl,_,r⟩
 ·exact .inl h0
 ·exact .inr ⟨g,cap,cur,rfl,Nat.zero_le _,r⟩
end
def Cpd (n:Nat) (W:World) (D k m:Nat) (cl:Bool) (buf:List Int) (S R:List Wt):Prop:=
 Chn W (fun i=>n<=i) D m cl buf (if 1<=k then S else []) (if 2<=k then R else [])
theorem ccopy_any {C m:Nat} {cl:Bool} {buf:List Int} {S R:List Wt} {F:Nat->Prop} (w:World) (h:Chn w F C m cl buf S R) (hlS:S.length<=1000) (hlR:R.length<=1000) :
  Calls Tryz.prog 35 #[.pointer (some ⟨C,0,none⟩)] w fun e w'=>∃ D,e=.returned (.pointer (some ⟨D,0,none⟩))/\Chn w' (fun i=>w.heap.size<=i) D m cl buf S R/\Below w.heap.size w w':=by
 obtain ⟨B,v0,v1,h,-⟩:=h.at
 have hb:=h.b
 have hc:=h.c
 have hd:w.drew.cell? ⟨C,0,none⟩=some (.pointer (some ⟨B,0,none⟩)):=hb
 have hcd:w.drew.cell? ⟨C,1,none⟩=some (.bool cl):=hc
 have hcp:=copy_ring w.drew h.ring
 go_enter Tryz.func35,Tryz.ntmps35
 go_wp2_with fail
 go_cut [3] from 7 to 17 (fun dv W=>∃ D,dv=.pointer (some ⟨D,0,none⟩)/\Below w.heap.size w W/\Cpd w.heap.size W D 0 m cl buf S R)
 case first=>
  have hk:∀ w',w.drew.grownBy w' none->w'.cell? ⟨C,1,none⟩=some (.bool cl):=fun w' hg=>hg.cell hcd (by simp)
  go_region_with (go_at_call 72;with_reducible refine hcp.mono ?_;rintro e w1 ⟨rfl,hR,hg⟩;have hc1:=hk w1 hg)
  all_goals go_wp2_with fail
  all_goals go_meet
  all_goals have hb1:Below w.heap.size w w1:=((Below.refl _ w).drew).grown hg (Nat.le_refl _) (fun _ e=>by cases e)
  all_goals exact ⟨_,rfl,Below.al hb1 hb1.size _,⟨w.heap.size,_,_,⟨World.alloc_heap_new w1 _,hR.below (below1 w1 _),World.ownsRow_nil _ _ _ _,World.ownsRow_nil _ _ _ _,fun g e=>by simp [Value.ownBlock] at e⟩,hb1.size,Nat.le_refl _,fun g e=>by simp [Value.ownBlock] at e,fun g e=>by simp [Value.ownBlock] at e⟩⟩
 case rest=>
  obtain ⟨D,rfl,hB,hC⟩:=hcut
  clear hb hc hd hcd hcp
  go_wp2_with fail
  go_loopw [18] (fun iv wr=>∃ k:Nat,k<=2/\iv=.int .i64 (k:Int)/\Below w.heap.size w wr/\Cpd w.heap.size wr D k m cl buf S R) (fun iv _=>2 - (intOf iv).toNat)
  case atStart=>exact ⟨0,by omega,rfl,hB,hC⟩
  case round=>
   clear hB hC
   obtain ⟨k,hk,rfl,hB,hC⟩:=hrel
   by_cases hlt:k<2
   ·obtain ⟨s,hs⟩:∃ s,ix s=k:=by
     rcases (show k=0 \/ k=1 by omega) with rfl | rfl
     ·exact ⟨true,rfl⟩
     ·exact ⟨false,rfl⟩
    have hlt':(k:Int)<2:=by omega
    have q0:(0:Int)<=(k:Int):=by omega
    have hr:=h.below hB
    obtain ⟨b',u0,u1,hd,hod⟩:=hC.at
    have x0:=hr.w s
    have x1:=hd.w s
    have x2:=hd.frozen (2+ix s)
    have xr:=hr.row s
    rw [hs] at x0 x1 x2
    obtain ⟨v,hv⟩:∃ v,v=(if s then v0 else v1):=⟨_,rfl⟩
    rw [<- hv] at x0 xr
    have x0d:wr.drew.cell? ⟨C,2+k,none⟩=some v:=x0
    have hcl:=cloneW_any wr.drew xr.drew (by cases s <;> simp <;> omega)
    have hkD:∀ w3,Below wr.drew.heap.size wr.drew w3->(∃ u,w3.cell? ⟨D,2+k,none⟩=some u)/\w3.frozen? ⟨D,2+k,none⟩=false:=fun w3 hb=>by
     have h3:=hd.below (W':=w3) ((Below.refl _ wr).drew.trans hb)
     refine ⟨⟨_,by have:=h3.w s;rw [hs] at this;exact this⟩,by have:=h3.frozen (2+ix s);rw [hs] at this;exact this⟩
    have HD:∀ (w3:World) (v':Value),w3.ownsRow wr.drew.heap.size 145 3 v' (if s then S else R).length (flatW (if s then S else R))->Below wr.drew.heap.size wr.drew w3->
      Below w.heap.size w (w3.setCell ⟨D,2+k,none⟩ v')/\Cpd w.heap.size (w3.setCell ⟨D,2+k,none⟩ v') D (k+1) m cl buf S R:=by
     intro w3 v' hrow hb
     have hb':Below wr.heap.size wr w3:=(Below.refl _ wr).drew.trans hb
     refine ⟨(hB.trans (hb'.mono hB.size)).setCell hod.c _,?_⟩
     have h3:=(hd.renew (s:=s) (owns_ge hrow) (owns_zero hrow) hb').chn (hod.renew wr (owns_ge hrow))
     rw [hs] at h3
     have h4:=h3.mono (G:=fun i=>w.heap.size<=i) (fun i e=>e.elim id (fun e=>Nat.le_trans hB.size e))
     unfold Cpd
     cases s
     ·obtain rfl:k=1:=hs.symm
      simpa using h4
     ·obtain rfl:k=0:=hs.symm
      simpa using h4
    obtain ⟨l,hl⟩:∃ l,l=(if s then S else R):=⟨_,rfl⟩
    rw [<- hl] at hcl HD
    clear hr hd hod xr hC x0 x1 x2 hv hl
    go_wp2_with fail
    go_region_with (go_at_call 73;with_reducible refine hcl.mono ?_;rintro e w3 ⟨v',rfl,hrow3,hb3⟩;obtain ⟨⟨u3,hc3⟩,hf3⟩:=hkD w3 hb3;obtain ⟨a3,c3,rfl⟩:=owns_slice' hrow3)
    all_goals obtain ⟨r1,r2⟩:=HD w3 _ hrow3 hb3
    all_goals go_wp2_with fail
    all_goals go_roundw
    all_goals first
     | exact ⟨k+1,by omega,by go_num,r1,r2⟩
     | (simp [intOf];omega)
   ·obtain rfl:k=2:=by omega
    have hlt' : ¬ (2:Int)<2:=by omega
    go_wp2_with fail
    go_ret
    exact ⟨D,rfl,by simpa [Cpd] using hC,hB⟩
open Go.RowKit
def GtAt (W:World) (B:Nat) (g:Gt):Prop:=W.heap[B]?=some (.cells #[.int .u8 (g.k:Int),.int .i64 g.p.t,.int .i64 g.p.c,.int .i64 g.p.v,.int .i64 g.v,.bool g.ok,.int .i64 g.u] 184 (0,0))
def put7 (W:World) (B:Nat) (g:Gt):World:=((((((W.setCell ⟨B,0,none⟩ (.int .u8 (g.k:Int))).setCell ⟨B,1,none⟩ (.int .i64 g.p.t)).setCell ⟨B,2,none⟩ (.int .i64 g.p.c)).setCell ⟨B,3,none⟩ (.int .i64 g.p.v)).setCell ⟨B,4,none⟩ (.int .i64 g.v)).setCell ⟨B,5,none⟩ (.bool g.ok)).setCell ⟨B,6,none⟩ (.int .i64 g.u)
section
variable {W W':World} {B:Nat} {g:Gt}
theorem GtAt.lt (h:GtAt W B g):B<W.heap.size:=(Array.getElem?_eq_some_iff.1 h).1
theorem GtAt.of_block (h:GtAt W B g) (hb:W'.heap[B]?=W.heap[B]?):GtAt W' B g:=hb.trans h
theorem GtAt.below (h:GtAt W B g) (hb:Below W.heap.size W W'):GtAt W' B g:=h.of_block (hb.block B h.lt)
theorem GtAt.c0 (h:GtAt W B g):W.cell? ⟨B,0,none⟩=some (.int .u8 (g.k:Int)):=by simp [World.cell?,show W.heap[B]?=_ from h]
theorem GtAt.c1 (h:GtAt W B g):W.cell? ⟨B,1,none⟩=some (.int .i64 g.p.t):=by simp [World.cell?,show W.heap[B]?=_ from h]
theorem GtAt.c2 (h:GtAt W B g):W.cell? ⟨B,2,none⟩=some (.int .i64 g.p.c):=by simp [World.cell?,show W.heap[B]?=_ from h]
theorem GtAt.c3 (h:GtAt W B g):W.cell? ⟨B,3,none⟩=some (.int .i64 g.p.v):=by simp [World.cell?,show W.heap[B]?=_ from h]
theorem GtAt.c4 (h:GtAt W B g):W.cell? ⟨B,4,none⟩=some (.int .i64 g.v):=by simp [World.cell?,show W.heap[B]?=_ from h]
theorem GtAt.c5 (h:GtAt W B g):W.cell? ⟨B,5,none⟩=some (.bool g.ok):=by simp [World.cell?,show W.heap[B]?=_ from h]
theorem GtAt.c6 (h:GtAt W B g):W.cell? ⟨B,6,none⟩=some (.int .i64 g.u):=by simp [World.cell?,show W.heap[B]?=_ from h]
theorem GtAt.frozen (h:GtAt W B g) (k:Nat):W.frozen? ⟨B,k,none⟩=false:=by simp [World.frozen?,show W.heap[B]?=_ from h]
theorem gtAt_new (W:World) (g:Gt):GtAt (W.alloc (.cells #[.int .u8 (g.k:Int),.int .i64 g.p.t,.int .i64 g.p.c,.int .i64 g.p.v,.int .i64 g.v,.bool g.ok,.int .i64 g.u] 184)) W.heap.size g:=World.alloc_heap_new W _
theorem GtAt.put7 (h:GtAt W B g) (z:Gt):GtAt (put7 W B z) B z:=by
 have h0:=heap_setCell_same (k:=0) (.int .u8 (z.k:Int)) h
 have h1:=heap_setCell_same (k:=1) (.int .i64 z.p.t) h0
 have h2:=heap_setCell_same (k:=2) (.int .i64 z.p.c) h1
 have h3:=heap_setCell_same (k:=3) (.int .i64 z.p.v) h2
 have h4:=heap_setCell_same (k:=4) (.int .i64 z.v) h3
 have h5:=heap_setCell_same (k:=5) (.bool z.ok) h4
 have h6:=heap_setCell_same (k:=6) (.int .i64 z.u) h5
 simpa [GtAt,YtnfbncgfpmcpnaaGreat.Mch.put7] using h6
end
section
variable {w wa W W':World} {F:Nat->Prop} {C m:Nat} {cl:Bool} {buf:List Int} {S R:List Wt}
def Fl (F:Nat->Prop) (w:World):Nat->Prop:=fun k=>F k/\k<w.heap.size
theorem Chn.fl (h:Chn w F C m cl buf S R):Chn w (Fl F w) C m cl buf S R:=by
 obtain ⟨B,v0,v1,h,ho⟩:=h.at
 have hl:=h.low
 exact h.chn ⟨⟨ho.c,hl.c⟩,⟨ho.b,hl.b⟩,fun g e=>⟨ho.s g e,hl.s g e⟩,fun g e=>⟨ho.r g e,hl.r g e⟩⟩
theorem Chn.off (h:Chn W F C m cl buf S R) {n:Nat} (hn : ¬ F n) (k:Nat) (a:Value):Chn (W.setCell ⟨n,k,none⟩ a) F C m cl buf S R:=by
 obtain ⟨B,v0,v1,h,ho⟩:=h.at
 have gs:=grownBy_setCell W ⟨n,k,none⟩ a
 refine ChAt.chn (B:=B) (v0:=v0) (v1:=v1) ⟨(Below.heap_setCell _ _ _ C (fun e=>hn (by rw [show n=C from e.symm];exact ho.c))).trans h.head,h.ring.kept gs (fun e=>hn (by cases e;exact ho.b)),h.sends.kept gs ?_,h.recvs.kept gs ?_,h.apart⟩ ho
 ·cases e:v0.ownBlock with
  | none=>exact .inl rfl
  | some g=>exact .inr (fun e2=>hn (by cases e2;exact ho.s _ e))
 ·cases e:v1.ownBlock with
  | none=>exact .inl rfl
  | some g=>exact .inr (fun e2=>hn (by cases e2;exact ho.r _ e))
theorem Chn.put7 (h:Chn W F C m cl buf S R) {n:Nat} (hn : ¬ F n) (g:Gt):Chn (put7 W n g) F C m cl buf S R:=
 ((((((h.off hn 0 _).off hn 1 _).off hn 2 _).off hn 3 _).off hn 4 _).off hn 5 _).off hn 6 _
theorem Frm.put7 (h:Frm F w W) {n:Nat} (hn:w.heap.size<=n) (g:Gt):Frm F w (put7 W n g):=
 ((((((h.next (Frm.set W _ (.inr hn))).next (Frm.set _ _ (.inr hn))).next (Frm.set _ _ (.inr hn))).next (Frm.set _ _ (.inr hn))).next (Frm.set _ _ (.inr hn))).next (Frm.set _ _ (.inr hn))).next (Frm.set _ _ (.inr hn))
theorem Frm.trans_new {G:Nat->Prop} {w1 w2:World} (h:Frm F w w1) (k:Frm G w1 w2) (hG:∀ i,G i->F i \/ w.heap.size<=i):Frm F w w2:=h.next (k.mono hG)
theorem ChAt.ringed {B m:Nat} {v0 v1:Value} {buf':List Int} (h:ChAt W C B m cl v0 v1 buf S R) (hR:Rng W' B m buf') (hg:W.grownBy W' (some B)):ChAt W' C B m cl v0 v1 buf' S R:=by
 refine ⟨(hg.block C h.lt (fun e=>h.ne_ring (by cases e;rfl))).trans h.head,hR,h.sends.kept hg ?_,h.recvs.kept hg ?_,h.apart⟩
 ·cases e:v0.ownBlock with
  | none=>exact .inl rfl
  | some g=>exact .inr (fun e2=>h.ne_s.2 (by rw [e];exact e2))
 ·cases e:v1.ownBlock with
  | none=>exact .inl rfl
  | some g=>exact .inr (fun e2=>h.ne_r.2 (by rw [e];exact e2))
theorem Chn.ring (h:Chn W F C m cl buf S R):∃ B,W.cell? ⟨C,0,none⟩=some (.pointer (some ⟨B,0,none⟩)) /\
  (Calls Tryz.prog 176 #[.pointer (some ⟨B,0,none⟩)] W fun e w'=>e=.returned (.tuple #[.int .i64 (buf.head?.getD 0),.int .i64 (takeE buf)])/\Chn w' F C m cl buf.tail S R/\Frm F W w') /\
  ∀ v,Calls Tryz.prog 175 #[.pointer (some ⟨B,0,none⟩),.int .i64 v] W fun e w'=>e=.returned (.int .i64 (putE m buf))/\Chn w' F C m cl (putL m buf v) S R/\Frm F W w':=by
 obtain ⟨B,v0,v1,h,ho⟩:=h.at
 exact ⟨B,h.b,(take_ring W h.ring).mono fun _ _ ⟨h1,h2,h3⟩=>⟨h1,(h.ringed h2 h3).chn ho,Frm.of_grown h3 (fun k e=>by cases e;exact ho.b)⟩,
  fun v=>(put_ring v W h.ring).mono fun _ _ ⟨h1,h2,h3⟩=>⟨h1,(h.ringed h2 h3).chn ho,Frm.of_grown h3 (fun k e=>by cases e;exact ho.b)⟩⟩
theorem deed_end {w1 w2:World} (hwa:Below w.heap.size w wa) (hs:w.heap.size<wa.heap.size) (hc:Chn w1 (Fw (Fl F w) wa) C m cl buf S R) (hF:Frm (Fl F w) wa w1) (hb:Below w1.heap.size w1 w2) (g:Gt) :
  Chn (put7 w2 w.heap.size g) (Fw F w) C m cl buf S R/\Frm F w (put7 w2 w.heap.size g):=by
 refine ⟨((hc.below hb).put7 ?_ g).mono ?_,(Frm.old hwa ((hF.mono (fun k e=>e.1)).next ?_)).put7 (Nat.le_refl _) g⟩
 ·rintro (h | h)
  ·have:=h.2;omega
  ·omega
 ·rintro k (h | h)
  ·exact .inl h.1
  ·exact .inr (by omega)
 ·exact Frm.of_below hb _
theorem res_kept {w1 w2:World} {g:Gt} (hg:GtAt wa w.heap.size g) (hF:Frm (Fl F w) wa w1) (hb:Below w1.heap.size w1 w2):GtAt w2 w.heap.size g:=
 (hg.of_block (hF.block _ hg.lt (fun e=>by have:=e.2;omega))).below hb
end
theorem hand_any {F:Nat->Prop} {C m:Nat} {cl:Bool} {buf:List Int} {S t:List Wt} {x:Wt} (val:Int) (w:World) (h:Chn w F C m cl buf S (x::t)) (hl:(x::t).length<=1000) :
  Calls Tryz.prog 156 #[.pointer (some ⟨C,0,none⟩),.int .i64 val] w fun e w'=>e=.returned (Gt.val ⟨0,x,val,true,0⟩)/\Chn w' (Fw F w) C m cl buf S t/\Frm F w w':=by
 obtain ⟨wa,hwa⟩:∃ wa,wa=w.alloc (.cells #[.int .u8 0,.int .i64 0,.int .i64 0,.int .i64 0,.int .i64 0,.bool false,.int .i64 0] 184):=⟨_,rfl⟩
 have hba:Below w.heap.size w wa:=by rw [hwa];exact below1 w _
 have hg:GtAt wa w.heap.size .zero:=by rw [hwa];exact gtAt_new w .zero
 have hs:=hg.lt
 have ha:=h.fl.below hba
 go_enter Tryz.func156,Tryz.ntmps156
 have htk:=take_any (t:=t) (x:=x) false wa ha rfl hl
 go_wp2_with fail
 rw [<- hwa]
 clear hwa
 refine htk.mono ?_
 rintro e w1 ⟨rfl,hc,hF⟩
 unfold Wt.val
 obtain ⟨w2,hw2⟩:∃ w2,w2=w1.alloc (.cells #[.int .i64 x.t,.int .i64 x.c,.int .i64 x.v] 145):=⟨_,rfl⟩
 have hb2:Below w1.heap.size w1 w2:=by rw [hw2];exact below1 w1 _
 have hx:WtAt w2 w1.heap.size x:=by rw [hw2];exact wtAt_new w1 x
 have k2:=res_kept hg hF hb2
 have HE:=Lib.hid (deed_end hba hs hc hF hb2 ⟨0,x,val,true,0⟩)
 have z0:=k2.frozen 0
 have z1:=k2.frozen 1
 have z2:=k2.frozen 2
 have z3:=k2.frozen 3
 have z4:=k2.frozen 4
 have z5:=k2.frozen 5
 have z6:=k2.frozen 6
 have y0:=k2.c0
 have y1:=k2.c1
 have y2:=k2.c2
 have y3:=k2.c3
 have y4:=k2.c4
 have y5:=k2.c5
 have y6:=k2.c6
 have x0:=hx.c0
 have x1:=hx.c1
 have x2:=hx.c2
 clear hx h htk ha hg hc hF hb2
 rw [hw2] at z0 z1 z2 z3 z4 z5 z6 y0 y1 y2 y3 y4 y5 y6 x0 x1 x2
 have k5:=k2.put7 ⟨0,x,val,true,0⟩
 clear k2
 go_wp2_with fail
 rw [<- hw2]
 change bodyPost _ _ _ _ _ (put7 w2 w.heap.size ⟨0,x,val,true,0⟩)
 generalize put7 w2 w.heap.size ⟨0,x,val,true,0⟩=W5 at k5 HE ⊢
 refine bodyPost_ret (v:=Gt.val ⟨0,x,val,true,0⟩) (results_cell_row rfl _ _ w.heap.size 184 _ (0,0) _ rfl k5 Tryz.underlying184 rfl (by kernel_rfl)) rfl ?_
 exact ⟨rfl,HE.out.1,HE.out.2⟩
theorem fetch_any {F:Nat->Prop} {C m:Nat} {cl:Bool} {buf:List Int} {t R:List Wt} {x:Wt} (w:World) (h:Chn w F C m cl buf (x::t) R) (hl:(x::t).length<=1000) :
  Calls Tryz.prog 157 #[.pointer (some ⟨C,0,none⟩)] w fun e w'=>e=.returned (Gt.val ⟨0,x,x.v,true,0⟩)/\Chn w' (Fw F w) C m cl buf t R/\Frm F w w':=by
 obtain ⟨wa,hwa⟩:∃ wa,wa=w.alloc (.cells #[.int .u8 0,.int .i64 0,.int .i64 0,.int .i64 0,.int .i64 0,.bool false,.int .i64 0] 184):=⟨_,rfl⟩
 have hba:Below w.heap.size w wa:=by rw [hwa];exact below1 w _
 have hg:GtAt wa w.heap.size .zero:=by rw [hwa];exact gtAt_new w .zero
 have hs:=hg.lt
 have ha:=h.fl.below hba
 go_enter Tryz.func157,Tryz.ntmps157
 have htk:=take_any (t:=t) (x:=x) true wa ha rfl hl
 go_wp2_with fail
 rw [<- hwa]
 clear hwa
 refine htk.mono ?_
 rintro e w1 ⟨rfl,hc,hF⟩
 unfold Wt.val
 obtain ⟨w2,hw2⟩:∃ w2,w2=w1.alloc (.cells #[.int .i64 x.t,.int .i64 x.c,.int .i64 x.v] 145):=⟨_,rfl⟩
 have hb2:Below w1.heap.size w1 w2:=by rw [hw2];exact below1 w1 _
 have hx:WtAt w2 w1.heap.size x:=by rw [hw2];exact wtAt_new w1 x
 have k2:=res_kept hg hF hb2
 have HE:=Lib.hid (deed_end hba hs hc hF hb2 ⟨0,x,x.v,true,0⟩)
 have z0:=k2.frozen 0
 have z1:=k2.frozen 1
 have z2:=k2.frozen 2
 have z3:=k2.frozen 3
 have z4:=k2.frozen 4
 have z5:=k2.frozen 5
 have z6:=k2.frozen 6
 have y0:=k2.c0
 have y1:=k2.c1
 have y2:=k2.c2
 have y3:=k2.c3
 have y4:=k2.c4
 have y5:=k2.c5
 have y6:=k2.c6
 have x0:=hx.c0
 have x1:=hx.c1
 have x2:=hx.c2
 clear hx h htk ha hg hc hF hb2
 rw [hw2] at z0 z1 z2 z3 z4 z5 z6 y0 y1 y2 y3 y4 y5 y6 x0 x1 x2
 have k5:=k2.put7 ⟨0,x,x.v,true,0⟩
 clear k2
 go_wp2_with fail
 rw [<- hw2]
 change bodyPost _ _ _ _ _ (put7 w2 w.heap.size ⟨0,x,x.v,true,0⟩)
 generalize put7 w2 w.heap.size ⟨0,x,x.v,true,0⟩=W5 at k5 HE ⊢
 refine bodyPost_ret (v:=Gt.val ⟨0,x,x.v,true,0⟩) (results_cell_row rfl _ _ w.heap.size 184 _ (0,0) _ rfl k5 Tryz.underlying184 rfl (by kernel_rfl)) rfl ?_
 exact ⟨rfl,HE.out.1,HE.out.2⟩
theorem put_deed {F:Nat->Prop} {C m:Nat} {cl:Bool} {buf:List Int} {S R:List Wt} (val:Int) (w:World) (h:Chn w F C m cl buf S R) :
  Calls Tryz.prog 158 #[.pointer (some ⟨C,0,none⟩),.int .i64 val] w fun e w'=>e=.returned (Gt.val ⟨0,.zero,val,true,0⟩)/\Chn w' (Fw F w) C m cl (putL m buf val) S R/\Frm F w w':=by
 obtain ⟨wa,hwa⟩:∃ wa,wa=w.alloc (.cells #[.int .u8 0,.int .i64 0,.int .i64 0,.int .i64 0,.int .i64 0,.bool false,.int .i64 0] 184):=⟨_,rfl⟩
 have hba:Below w.heap.size w wa:=by rw [hwa];exact below1 w _
 have hg:GtAt wa w.heap.size .zero:=by rw [hwa];exact gtAt_new w .zero
 have hs:=hg.lt
 have ha:=h.fl.below hba
 go_enter Tryz.func158,Tryz.ntmps158
 obtain ⟨B,hb,-, hput⟩:=ha.ring
 have hp:=hput val
 rw [hwa] at hb
 go_wp2_with fail
 rw [<- hwa]
 clear hwa
 refine hp.mono ?_
 rintro e w1 ⟨rfl,hc,hF⟩
 have k2:=res_kept hg hF (Below.refl _ _)
 have HE:=Lib.hid (deed_end hba hs (hc.mono (fun k e=>.inl e)) hF (Below.refl _ _) ⟨0,.zero,val,true,0⟩)
 have z0:=k2.frozen 0
 have z1:=k2.frozen 1
 have z2:=k2.frozen 2
 have z3:=k2.frozen 3
 have z4:=k2.frozen 4
 have z5:=k2.frozen 5
 have z6:=k2.frozen 6
 have y0:=k2.c0
 have y1:=k2.c1
 have y2:=k2.c2
 have y3:=k2.c3
 have y4:=k2.c4
 have y5:=k2.c5
 have y6:=k2.c6
 clear h ha hg hc hF hput hp hb
 have k5:=k2.put7 ⟨0,.zero,val,true,0⟩
 clear k2
 go_wp2_with fail
 change bodyPost _ _ _ _ _ (put7 w1 w.heap.size ⟨0,.zero,val,true,0⟩)
 generalize put7 w1 w.heap.size ⟨0,.zero,val,true,0⟩=W5 at k5 HE ⊢
 refine bodyPost_ret (v:=Gt.val ⟨0,.zero,val,true,0⟩) (results_cell_row rfl _ _ w.heap.size 184 _ (0,0) _ rfl k5 Tryz.underlying184 rfl (by kernel_rfl)) rfl ?_
 exact ⟨rfl,HE.out.1,HE.out.2⟩
theorem get_deed {F:Nat->Prop} {C m:Nat} {cl:Bool} {buf:List Int} {S R:List Wt} (w:World) (h:Chn w F C m cl buf S R) :
  Calls Tryz.prog 159 #[.pointer (some ⟨C,0,none⟩)] w fun e w'=>e=.returned (Gt.val ⟨0,.zero,buf.head?.getD 0,true,0⟩)/\Chn w' (Fw F w) C m cl buf.tail S R/\Frm F w w':=by
 obtain ⟨wa,hwa⟩:∃ wa,wa=w.alloc (.cells #[.int .u8 0,.int .i64 0,.int .i64 0,.int .i64 0,.int .i64 0,.bool false,.int .i64 0] 184):=⟨_,rfl⟩
 have hba:Below w.heap.size w wa:=by rw [hwa];exact below1 w _
 have hg:GtAt wa w.heap.size .zero:=by rw [hwa];exact gtAt_new w .zero
 have hs:=hg.lt
 have ha:=h.fl.below hba
 go_enter Tryz.func159,Tryz.ntmps159
 obtain ⟨B,hb,htk,-⟩:=ha.ring
 obtain ⟨y,hy⟩:∃ y,y=buf.head?.getD 0:=⟨_,rfl⟩
 rw [<- hy] at htk
 have HY:=Lib.hid hy
 obtain ⟨te,hte⟩:∃ te,te=takeE buf:=⟨_,rfl⟩
 rw [<- hte] at htk
 clear hy hte
 rw [hwa] at hb
 go_wp2_with fail
 rw [<- hwa]
 clear hwa
 refine htk.mono ?_
 rintro e w1 ⟨rfl,hc,hF⟩
 have k2:=res_kept hg hF (Below.refl _ _)
 have HE:=Lib.hid (deed_end hba hs (hc.mono (fun k e=>.inl e)) hF (Below.refl _ _) ⟨0,.zero,y,true,0⟩)
 have z0:=k2.frozen 0
 have z1:=k2.frozen 1
 have z2:=k2.frozen 2
 have z3:=k2.frozen 3
 have z4:=k2.frozen 4
 have z5:=k2.frozen 5
 have z6:=k2.frozen 6
 have y0:=k2.c0
 have y1:=k2.c1
 have y2:=k2.c2
 have y3:=k2.c3
 have y4:=k2.c4
 have y5:=k2.c5
 have y6:=k2.c6
 clear h ha hg hc hF htk hb
 have k5:=k2.put7 ⟨0,.zero,y,true,0⟩
 clear k2
 go_wp2_with fail
 change bodyPost _ _ _ _ _ (put7 w1 w.heap.size ⟨0,.zero,y,true,0⟩)
 generalize put7 w1 w.heap.size ⟨0,.zero,y,true,0⟩=W5 at k5 HE ⊢
 refine bodyPost_ret (v:=Gt.val ⟨0,.zero,y,true,0⟩) (results_cell_row rfl _ _ w.heap.size 184 _ (0,0) _ rfl k5 Tryz.underlying184 rfl (by kernel_rfl)) rfl ?_
 rw [<- HY.out]
 exact ⟨rfl,HE.out.1,HE.out.2⟩
theorem zero_deed {F:Nat->Prop} {C m:Nat} {cl:Bool} {buf:List Int} {S R:List Wt} (w:World) (h:Chn w F C m cl buf S R) :
  Calls Tryz.prog 161 #[.pointer (some ⟨C,0,none⟩)] w fun e w'=>e=.returned (Gt.val .zero)/\Chn w' (Fw F w) C m cl buf S R/\Frm F w w':=by
 obtain ⟨wa,hwa⟩:∃ wa,wa=w.alloc (.cells #[.int .u8 0,.int .i64 0,.int .i64 0,.int .i64 0,.int .i64 0,.bool false,.int .i64 0] 184):=⟨_,rfl⟩
 have hba:Below w.heap.size w wa:=by rw [hwa];exact below1 w _
 have hg:GtAt wa w.heap.size .zero:=by rw [hwa];exact gtAt_new w .zero
 have hs:=hg.lt
 have ha:=h.fl.below hba
 go_enter Tryz.func161,Tryz.ntmps161
 have HE:Hid (Chn wa (Fw F w) C m cl buf S R/\Frm F w wa):=Lib.hid ⟨(h.below hba).mono (fun k e=>.inl e),Frm.of_below hba F⟩
 clear h ha hs hba
 go_wp2_with fail
 rw [<- hwa]
 refine bodyPost_ret (v:=Gt.val .zero) (results_cell_row rfl _ _ w.heap.size 184 _ (0,0) _ rfl hg Tryz.underlying184 rfl (by kernel_rfl)) rfl ?_
 exact ⟨rfl,HE.out.1,HE.out.2⟩
end Go.Proofs.YtnfbncgfpmcpnaaGreat.Mch
