/-
  ReplayNext: its walks, part 18.
-/
import Derived.Test.YtnfbncgfpmcpnaaGreatQ17
set_option maxRecDepth 100000
set_option maxHeartbeats 12800000
namespace Go.Proofs.YtnfbncgfpmcpnaaGreat.Mch
open Go.RowKit Go.Shelf
attribute [local go_sem] Oper.semAt_some
def markD (D:Nat):Deferred:={ target:=.collected D,args:=#[] }
structure Marks (n:Nat) (W:World) (Ds:List Nat):Prop where
 nodup:Ds.Nodup
 is:∀ D ∈ Ds,n<=D/\W.heap[D]?=some (.deferred (some []))
theorem Marks.nil (n:Nat) (W:World):Marks n W []:=⟨List.nodup_nil,by simp⟩
theorem Marks.lt {n:Nat} {W:World} {Ds:List Nat} (h:Marks n W Ds):∀ D ∈ Ds,D<W.heap.size:=fun D hD=>(Array.getElem?_eq_some_iff.1 (h.is D hD).2).1
theorem leaves_marks {P:Program} {fn:Func} {tmps:Array Value} {R:Ending->World->Prop} {n:Nat} (Φ:World->Prop)
  (hΦ:∀ W D,Φ W->n<=D->W.heap[D]?=some (.deferred (some []))->Φ (W.putObj D (.deferred none)))
  (hend:∀ W,Φ W->LeavesIn Fence.wide 4 P fn tmps R [] .returning W):∀ (Ds:List Nat) (W:World),Marks n W Ds->Φ W->LeavesInM Fence.wide 4 P fn tmps R (Ds.map markD) .returning W
 | [],W,_,h=>hend W h
 | D::Ds,W,hM,h=>by
  obtain ⟨h1,h2⟩:=hM.is D (by simp)
  obtain ⟨h3,h4⟩:=List.nodup_cons.1 hM.nodup
  refine ⟨by simp,.inl ⟨D,W.putObj D (.deferred none),rfl,run_takeDeferred h2,leaves_marks Φ hΦ hend Ds _ ⟨h4,fun E hE=>⟨(hM.is E (by simp [hE])).1,?_⟩⟩ (hΦ W D h h1 h2)⟩⟩
  rw [<- (hM.is E (by simp [hE])).2]
  exact (grownBy_putObj' W D (.deferred none)).block E (hM.lt E (by simp [hE])) (fun e=>h3 (by cases e;exact hE))
def World.cut (W:World) (n:Nat):World:={ W with heap:=W.heap.extract 0 n }
theorem cut_size {W:World} {n:Nat} (h:n<=W.heap.size):(World.cut W n).heap.size=n:=by simp [World.cut];omega
theorem cut_at {W:World} {n k:Nat} (hk:k<n) (h:n<=W.heap.size):(World.cut W n).heap[k]?=W.heap[k]?:=by
 simp only [World.cut,Array.getElem?_extract]
 rw [if_pos (by omega)];simp
theorem cut_below {W:World} {n:Nat} (h:n<=W.heap.size):Below (World.cut W n).heap.size (World.cut W n) W:=
 ⟨rfl,rfl,rfl,by rw [cut_size h];exact h,fun k hk=>by rw [cut_size h] at hk;exact (cut_at hk h).symm⟩
theorem cut_row {W:World} {n b:Nat} {e:TypeId} {s k:Nat} {v:Value} {xs:List Value} (h:W.ownsRow b e s v k xs) (hn:n<=W.heap.size) (hv:∀ g,v.ownBlock=some g->g<n):(World.cut W n).ownsRow b e s v k xs:=by
 refine ⟨h.1,?_⟩
 rcases h.2 with h0 | ⟨g,cap,cur,rfl,hg,hb,r⟩
 ·exact .inl h0
 ·exact .inr ⟨g,cap,cur,rfl,hg,(cut_at (hv g rfl) hn).trans hb,r⟩
theorem cut_cell {W:World} {n:Nat} {p:Addr} {v:Value} (h:W.cell? p=some v) (hn:n<=W.heap.size) (hp:p.block<n):(World.cut W n).cell? p=some v:=
 (World.cell?_of_block (w:=W) (cut_at hp hn)).trans h
section
variable {W W':World} {F G:Nat->Prop} {C B m:Nat} {cl:Bool} {v0 v1 v':Value} {buf:List Int} {S R l:List Wt} {s:Bool}
theorem ChAt.frm (h:ChAt W C B m cl v0 v1 buf S R) (hF:Frm G W W') (hG:∀ k cs t z,G k->W.heap[k]?=some (.cells cs t z)->t ≠ 93/\t ≠ 173/\t ≠ 145):ChAt W' C B m cl v0 v1 buf S R:=by
 obtain ⟨vs,f,hr,hl⟩:=h.ring
 have key:∀ (g:Nat) (cs:Array Value) (t:TypeId) (z:Nat × Nat),W.heap[g]?=some (Obj.cells cs t z)->(t=93 \/ t=173 \/ t=145)->W'.heap[g]?=W.heap[g]?:=fun g cs t z hg ht=>
  hF.block g (Array.getElem?_eq_some_iff.1 hg).1 (fun hk=>by obtain ⟨a,b,c⟩:=hG g cs t z hk hg;rcases ht with e | e | e;exact a e;exact b e;exact c e)
 have rows:∀ {v:Value} {n:Nat} {xs:List Value},W.ownsRow 0 145 3 v n xs->W'.ownsRow 0 145 3 v n xs:=fun {v n xs} hv=>by
  refine ⟨hv.1,?_⟩
  rcases hv.2 with h0 | ⟨g,cap,cur,rfl,hg,hb,r⟩
  ·exact .inl h0
  ·exact .inr ⟨g,cap,cur,rfl,hg,(key g _ _ _ hb (.inr (.inr rfl))).trans hb,r⟩
 exact ⟨(key C _ _ _ h.head (.inl rfl)).trans h.head,⟨vs,f,hr.of_block (key B _ _ _ hr.2 (.inr (.inl rfl))),hl⟩,rows h.sends,rows h.recvs,h.apart⟩
theorem ChAt.put (h:ChAt W C B m cl v0 v1 buf S R) (hr:W.ownsRow 0 145 3 v' l.length (flatW l)) (hC:v'.ownBlock ≠ some C) (ho:∀ g,v'.ownBlock=some g->(if s then v1 else v0).ownBlock ≠ some g) :
  ChAt (W.setCell ⟨C,2+ix s,none⟩ v') C B m cl (if s then v' else v0) (if s then v1 else v') buf (if s then l else S) (if s then R else l):=by
 have gs:=grownBy_setCell W ⟨C,2+ix s,none⟩ v'
 have hrow:(W.setCell ⟨C,2+ix s,none⟩ v').ownsRow 0 145 3 v' l.length (flatW l):=hr.kept gs (by
  cases e:v'.ownBlock with
  | none=>exact .inl rfl
  | some g=>exact .inr (fun e2=>hC (by rw [e];exact e2)))
 have ks:(W.setCell ⟨C,2+ix s,none⟩ v').ownsRow 0 145 3 v0 S.length (flatW S):=h.sends.kept gs (by
  cases e:v0.ownBlock with
  | none=>exact .inl rfl
  | some g=>exact .inr (fun e2=>h.ne_s.1 (by rw [e];cases e2;rfl)))
 have kr:(W.setCell ⟨C,2+ix s,none⟩ v').ownsRow 0 145 3 v1 R.length (flatW R):=h.recvs.kept gs (by
  cases e:v1.ownBlock with
  | none=>exact .inl rfl
  | some g=>exact .inr (fun e2=>h.ne_r.1 (by rw [e];cases e2;rfl)))
 have kb:=h.ring.kept gs (fun e=>h.ne_ring (by cases e;rfl))
 cases s
 ·exact ⟨by simpa [ix] using heap_setCell_same (k:=3) v' h.head,kb,ks,hrow,fun g e1 e2=>ho g e2 e1⟩
 ·exact ⟨by simpa [ix] using heap_setCell_same (k:=2) v' h.head,kb,hrow,kr,fun g e1 e2=>ho g e1 e2⟩
end
theorem frm_abides {β:Type} {G:Nat->Prop} {w0:World} {n:Nat} (hn:w0.heap.size<=n):OwnFrom n (fun (_:β) W=>Frm G w0 W):=fun _ W W' row hs hg hr=>
 ⟨hg.os.trans hs.os,hg.tape.trans hs.tape,hg.output.trans hs.output,Nat.le_trans hs.size hg.size,fun k hk hn'=>(hg.block k (Nat.lt_of_lt_of_le hk hs.size) (fun e=>by obtain ⟨h1,_⟩:=hr k e.symm;omega)).trans (hs.block k hk hn')⟩
theorem owns_low {W:World} {a b:Nat} (hab:b<=a) {e:TypeId} {size:Nat} {v:Value} {k:Nat} {xs:List Value} (h:W.ownsRow a e size v k xs):W.ownsRow b e size v k xs:=
 ⟨h.1,h.2.imp id fun ⟨g,c,d,e1,e2,r⟩=>⟨g,c,d,e1,Nat.le_trans hab e2,r⟩⟩
theorem owns_ne {W:World} {a M:Nat} (hM:M<a) {e:TypeId} {size:Nat} {v:Value} {k:Nat} {xs:List Value} (h:W.ownsRow a e size v k xs):some M ≠ v.ownBlock:=fun e1=>by have:=owns_ge h M e1.symm;omega
theorem appended2 {W w1:World} {n₀ B M s:Nat} {t e tm:TypeId} {v v' u:Value} {k m:Nat} {xs ys:List Value} {tmp:Obj} (hv:Boxed W B t v) (hM:Boxed W M tm u) (hte:t ≠ e) (hrow:W.ownsRow n₀ e s v k xs) (hn:n₀<=W.heap.size) (hB:B<n₀) (hMn:M<n₀) (hBM:M ≠ B)
  (hown':w1.ownsRow n₀ e s v' m ys) (hgrow:(W.alloc tmp).grownBy w1 v.ownBlock) :
  Boxed w1 B t v/\Boxed (w1.setCell ⟨B,0,none⟩ v') B t v'/\Boxed (w1.setCell ⟨B,0,none⟩ v') M tm u/\(w1.setCell ⟨B,0,none⟩ v').ownsRow n₀ e s v' m ys/\KeepsOthers W (w1.setCell ⟨B,0,none⟩ v')/\Below B W (w1.setCell ⟨B,0,none⟩ v')/\Frm (fun g=>g=B \/ n₀<=g) W (w1.setCell ⟨B,0,none⟩ v'):=by
 obtain ⟨h1,h2,_,h4,h5⟩:=hv.appended hte (owns_low (Nat.le_of_lt hB) hrow) (by omega) (Nat.le_refl B) (owns_low (Nat.le_of_lt hB) hown') hgrow
 have h6:Boxed w1 M tm u:=(hM.alloc tmp).kept hgrow (owns_ne hMn hrow)
 refine ⟨h1,h2,h6.kept (grownBy_setCell' w1 B v') (by simpa using hBM),hown'.kept (grownBy_setCell' w1 B v') (.inr (owns_ne hB hown').symm),h4,h5,?_⟩
 refine Frm.next (Frm.next (Frm.of_below (below1 W tmp) _) (Frm.of_grown hgrow (fun g e=>.inl (.inr (owns_ge hrow g e))))) (Frm.set _ _ (.inl (.inl rfl)))
theorem boxed_frm {w W:World} {B:Nat} {t:TypeId} {v:Value} {G:Nat->Prop} (h:Boxed w B t v) (hF:Frm G w W) (hn : ¬ G B):Boxed W B t v:=(hF.block B h.lt hn).trans h
def unl (t:Int) (l:List Wt):List Wt:=l.filter fun x=>!(x.t == t)
theorem unl_snoc (t:Int) (l:List Wt) (x:Wt):unl t (l ++ [x])=if x.t=t then unl t l else unl t l ++ [x]:=by
 by_cases h:x.t=t <;> simp [unl,List.filter_append,h]
theorem unl_len (t:Int) (l:List Wt):(unl t l).length<=l.length:=List.length_filter_le _ _
structure DropI (w W:World) (F:Nat->Prop) (C B m:Nat) (cl:Bool) (v0 v1:Value) (buf:List Int) (S R:List Wt) (t:Int) (k:Nat):Prop where
 tb:Boxed W w.heap.size 3 (.int .i64 t)
 nb:∃ n:Int,Boxed W (w.heap.size+1) 3 (.int .i64 n)
 ch:∃ u0 u1,ChAt W C B m cl u0 u1 buf (if 1<=k then unl t S else S) (if 2<=k then unl t R else R)/\(k=0->u0=v0)/\(k<=1->u1=v1)/\Own (Fw F w) C B u0 u1
 frm:Frm F w W
theorem drop_next {w wr w5 W:World} {F:Nat->Prop} {C B m:Nat} {cl:Bool} {v0 v1 u0 u1:Value} {buf:List Int} {S R l:List Wt} {t n:Int} {k D:Nat} {s:Bool} {Ds:List Nat} {va:Option Addr} {vc:Nat}
  (hI:DropI w wr F C B m cl v0 v1 buf S R t k) (hM:Marks w.heap.size wr Ds) (hs:ix s=k)
  (hch:ChAt wr C B m cl u0 u1 buf (if 1<=k then unl t S else S) (if 2<=k then unl t R else R)) (hu0:k=0->u0=v0) (hu1:k<=1->u1=v1) (hown:Own (Fw F w) C B u0 u1)
  (hb5:Below wr.heap.size wr w5) (ht5:Boxed w5 w.heap.size 3 (.int .i64 t)) (hszo:wr.heap.size<w5.heap.size)
  (hchW:ChAt W C B m cl u0 u1 buf (if 1<=k then unl t S else S) (if 2<=k then unl t R else R)) (hFW:Frm (fun g=>g=w.heap.size+1 \/ g=wr.heap.size) w5 W) (hn:Boxed W (w.heap.size+1) 3 (.int .i64 n))
  (hur:W.ownsRow w5.heap.size 145 3 (.slice va l.length vc) l.length (flatW l)) (hl:l=unl t (if s then S else R)) (hlow:Low w.heap.size C B v0 v1) (hD:w5.heap.size<=D) (hK:W.heap[D]?=some (.deferred (some []))) :
  DropI w (W.setCell ⟨C,2+k,none⟩ (.slice va l.length vc)).drew F C B m cl v0 v1 buf S R t (k+1)/\Marks w.heap.size (W.setCell ⟨C,2+k,none⟩ (.slice va l.length vc)).drew (D::Ds):=by
 have hlr:=hch.low
 have hC:=hlow.c
 have hs5:=hb5.size
 have hsr:=hI.frm.size
 have hsW:=hFW.size
 obtain ⟨n1,hn1⟩:=hI.nb
 have hlx:w.heap.size+1<wr.heap.size:=hn1.lt
 have hput:=hchW.put (s:=s) (v':=.slice va l.length vc) (l:=l) (owns_zero hur) (fun e=>by have:=owns_ge hur _ e;omega) (fun g e e2=>by
  have h1:=owns_ge hur g e
  have h2:g<wr.heap.size:=by
   cases s
   ·exact hlr.s g e2
   ·exact hlr.r g e2
  omega)
 rw [hs] at hput
 have hown':Own (Fw F w) C B (if s then .slice va l.length vc else u0) (if s then u1 else .slice va l.length vc):=by
  have hv:∀ g,(Value.slice va l.length vc).ownBlock=some g->Fw F w g:=fun g e=>.inr (by have:=owns_ge hur g e;omega)
  cases s
  ·exact ⟨hown.c,hown.b,hown.s,hv⟩
  ·exact ⟨hown.c,hown.b,hv,hown.r⟩
 have gs:=grownBy_setCell W ⟨C,2+k,none⟩ (.slice va l.length vc)
 have ht:Boxed W w.heap.size 3 (.int .i64 t):=boxed_frm ht5 hFW (fun e=>by rcases e with e | e <;> omega)
 have hFr:Frm F w W:=(hI.frm.next (Frm.of_below hb5 _)).trans_new hFW (fun i e=>.inr (by rcases e with e | e <;> omega))
 have hput':ChAt (W.setCell ⟨C,2+k,none⟩ (.slice va l.length vc)) C B m cl (if s then .slice va l.length vc else u0) (if s then u1 else .slice va l.length vc) buf (if 1<=k+1 then unl t S else S) (if 2<=k+1 then unl t R else R):=by
  cases s
  ·obtain rfl:k=1:=hs.symm
   simpa [hl] using hput
  ·obtain rfl:k=0:=hs.symm
   simpa [hl] using hput
 have hFC:F C:=hown.c.elim id (fun e=>by omega)
 refine ⟨⟨?_,⟨n,?_⟩,⟨_,_,hput'.drew,fun e=>by omega,fun e=>?_,hown'⟩,(hFr.next ((Frm.set W _ hFC).mono (fun _ e=>.inl e))).drew⟩,⟨List.nodup_cons.2 ⟨fun e=>by have:=hM.lt D e;omega,hM.nodup⟩,fun E hE=>?_⟩⟩
 ·have:=ht.kept gs (fun e=>by simp only [Option.some.injEq] at e;omega)
  exact this
 ·have:=hn.kept gs (fun e=>by simp only [Option.some.injEq] at e;omega)
  exact this
 ·obtain rfl:k=0:=by omega
  cases s
  ·cases hs
  ·exact hu1 (by omega)
 ·rcases List.mem_cons.1 hE with rfl | hE
  ·exact ⟨by omega,(gs.block E (Array.getElem?_eq_some_iff.1 hK).1 (fun e=>by simp only [Option.some.injEq] at e;omega)).trans hK⟩
  ·obtain ⟨h1,h2⟩:=hM.is E hE
   have hlt:=hM.lt E hE
   refine ⟨h1,(gs.block E (by omega) (fun e=>by simp only [Option.some.injEq] at e;omega)).trans ((hFW.block E (by omega) (fun e=>?_)).trans ((hb5.block E hlt).trans h2))⟩
   rcases e with rfl | rfl
   ·rw [show wr.heap[w.heap.size+1]?=_ from hn1] at h2;cases h2
   ·omega
theorem drop_any {F:Nat->Prop} {C m:Nat} {cl:Bool} {buf:List Int} {S R:List Wt} (t:Int) (w:World) (h:Chn w F C m cl buf S R) (hlS:S.length<=900) (hlR:R.length<=900) :
  Calls Tryz.prog 143 #[.pointer (some ⟨C,0,none⟩),.int .i64 t] w fun e w'=>(∃ k:Int,e=.returned (.int .i64 k))/\Chn w' (Fw F w) C m cl buf (unl t S) (unl t R)/\Frm F w w':=by
 obtain ⟨i0,hi,hz0,hz1,hz2⟩:=info_parts infoWait
 obtain ⟨B,v0,v1,h,ho⟩:=h.fl.at
 have hlow:=h.low
 obtain ⟨w2,hw2⟩:∃ w2,w2=(w.alloc (.cells #[.int .i64 t] 3)).alloc (.cells #[.int .i64 0] 3):=⟨_,rfl⟩
 have hB2:Below w.heap.size w w2:=by rw [hw2];exact Below.al (below1 w _) (by simp) _
 have ht2:Boxed w2 w.heap.size 3 (.int .i64 t):=by rw [hw2];exact (Boxed.new w _ _).alloc _
 have hn2:Boxed w2 (w.heap.size+1) 3 (.int .i64 0):=by
  have h1:=Boxed.new (w.alloc (.cells #[.int .i64 t] 3)) 3 (.int .i64 0)
  rw [World.size_alloc] at h1
  rw [hw2];exact h1
 have hI0:DropI w w2 (Fl F w) C B m cl v0 v1 buf S R t 0:=⟨ht2,⟨0,hn2⟩,⟨v0,v1,h.below hB2,fun _=>rfl,fun _=>rfl,⟨.inl ho.c,.inl ho.b,fun g e=>.inl (ho.s g e),fun g e=>.inl (ho.r g e)⟩⟩,Frm.of_below hB2 _⟩
 refine (callsIn_wide (n:=4)).1 ?_
 refine callsIn_of_wp_marks Tryz.func143 rfl trivial ?_ rfl
 simp only [Tryz.ntmps143,List.size_toArray,List.length_cons,List.length_nil,Nat.reduceAdd,Nat.reduceSub,Array.replicate_succ,Array.replicate_zero,List.push_toArray,List.append_toArray,List.nil_append,List.cons_append]
 refine wpIn_wide.2 ?_
 go_wp2_with fail
 rw [<- hw2]
 clear hw2 hB2 ht2 hn2
 refine wp_loop (fun a' W=>∃ (k:Nat) (Ds:List Nat) (u6 u7 u8 u12 u13 u14 u15 u16 u17 u18 u19 u20 u21 u22 u23 u24 u25 u26 u27 u28 u29 u30 u31 u32 u33 u34:Value),k<=2/\DropI w W (Fl F w) C B m cl v0 v1 buf S R t k/\Marks w.heap.size W Ds/\a' = { tmps:=#[.pointer (some ⟨C,0,none⟩),.int .i64 t,undef,.pointer (some ⟨w.heap.size,0,none⟩),.int .i64 0,.pointer (some ⟨w.heap.size+1,0,none⟩),u6,u7,u8,.pointer (some ⟨C,0,none⟩),.bool false,.int .i64 (k:Int),u12,u13,u14,u15,u16,u17,u18,u19,u20,u21,u22,u23,u24,u25,u26,u27,u28,u29,u30,u31,u32,u33,u34,undef],defers:=Ds.map markD }) (fun a' _=>2 - (intOf (a'.tmps.getD 11 undef)).toNat) ?start ?round
 case start=>exact ⟨0,[],undef,undef,undef,undef,undef,undef,undef,undef,undef,undef,undef,undef,undef,undef,undef,undef,undef,undef,undef,undef,undef,undef,undef,undef,undef,undef,by omega,hI0,Marks.nil _ _,rfl⟩
 case round=>
  rintro a' wr ⟨k,Ds,u6,u7,u8,u12,u13,u14,u15,u16,u17,u18,u19,u20,u21,u22,u23,u24,u25,u26,u27,u28,u29,u30,u31,u32,u33,u34,hk,hI,hM,rfl⟩
  by_cases hlt:k<2
  ·obtain ⟨s,hs⟩:∃ s,ix s=k:=by
    rcases (show k=0 \/ k=1 by omega) with rfl | rfl
    ·exact ⟨true,rfl⟩
    ·exact ⟨false,rfl⟩
   have hlt':(k:Int)<2:=by omega
   have q0:(0:Int)<=(k:Int):=by omega
   obtain ⟨w3,hw3⟩:∃ w3,w3=wr.alloc (.cells #[.slice none 0 0] 90):=⟨_,rfl⟩
   have hra:=row_any (some ⟨C,0,none⟩) (k:Int) w3
   go_wp2_with fail
   rw [<- hw3]
   have hb3:Below wr.heap.size wr w3:=by rw [hw3];exact below1 wr _
   have ho3:Boxed w3 wr.heap.size 90 (.slice none 0 0):=by rw [hw3];exact Boxed.new wr _ _
   clear hw3
   refine hra.mono ?_
   rintro e w5 ⟨rfl,hw5⟩
   have HW5:=Lib.hid hw5
   clear hw5
   go_wp2_with fail
   have hw5:=HW5.out
   obtain ⟨n0,hn0⟩:=hI.nb
   obtain ⟨u0,u1,hch,hu0,hu1,hown⟩:=hI.ch
   have hlx:w.heap.size+1<wr.heap.size:=hn0.lt
   have hb35:Below w3.heap.size w3 w5:=by rw [hw5];exact Below.al (below1 w3 _) (by simp) _
   have hb5:Below wr.heap.size wr w5:=below_nx hb3 hb35 (Nat.le_refl _)
   have hc5:Boxed w5 w3.heap.size 46 (.pointer (some ⟨C,0,none⟩)):=by rw [hw5];exact (Boxed.new w3 _ _).alloc _
   have hi5:Boxed w5 (w3.heap.size+1) 3 (.int .i64 (ix s:Int)):=by
    have h1:=Boxed.new (w3.alloc (.cells #[.pointer (some ⟨C,0,none⟩)] 46)) 3 (.int .i64 (ix s:Int))
    rw [World.size_alloc] at h1
    rw [hw5, <- hs];exact h1
   have ht5:=boxed_below hI.tb hb5
   have hn5:=boxed_below hn0 hb5
   have ho5:=boxed_below ho3 hb35
   have hch5:=hch.below hb5
   have hsz5:=hb5.size
   have hszo:wr.heap.size<w5.heap.size:=ho5.lt
   obtain ⟨xs,hxs⟩:∃ xs,xs=(if s then S else R):=⟨_,rfl⟩
   have hxl:xs.length<=900:=by rw [hxs];cases s <;> simp <;> omega
   obtain ⟨v,hv⟩:∃ v,v=(if s then v0 else v1):=⟨_,rfl⟩
   have hcut:w.heap.size<=w5.heap.size:=by omega
   have hcell5:w5.cell? ⟨C,2+ix s,none⟩=some v:=by
    rw [hch5.w s,hv]
    cases s
    ·simp [hu1 (by have:k=1:=hs.symm;omega)]
    ·simp [hu0 (by have:k=0:=hs.symm;omega)]
   have hrow5:w5.ownsRow 0 145 3 v xs.length (flatW xs):=by
    have h1:=hch5.row s
    rw [hv,hxs]
    cases s
    ·obtain rfl:k=1:=hs.symm
     simpa [hu1 (by omega)] using h1
    ·obtain rfl:k=0:=hs.symm
     simpa [hu0 rfl] using h1
   have hvl:∀ g,v.ownBlock=some g->g<w.heap.size:=by rw [hv];exact hlow.w s
   have hcellc:=cut_cell hcell5 hcut (show C<w.heap.size from hlow.c)
   have hrowc:=cut_row hrow5 hcut hvl
   have hbc:=cut_below hcut
   have hsc:=cut_size hcut
   have HXS:=Lib.hid hxs
   have HS:=Lib.hid hs
   clear hra hw5 HW5 hxs hv
   refine (wpIn_wide (n:=4)).1 ?_
   refine wpIn_rangeFunc_ownH rfl (by omega) (gf:=148) (lb:=#[.pointer (some ⟨w3.heap.size,0,none⟩),.pointer (some ⟨w3.heap.size+1,0,none⟩)]) rfl trivial (enters_of Tryz.func148 (by kernel_rfl) rfl)
    (row_stops hc5 hi5 hcellc hrowc (by omega) hbc) (fun h k=>h.trans k) (fun W l o o' hl ho hc hw=>belowK_b (by omega) W l o o' hl ho hc hw) (Below.refl _ _) (fun _=>rfl)
    (fun pre W=>((∃ n:Int,Boxed W (w.heap.size+1) 3 (.int .i64 n))/\(∃ u,Boxed W wr.heap.size 90 u/\W.ownsRow w5.heap.size 145 3 u (unl t pre).length (flatW (unl t pre))/\True))/\Frm (fun g=>g=w.heap.size+1 \/ g=wr.heap.size) w5 W/\pre.length<=1000)
    (fun _ _ _=>False)
    (OwnFrom.and (OwnFrom.and (fun _ W W' row ⟨n,hn⟩ hg hr=>⟨n,boxed_abides (w.heap.size+1) 3 (fun _:List Wt=>.int .i64 n) _ [] W W' row hn hg hr⟩) (Own.from (holdsRow_own w5.heap.size wr.heap.size 90 145 3 (fun pre:List Wt=>(unl t pre).length) (fun pre=>flatW (unl t pre)) (fun _ _=>True)) _)) (OwnFrom.and (frm_abides (Nat.le_refl _)) (fun _ _ _ _ h _ _=>h)))
    (fun _ _ _ _ _ hs _ _=>hs)
    ⟨⟨⟨n0,hn5⟩,⟨_,ho5,World.ownsRow_nil _ _ _ _,trivial⟩⟩,Frm.refl _ _,by simp⟩
    (fun x a' W=>∃ X,a' = { tmps:=#[.pointer (some ⟨C,0,none⟩),.int .i64 t,undef,.pointer (some ⟨w.heap.size,0,none⟩),.int .i64 0,.pointer (some ⟨w.heap.size+1,0,none⟩),.int .i64 (k:Int),.pointer (some ⟨wr.heap.size,0,none⟩),.pointer (some ⟨X,0,none⟩),.pointer (some ⟨C,0,none⟩),.bool false,.int .i64 (k:Int),.bool true,.int .i64 (k:Int),.pointer (some ⟨C,0,none⟩),.int .i64 (k:Int),.func (.func 148) #[] #[.pointer (some ⟨w3.heap.size,0,none⟩),.pointer (some ⟨w3.heap.size+1,0,none⟩)],x.val,u18,u19,u20,u21,u22,u23,u24,u25,u26,u27,u28,u29,u30,u31,u32,u33,u34,undef],defers:=[] }/\WtAt W X x/\w5.heap.size<=X) ?abides ?assign ?body ?done ?stop
   case abides=>
    intro y a' u W W' row hs hg hr
    obtain ⟨X,h1,h2,h3⟩:=hs
    exact ⟨X,h1,wtAt_abides X (fun _:Unit=>y) _ () W W' row h2 hg hr,h3⟩
   case assign=>
    rintro l pre x W K ⟨⟨⟨n,hn⟩,⟨u,hu,hur,-⟩⟩,hFW,hpl⟩ hK
    have hsW:=hFW.size
    unfold Wt.val at hK ⊢
    gi_wp2
    exact hK _ _ ((KeepsOthers.alloc W _).from _) ((below1 W _).mono (by omega)) ⟨⟨⟨n,hn.alloc _⟩,⟨u,hu.alloc _,hur.alloc _,trivial⟩⟩,hFW.next (Frm.of_below (below1 W _) _),hpl⟩ ⟨_,rfl,wtAt_new W x,by omega⟩
   case body=>
    rintro l pre x a' W hl2 hr ⟨⟨⟨n,hn⟩,⟨u,hu,hur,-⟩⟩,hFW,hpl⟩ ⟨X,rfl,hX,hXl⟩ hlt2
    have hsW:=hFW.size
    have hul:(unl t pre).length<=1000:=Nat.le_trans (unl_len t pre) hpl
    obtain ⟨va,vc,rfl⟩:=owns_slice' hur
    have tc:=(boxed_frm ht5 hFW (fun e=>by rcases e with e | e <;> omega)).cell
    have nc:=hn.cell
    have nf:=hn.frozen
    have c0:=hX.c0
    have hlen2:(pre ++ [x]).length<=1000:=by simp;omega
    by_cases hxt:x.t=t
    ·have t0:(x.t == t)=true:=beq_iff_eq.2 hxt
     have HU:Hid (unl t (pre ++ [x])=unl t pre):=Lib.hid (by rw [unl_snoc,if_pos hxt])
     have hn':=hn.set (.int .i64 (wrap64 (n+1)))
     have gs:=grownBy_setCell W ⟨w.heap.size+1,0,none⟩ (.int .i64 (wrap64 (n+1)))
     have hu':=hu.kept gs (fun e=>by simp only [Option.some.injEq] at e;omega)
     have hur':=hur.kept gs (.inr (hn.not_row (by decide) hur).symm)
     have hF':=hFW.next ((Frm.set (F:=fun g=>g=w.heap.size+1 \/ g=wr.heap.size) W (p:=⟨w.heap.size+1,0,none⟩) (.int .i64 (wrap64 (n+1))) (.inl rfl)).mono (fun _ e=>.inl e))
     have hKp:Below w.heap.size W (W.setCell ⟨w.heap.size+1,0,none⟩ (.int .i64 (wrap64 (n+1)))):=(Below.refl _ W).setCell (p:=⟨w.heap.size+1,0,none⟩) (by simp) _
     clear hxt
     unfold Wt.val
     gi_wp2
     exact ⟨(KeepsOthers.setCell _ _ _).from _,hKp,⟨⟨_,hn'⟩,⟨_,hu',by rw [HU.out];exact hur'⟩⟩,hF',hlen2⟩
    ·have t0:(x.t == t)=false:=beq_eq_false_iff_ne.2 hxt
     have HU:Hid (unl t (pre ++ [x])=unl t pre ++ [x]):=Lib.hid (by rw [unl_snoc,if_neg hxt])
     have hc:=hu.cell
     have c1:=hX.c1
     have c2:=hX.c2
     have hne:=fun (j:Nat) (u:Value) (hj:x.cellsL[j]?=some u)=>wt_cell (wtAt_new W x) j u hj
     have h1:=wt_one x
     clear hxt
     unfold Wt.val
     gi_wp2_with (gi_at_builtin;refine wpListIn_append_own _ rfl _ _ 90 rfl w5.heap.size 145 i0 (.agg #[.int .i64 0,.int .i64 0,.int .i64 0]) 3 24 Tryz.underlying90 hi hz0 hz1 hz2 rfl (by decide) _ _ _ rfl (hur.alloc _) ⟨W.heap.size,0,none⟩ 1 1 x.cellsL rfl rfl hne h1 (by unfold maxLen;omega) (by omega) (by simp;omega) ?_;intro v' w1 hown' hgrow _;obtain ⟨g',cap',rfl⟩:=ownsRow_succ hown';obtain ⟨hv1,hv2,hM2,hr2,hk2,hb2,hf2⟩:=appended2 hu hn (by decide) hur hsW (by omega) (by omega) (by omega) hown' hgrow;have hc1:=hv1.cell;have hf1:=hv1.frozen)
     exact ⟨hk2.from _,hb2.mono (by rw [hsc];omega),⟨⟨_,hM2⟩,⟨_,hv2,by rw [HU.out,flatW_snoc];simpa using hr2,trivial⟩⟩,hFW.trans_new hf2 (fun i e=>e.elim (fun e=>.inl (.inr e)) .inr),hlen2⟩
   case done=>
    rintro D ys W hD hys ⟨⟨⟨n,hn⟩,⟨u,hu,hur,-⟩⟩,hFW,hpl⟩ hK
    have HU:Hid (unl t ys=unl t xs):=Lib.hid (by rw [show ys=xs from hys])
    clear hys
    obtain ⟨l,hl⟩:∃ l,l=unl t ys:=⟨_,rfl⟩
    rw [<- hl] at hur HU
    have hll:l.length<=1000:=by rw [hl];exact Nat.le_trans (unl_len t ys) hpl
    clear hl
    obtain ⟨va,vc,rfl⟩:=owns_slice' hur
    have hchW:=hch5.frm hFW (by
     intro i cs ty z hi hc
     rcases hi with rfl | rfl
     ·rw [show w5.heap[w.heap.size+1]?=_ from hn5] at hc;cases hc;exact ⟨by decide,by decide,by decide⟩
     ·rw [show w5.heap[wr.heap.size]?=_ from ho5] at hc;cases hc;exact ⟨by decide,by decide,by decide⟩)
    have oc:=hu.cell
    have od:W.drew.cell? ⟨wr.heap.size,0,none⟩=some (.slice va l.length vc):=oc
    have cc:=hchW.w s
    have cf:=hchW.frozen (2+ix s)
    rw [HS.out] at cc cf
    obtain ⟨uw,huw⟩:∃ uw,uw=(if s then u0 else u1):=⟨_,rfl⟩
    rw [<- huw] at cc
    have cd:W.drew.cell? ⟨C,2+k,none⟩=some uw:=cc
    have cfd:W.drew.frozen? ⟨C,2+k,none⟩=false:=cf
    have HI:Hid (DropI w (W.setCell ⟨C,2+k,none⟩ (.slice va l.length vc)).drew (Fl F w) C B m cl v0 v1 buf S R t (k+1)/\Marks w.heap.size (W.setCell ⟨C,2+k,none⟩ (.slice va l.length vc)).drew (D::Ds)):=Lib.hid (drop_next hI hM HS.out hch hu0 hu1 hown hb5 ht5 hszo hchW hFW hn hur (by rw [HU.out,HXS.out]) hlow hD hK)
    clear hchW hch hch5 hI hM huw HU HXS hrow5 hcell5 hrowc hcellc
    go_wp2_with fail
    go_region
    go_wp2_with fail
    refine ⟨⟨k+1,D::Ds,_,_,_,_,_,_,_,_,_,_,_,_,_,_,_,_,_,_,_,_,_,_,_,_,_,_,by omega,HI.out.1,HI.out.2,rfl⟩,?_⟩
    simp [intOf]
    omega
   case stop=>
    rintro D c pre W _ _ h _
    exact h.elim
  ·obtain rfl:k=2:=by omega
   obtain ⟨n0,hn0⟩:=hI.nb
   obtain ⟨u0,u1,hch,-, -, hown⟩:=hI.ch
   have HF:=Lib.hid ((hch.chn hown).mono (G:=Fw F w) (fun i e=>e.elim (fun e=>.inl e.1) .inr))
   have HG:=Lib.hid (hI.frm.mono (G:=F) (fun i e=>e.1))
   have hlt' : ¬ (2:Int)<2:=by omega
   have nc:=hn0.cell
   have HM:=Lib.hid hM
   clear hch hI hM hown
   go_wp2_with fail
   refine leaves_marks (fun W=>Chn W (Fw F w) C m cl buf (unl t S) (unl t R)/\Frm F w W) (fun W D ⟨h1,h2⟩ hD hK=>⟨h1.putObj hK rfl _,h2.next (Frm.of_grown (grownBy_putObj' W D _) (fun g e=>by cases e;exact .inr hD))⟩) (fun W hW=>?_) Ds wr HM.out ⟨by simpa using HF.out,HG.out⟩
   exact ⟨.int .i64 n0,by simp [results,Tryz.f143,go_sem],⟨n0,rfl⟩,hW⟩
open Go.RowKit Go.Shelf
attribute [local go_sem] Oper.semAt_some
theorem wait_have {F:Nat->Prop} {C m:Nat} {cl:Bool} {buf:List Int} {S R:List Wt} (s:Bool) (x:Wt) (w:World) (h:Chn w F C m cl buf S R) (hyes:∃ y ∈ sel s S R,likeW x y=true) (hl:(sel s S R).length<=900) :
  Calls Tryz.prog 105 #[.pointer (some ⟨C,0,none⟩),.bool s,x.val] w fun e w'=>e=.returned (.int .i64 9)/\Chn w' (Fw F w) C m cl buf S R/\Frm F w w':=by
 obtain ⟨i0,hi,hz0,hz1,hz2⟩:=info_parts infoWait
 obtain ⟨B,v0,v1,h,ho⟩:=h.fl.at
 obtain ⟨xs,hxs⟩:∃ xs,xs=sel s S R:=⟨_,rfl⟩
 obtain ⟨v,hv⟩:∃ v,v=(if s then v0 else v1):=⟨_,rfl⟩
 have hcw:=h.w s
 have hrw:w.ownsRow 0 145 3 v xs.length (flatW xs):=by rw [hv,hxs];exact h.row s
 rw [<- hxs] at hyes hl
 rw [<- hv] at hcw
 obtain ⟨w2,hw2⟩:∃ w2,w2=(w.alloc (.cells #[.int .i64 x.t,.int .i64 x.c,.int .i64 x.v] 145)).alloc (.cells #[.int .i64 0] 31):=⟨_,rfl⟩
 have hx2:WtAt w2 w.heap.size x:=by rw [hw2];exact (wtAt_new w x).alloc _
 have hr2:Boxed w2 (w.heap.size+1) 31 (.int .i64 0):=by
  have h1:=Boxed.new (w.alloc (.cells #[.int .i64 x.t,.int .i64 x.c,.int .i64 x.v] 145)) 31 (.int .i64 0)
  rw [World.size_alloc] at h1
  rw [hw2];exact h1
 have hB2:Below w.heap.size w w2:=by rw [hw2];exact Below.al (below1 w _) (by simp) _
 obtain ⟨w4,hw4⟩:∃ w4,w4=(w2.alloc (.cells #[.pointer (some ⟨C,0,none⟩)] 46)).alloc (.cells #[.int .i64 (ix s:Int)] 3):=⟨_,rfl⟩
 have hb24:Below w2.heap.size w2 w4:=by rw [hw4];exact Below.al (below1 w2 _) (by simp) _
 have hc4:Boxed w4 w2.heap.size 46 (.pointer (some ⟨C,0,none⟩)):=by rw [hw4];exact (Boxed.new w2 _ _).alloc _
 have hi4:Boxed w4 (w2.heap.size+1) 3 (.int .i64 (ix s:Int)):=by
  have h1:=Boxed.new (w2.alloc (.cells #[.pointer (some ⟨C,0,none⟩)] 46)) 3 (.int .i64 (ix s:Int))
  rw [World.size_alloc] at h1
  rw [hw4];exact h1
 have hB4:=below_nx hB2 hb24 (Nat.le_refl _)
 have hx4:=hx2.below hb24
 have hr4:=boxed_below hr2 hb24
 have hcell4:=World.grownBy.cell (grown_below hB4) hcw (by simp)
 have hrow4:=hrw.kept (grown_below hB4) (by cases v.ownBlock <;> simp)
 have hsz:w.heap.size+1<w4.heap.size:=hr4.lt
 have hra:=row_any (some ⟨C,0,none⟩) (ix s:Int) w2
 rw [<- hw4] at hra
 have HV:=Lib.hid hv
 have HXS:=Lib.hid hxs
 have HYES:=Lib.hid hyes
 refine (callsIn_wide (n:=4)).1 ?_
 refine callsIn_of_wp_marks Tryz.func105 rfl trivial ?_ rfl
 simp only [Tryz.ntmps105,List.size_toArray,List.length_cons,List.length_nil,Nat.reduceAdd,Nat.reduceSub,Array.replicate_succ,Array.replicate_zero,List.push_toArray,List.append_toArray,List.nil_append,List.cons_append]
 clear hcw hrw hx2 hr2 hv hxs hyes
 refine wpIn_wide.2 ?_
 unfold Wt.val
 go_wp2_with fail
 refine (rowOf_any s _).mono ?_
 rintro e w' ⟨rfl,rfl⟩
 rw [<- hw2]
 clear hw2
 go_wp2_with fail
 refine hra.mono ?_
 rintro e w4 ⟨rfl,rfl⟩
 go_wp2_with fail
 rw [<- hw4]
 clear hra hw4
 refine (wpIn_wide (n:=4)).1 ?_
 refine wpIn_rangeFunc_ownH rfl (by omega) (gf:=148) (lb:=#[.pointer (some ⟨w2.heap.size,0,none⟩),.pointer (some ⟨w2.heap.size+1,0,none⟩)]) rfl trivial (enters_of Tryz.func148 (by kernel_rfl) rfl)
  (row_stops hc4 hi4 hcell4 hrow4 (by omega) (Below.refl _ _)) (fun h k=>h.trans k) (fun W l o o' hl ho hc hw=>belowK_b (Nat.le_refl _) W l o o' hl ho hc hw) (Below.refl _ _) (fun _=>rfl)
  (fun pre W=>Below w4.heap.size w4 W/\Hid (∀ y ∈ pre,likeW x y=false))
  (fun c pre W=>(Boxed W (w.heap.size+1) 31 (.int .i64 9)/\Below w.heap.size w W)/\c=.ret)
  (OwnFrom.and (ownFrom_below (Nat.le_refl _) (Nat.le_refl _)) (fun _ _ _ _ h _ _=>h))
  (fun c=>OwnFrom.and (OwnFrom.and (boxed_abides (w.heap.size+1) 31 (fun _:List Wt=>.int .i64 9) _) (ownFrom_below (Nat.le_refl _) hB4.size)) (fun _ _ _ _ h _ _=>h))
  ⟨Below.refl _ _,Lib.hid (by simp)⟩
  (fun y a' W=>∃ X,a' = { tmps:=#[.pointer (some ⟨C,0,none⟩),.bool s,(.agg #[.int .i64 x.t,.int .i64 x.c,.int .i64 x.v]),undef,undef,.pointer (some ⟨w.heap.size,0,none⟩),.pointer (some ⟨w.heap.size+1,0,none⟩),.int .i64 (ix s:Int),.pointer (some ⟨X,0,none⟩),.pointer (some ⟨C,0,none⟩),.bool false,.bool s,.int .i64 (ix s:Int),.pointer (some ⟨C,0,none⟩),.int .i64 (ix s:Int),.func (.func 148) #[] #[.pointer (some ⟨w2.heap.size,0,none⟩),.pointer (some ⟨w2.heap.size+1,0,none⟩)],y.val,undef,undef,undef,undef,undef,undef,undef,undef,undef,undef,undef,undef,undef,undef,undef,undef,undef,undef,undef,undef,undef,undef,undef,undef,undef,undef],defers:=[] }/\WtAt W X y/\w4.heap.size<=X) ?abides ?assign ?body ?done ?stop
 case abides=>
  intro y a' u W W' row hs hg hr
  obtain ⟨X,h1,h2,h3⟩:=hs
  exact ⟨X,h1,wtAt_abides X (fun _:Unit=>y) _ () W W' row h2 hg hr,h3⟩
 case assign=>
  rintro l pre y W K ⟨hB,HP⟩ hK
  unfold Wt.val at hK ⊢
  gi_wp2
  exact hK _ _ ((KeepsOthers.alloc W _).from _) ((below1 W _).mono hB.size) ⟨Below.al hB hB.size _,HP⟩ ⟨_,rfl,wtAt_new W y,hB.size⟩
 case body=>
  rintro l pre y a' W hl2 hr ⟨hB,HP⟩ ⟨X,rfl,hX,hXl⟩ hlt
  have hxW:=hx4.below hB
  have hrW:=boxed_below hr4 hB
  have c0:=hX.c0
  have c1:=hX.c1
  have d0:=hxW.c0
  have d1:=hxW.c1
  have r0:=hrW.cell
  have r1:=hrW.frozen
  unfold Wt.val
  by_cases h0:y.t=x.t
  ·have t0:(y.t == x.t)=true:=beq_iff_eq.2 h0
   by_cases h1:y.c=x.c
   ·have t1:(y.c == x.c)=true:=beq_iff_eq.2 h1
    have hx9:=hrW.set (.int .i64 9)
    have hb9:=(below_nx hB4 hB (Nat.le_refl _)).setCell (p:=⟨w.heap.size+1,0,none⟩) (by simp) (.int .i64 9)
    clear h0 h1
    gi_wp2
    exact ⟨(KeepsOthers.setCell _ _ _).from _,⟨hx9,hb9⟩,rfl⟩
   ·have t1:(y.c == x.c)=false:=beq_eq_false_iff_ne.2 h1
    have HP2:Hid (∀ z ∈ pre ++ [y],likeW x z=false):=Lib.hid (fun z hz=>by
     rcases List.mem_append.1 hz with hz | hz
     ·exact HP.out z hz
     ·obtain rfl:=List.mem_singleton.1 hz;unfold likeW;rw [t0,t1];rfl)
    clear h0
    gi_wp2
    exact ⟨KeepsFrom.refl _ _,Below.refl _ _,hB,HP2⟩
  ·have t0:(y.t == x.t)=false:=beq_eq_false_iff_ne.2 h0
   have HP2:Hid (∀ z ∈ pre ++ [y],likeW x z=false):=Lib.hid (fun z hz=>by
    rcases List.mem_append.1 hz with hz | hz
    ·exact HP.out z hz
    ·obtain rfl:=List.mem_singleton.1 hz;unfold likeW;rw [t0];rfl)
   gi_wp2
   exact ⟨KeepsFrom.refl _ _,Below.refl _ _,hB,HP2⟩
 case done=>
  rintro D ys W hD hys ⟨hB,HP⟩ hK
  obtain ⟨y,hy,hyl⟩:=HYES.out
  exact absurd ((HP.out y (by rw [show ys=xs from hys];exact hy)).symm.trans hyl) (by decide)
 case stop=>
  rintro D c pre W hD hpre ⟨⟨hr,hB⟩,rfl⟩ hK
  have hDw:w.heap.size<=D:=by omega
  have hA:=(h.below hB).chn ho
  have hg:=grownBy_putObj' W D (.deferred none)
  have hq:∀ r,some D=some r->∃ o,W.heap[r]?=some o/\o.isCells=false:=fun r e=>by cases e;exact ⟨_,hK,rfl⟩
  have a1:=cell_kept hr.cell hg hq
  gi_wp2
  refine ⟨by simp,.inl ⟨_,_,rfl,run_takeDeferred hK,?_⟩⟩
  refine ⟨.int .i64 9,?_,rfl,(hA.putObj hK rfl _).mono (fun k e=>.inl e.1),(Frm.of_below hB F).next (Frm.of_grown hg (fun k e=>by cases e;exact .inr hDw))⟩
  simp [results,Tryz.f105,go_sem,a1]
end Go.Proofs.YtnfbncgfpmcpnaaGreat.Mch
