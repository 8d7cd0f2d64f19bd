/-
  ModelValues: its walks, part W1.
-/
import Derived.ProofKit
import Derived.OpenShut
import Derived.Deep.Slices
import Derived.ShutString
import Derived.ChangeOld
import Derived.Test.YtnfbncgfpmcpnaaGreatQ34
set_option maxRecDepth 100000
set_option maxHeartbeats 12800000
namespace Go.Proofs.YtnfbncgfpmcpnaaGreat
open Go.RowKit
theorem wpAnyH_cut {P:Program} {md:Region.Mode} {ops:Array Oper} {Q:Exit->Act->World->Prop} {S:World->Prop} {f f':Nat} {l l':Array Bool} {a0:Act} {w0:World} (Rel:Act->Act->World->Prop)
  (h1:∀ a w,Rel a0 a w->wpAnyH P md ops Q S f' l' a w) (h2:(∀ a w,Rel a0 a w->wpAnyH P md ops Q S f' l' a w)->wpAnyH P md ops Q S f l a0 w0):wpAnyH P md ops Q S f l a0 w0:=h2 h1
open Go.RowKit
theorem undRegs:Tryz.prog.underlying 59=some (.array 8 2):=by kernel_rfl
theorem cellsI64:Tryz.prog.cellsOf 2=1:=by kernel_rfl
theorem infI64:(Tryz.prog.info? 2).map (fun i=>i.size)=some 1:=by kernel_rfl
theorem eqRegs (d:Nat) (a0 a1 a2 a3 a4 a5 a6 a7 b0 b1 b2 b3 b4 b5 b6 b7:Int) (w:World) :
  (Op.equalIn (d+1+1) 59 (.agg #[.int .i64 a0,.int .i64 a1,.int .i64 a2,.int .i64 a3,.int .i64 a4,.int .i64 a5,.int .i64 a6,.int .i64 a7]) (.agg #[.int .i64 b0,.int .i64 b1,.int .i64 b2,.int .i64 b3,.int .i64 b4,.int .i64 b5,.int .i64 b6,.int .i64 b7])).run Tryz.prog w=.ok (a0 == b0 && (a1 == b1 && (a2 == b2 && (a3 == b3 && (a4 == b4 && (a5 == b5 && (a6 == b6 && (a7 == b7)))))))) w:=by
 obtain ⟨i,hi⟩:∃ i,Tryz.prog.info? 2=some i:=by
  cases h:Tryz.prog.info? 2 with
  | none=>have:=infI64;rw [h] at this;cases this
  | some i=>exact ⟨i,rfl⟩
 rw [run_equalIn_array w (d+1) _ _ undRegs hi,cellsI64]
 simp [Op.eqItems,List.range,List.range.loop,go_sem]
 repeat' split
 all_goals simp_all
end Go.Proofs.YtnfbncgfpmcpnaaGreat
namespace Go.Proofs.YtnfbncgfpmcpnaaGreat.Ent
open Go.RowKit SetM
theorem RowI.below {w w':World} {v:Value} {xs:List Int} (h:RowI w v xs) (hb:Below w.heap.size w w'):RowI w' v xs:=by
 rcases h with h | ⟨b,off,cap,h1,h0,h2,h3⟩
 ·exact .inl h
 ·exact .inr ⟨b,off,cap,h1,h0,Nat.lt_of_lt_of_le h2 hb.size,fun j hj=>(hb.cell (p:=⟨b,off+j,none⟩) h2).trans (h3 j hj)⟩
end Go.Proofs.YtnfbncgfpmcpnaaGreat.Ent
namespace Go.Proofs.YtnfbncgfpmcpnaaGreat.Mch
open Go.RowKit Go.Shelf
attribute [local go_sem] Oper.semAt_some
theorem info64:(Tryz.prog.info? 2).map (fun i=>(i.zero,i.size,i.bytes))=some (some (.int .i64 0),1,8):=by kernel_rfl
theorem I64_snoc (xs:List Int) (x:Int):I64 (xs ++ [x])=I64 xs ++ [.int .i64 x]:=by simp [I64]
theorem keepR_append {W w1:World} {n₀ B:Nat} {v v':Value} {k:Nat} {xs:List Value} {tmp:Obj} (hrow:W.ownsRow n₀ 2 1 v k xs) (hg:(W.alloc tmp).grownBy w1 v.ownBlock) {u:Value} (hb:Boxed w1 B 34 u):KeepR W (w1.setCell ⟨B,0,none⟩ v'):=by
 refine ((KeepR.grown (World.grownBy_alloc W tmp none) (fun _ _ _ _ e=>by cases e)).trans (KeepR.grown hg fun k' cs t z e hk=>?_)).trans (KeepR.grown (grownBy_setCell' w1 B v') fun k' cs t z e hk=>?_)
 ·rcases (hrow.alloc tmp).2 with ⟨rfl,_⟩ | ⟨g,cap,cur,rfl,_,hgb,_⟩
  ·simp [Value.ownBlock] at e
  ·obtain rfl:g=k':=by simpa [Value.ownBlock] using e
   rw [hgb] at hk;cases hk;decide
 ·cases e
  rw [show w1.heap[B]?=_ from hb] at hk;cases hk;decide
theorem list_of (p:Option Addr) (ys:List Int) (w:World) (hR:IterOf p ys w) :
  Calls Tryz.prog 36 #[.pointer p] w fun e w'=>∃ v,e=.returned v/\w'.ownsRow w.heap.size 2 1 v ys.length (I64 ys)/\Below w.heap.size w w':=by
 obtain ⟨i0,hi,hz0,hz1,hz2⟩:=info_parts info64
 refine (callsIn_wide (n:=4)).1 ?_
 refine callsIn_of_wp_marks Tryz.func36 rfl trivial ?_ rfl
 simp only [Tryz.ntmps36,List.size_toArray,List.length_cons,List.length_nil,Nat.reduceAdd,Nat.reduceSub,Array.replicate_succ,Array.replicate_zero,List.push_toArray,List.append_toArray,List.nil_append,List.cons_append]
 gi_wp2_with (refine ⟨trivial,?_⟩;gi_at_call 74;refine (callsIn_wide.2 (values_any p _)).mono ?_;rintro e w' ⟨rfl,rfl⟩)
 have bO:=Boxed.new w 34 (.slice none 0 0)
 have bN:=Boxed.new (w.alloc (.cells #[.slice none 0 0] 34)) 89 (.pointer p)
 rw [World.size_alloc] at bN
 have hB0:Below w.heap.size w ((w.alloc (.cells #[.slice none 0 0] 34)).alloc (.cells #[.pointer p] 89)):=((Below.refl _ w).alloc (Nat.le_refl _) _).alloc (by simp) _
 refine wpIn_rangeFunc_ownG rfl (by omega) (gf:=107) (lb:=#[.pointer (some ⟨w.heap.size+1,0,none⟩)]) rfl trivial (enters_of Tryz.func107 (by kernel_rfl) rfl)
  (hR _ (w.heap.size+1) hB0 bN) (fun h k=>KeepR.trans h k) (fun W l o o' _ hl ho _=>KeepR.putObj W l o o' hl ho) (Below.refl _ _) (fun _=>rfl)
  (fun pre W=>(∃ v,Boxed W w.heap.size 34 v/\W.ownsRow w.heap.size 2 1 v pre.length (I64 pre)/\True)/\Below w.heap.size w W)
  (fun _ _ _=>False)
  (OwnFrom.and (Own.from (holdsRow_own w.heap.size w.heap.size 34 2 1 (fun pre:List Int=>pre.length) (fun pre=>I64 pre) (fun _ _=>True)) _) (ownFrom_below (Nat.le_refl _) (by simp;omega)))
  (fun _ _ _ _ _ hs _ _=>hs)
  ⟨⟨_,bO.alloc _,World.ownsRow_nil _ _ _ _,trivial⟩,hB0⟩
  (fun x=>{ tmps:=#[.pointer p,undef,.pointer (some ⟨w.heap.size,0,none⟩),.int .i64 x,.pointer p,.func (.func 107) #[] #[.pointer (some ⟨w.heap.size+1,0,none⟩)],.int .i64 x,undef,undef,undef,undef,undef],defers:=[] }) ?assign ?body ?done ?stop
 case assign=>
  intro l x W K hK
  gi_wp2
  simpa using hK
 case body=>
  rintro l pre x W ⟨⟨v,hv,hrow,-⟩,hB⟩ hlt
  have hc:=hv.cell
  gi_wp2_with (gi_at_builtin;refine wpListIn_append_own _ rfl _ _ 34 rfl w.heap.size 2 i0 (.int .i64 0) 1 8 Tryz.underlying34 hi hz0 hz1 hz2 rfl (by decide) _ _ _ rfl (hrow.alloc _) ⟨W.heap.size,0,none⟩ 1 1 [.int .i64 x] rfl rfl (cell_one_new _ _ _) (by simp [Value.oneCell']) (by unfold maxLen;omega) (by omega) (by have:=hB.size;simp;omega) ?_;intro v' w1 hown' hgrow _;obtain ⟨g',cap',rfl⟩:=ownsRow_succ hown';obtain ⟨hv1,hv2,hr2,hk2,hb2⟩:=hv.appended (by decide) hrow hB.size (Nat.le_refl _) hown' hgrow;have hc1:=hv1.cell;have hf1:=hv1.frozen;have hkr:=keepR_append (v':=.slice (some ⟨g',0,none⟩) (pre.length+1) cap') hrow hgrow hv1)
  exact ⟨hk2.from _,hkr,⟨_,hv2,by rw [I64_snoc];simpa using hr2,trivial⟩,hB.trans hb2⟩
 case done=>
  rintro D xs W hD hys ⟨⟨v,hv,hrow,-⟩,hB⟩ hK
  have HY:Hid (xs=ys):=Lib.hid hys
  clear hys
  obtain ⟨va,vn,vc,rfl⟩:=owns_slice hrow
  have hc:=hv.cell
  have hf:=hv.frozen
  gi_wp2
  have hK':=(KeepsOthers.setCell W ⟨w.heap.size,0,none⟩ (.slice va vn vc)).same D _ hK rfl
  have hv2:=hv.set (.slice va vn vc)
  have hrow2:=hrow.kept (grownBy_setCell' W w.heap.size (.slice va vn vc)) (.inr (hv.not_row (by decide) hrow).symm)
  have gB:=hB.setCell (p:=⟨w.heap.size,0,none⟩) (Nat.le_refl _) (.slice va vn vc)
  generalize W.setCell ⟨w.heap.size,0,none⟩ (.slice va vn vc)=W1 at hK' hv2 hrow2 gB ⊢
  refine ⟨by simp,.inl ⟨_,_,rfl,run_takeDeferred hK',?_⟩⟩
  have hc5:=cell_kept hv2.cell (grownBy_putObj' _ D (.deferred none)) (fun r e=>by cases e;exact ⟨_,hK',rfl⟩)
  refine ⟨.slice va vn vc,?_,_,rfl,?_,gB.trans (belowK_b (w:=w) (Nat.le_refl _) _ D _ _ (by simp at hD;omega) hK' rfl rfl)⟩
  ·simp [results,Tryz.f36,go_sem,hc5]
  ·rw [<- HY.out];exact ownsRow_putObj hrow2 _ hK' rfl
 case stop=>
  rintro D c pre W _ _ h _
  exact h.elim
theorem list_ring {B m:Nat} {ys:List Int} (w:World) (hR:Rng w B m ys) :
  Calls Tryz.prog 36 #[.pointer (some ⟨B,0,none⟩)] w fun e w'=>∃ v,e=.returned v/\w'.ownsRow w.heap.size 2 1 v ys.length (I64 ys)/\Below w.heap.size w w':=list_of _ _ w (iter_ring hR)
open Go.RowKit
section
variable {C B m:Nat} {cl:Bool} {v0 v1:Value} {buf:List Int} {S R:List Wt}
theorem cbuf_any (w:World) (h:ChAt w C B m cl v0 v1 buf S R) :
  Calls Tryz.prog 12 #[.pointer (some ⟨C,0,none⟩)] w fun e w'=>∃ v,e=.returned v/\w'.ownsRow w.heap.size 2 1 v buf.length (I64 buf)/\Below w.heap.size w w':=by
 have hb:=h.b
 have hc:=list_ring w h.ring
 clear h
 go_enter Tryz.func12,Tryz.ntmps12
 go_wp2_with fail
 refine hc.mono ?_
 rintro e w1 ⟨v,rfl,hr,hb1⟩
 go_wp2_with fail
 go_ret
 exact ⟨v,rfl,hr,hb1⟩
end
end Go.Proofs.YtnfbncgfpmcpnaaGreat.Mch
namespace Go.Proofs.YtnfbncgfpmcpnaaGreat.Mdl
open Go.RowKit
open Ent (En okB)
open Mch (Wt whatK putL toSendK toRecvK)
section
variable {M:Mod} {t:Int} {x:En}
def bufX (x:En) (b:List Int):List Int:=match x.k with
 | 1=>b ++ [x.v]
 | 2=>b.tail
 | 4=>b.tail ++ [x.u]
 | _=>b
theorem ch_nat (i:Nat):M.ch (i:Int)=M.C[i]?.getD Cha.zero:=by unfold Mod.ch;rw [Int.toNat_natCast]
theorem goOn_buf (t k v:Int) (ok:Bool) (i:Nat):((M.goOn t k v ok).ch (i:Int)).buf=(M.ch (i:Int)).buf:=by
 rw [ch_nat,ch_nat]
 unfold Mod.goOn
 simp only [List.getElem?_map]
 cases M.C[i]? <;> rfl
theorem setC_buf (c:Int) (f:Cha->Cha) (i:Nat) (hi:i<M.C.length):((M.setC c f).ch (i:Int)).buf=if i=c.toNat then (f (M.ch (i:Int))).buf else (M.ch (i:Int)).buf:=by
 rw [ch_nat,ch_nat]
 unfold Mod.setC
 simp only [List.getElem?_modify]
 rw [List.getElem?_eq_getElem hi,Option.map_eq_map,Option.map_some]
 by_cases e:i=c.toNat
 ·rw [if_pos e,if_pos e.symm];rfl
 ·rw [if_neg e,if_neg (fun e'=>e e'.symm)]
theorem waitAt_len (t:Int) (o:Opn) (N:Mod):(waitAt t N o).C.length=N.C.length:=by
 unfold waitAt;split
 ·rfl
 ·unfold Mod.setC;simp
theorem waitAt_buf (t:Int) (i:Nat) (o:Opn) (N:Mod) (h:i<N.C.length):((waitAt t N o).ch (i:Int)).buf=(N.ch (i:Int)).buf:=by
 unfold waitAt;split
 ·rfl
 ·rw [setC_buf _ _ _ h]
  split
  ·exact wait_buf _ _
  ·rfl
theorem foldW_buf (t:Int) (i:Nat):∀ (l:List Opn) (N:Mod),i<N.C.length->((l.foldl (waitAt t) N).ch (i:Int)).buf=(N.ch (i:Int)).buf
 | [],_,_=>rfl
 | o::l,N,h=>by
  rw [List.foldl_cons,foldW_buf t i l _ (by rw [waitAt_len];exact h),waitAt_buf t i o N h]
theorem do_len:(M.do_ x).C.length=M.C.length:=by
 have hg:∀ (N:Mod) (t k v:Int) (ok:Bool),(N.goOn t k v ok).C.length=N.C.length:=fun N t k v ok=>by unfold Mod.goOn;simp
 have hs:∀ (N:Mod) (c:Int) (f:Cha->Cha),(N.setC c f).C.length=N.C.length:=fun N c f=>by unfold Mod.setC;simp
 have hw:∀ (t:Int) (l:List Opn) (N:Mod),(l.foldl (waitAt t) N).C.length=N.C.length:=fun t l=>by
  induction l with
  | nil=>intro N;rfl
  | cons o l ih=>
   intro N
   rw [List.foldl_cons,ih,waitAt_len]
 unfold Mod.do_
 split
 ·rw [hg,hs]
 ·rw [hg,hs]
 ·split
  ·rw [hg,hg,hs]
  ·rw [hg,hg,hs]
 ·rw [hg,hg,hs]
 ·rw [hg];exact hs _ _ _
 ·rw [hg]
 ·rw [hg]
 ·unfold Mod.block Mod.setT
  exact hw _ _ _
 ·rw [hg]
 ·rfl
 ·rfl
structure BufT (x:En) (b:List Int):Prop where
 got:x.k=2->x.o=true->b.head?=some x.v
 none:x.k=2->x.o=false->b = []
 meet:x.k=3->b = []
 fill:x.k=4->b.head?=some x.v
theorem head_some {b:List Int} (h:b ≠ []):b.head?=some (b.head?.getD 0):=by cases b with
 | nil=>exact absurd rfl h
 | cons y r=>rfl
theorem do_told (h:Inv M) (hx:MvOk M t x):BufT x (M.ch x.c).buf:=by
 by_cases hk:x.k=1 \/ x.k=2 \/ x.k=3 \/ x.k=4
 ·obtain ⟨o,ho,hoc,hm⟩:=hx.s5 hk
  have hc:=h.chan x.c
  generalize M.ch x.c=c at hm hc
  cases hm with
  | fault hs hcl=>simp [faultE] at hk
  | give hs hw hR=>exact ⟨fun e=>by simp at e,fun e=>by simp at e,fun _=>hc.emp hR,fun e=>by simp at e⟩
  | fetch hs hw hS hm=>exact ⟨fun e=>by simp at e,fun e=>by simp at e,fun _=>by have:=hc.full hS;rw [hm] at this;exact List.length_eq_zero_iff.1 this,fun e=>by simp at e⟩
  | put hs hw hlt=>exact ⟨fun e=>by simp at e,fun e=>by simp at e,fun e=>by simp at e,fun e=>by simp at e⟩
  | get hs hw hb=>exact ⟨fun _ _=>head_some hb,fun _ e=>by simp at e,fun e=>by simp at e,fun e=>by simp at e⟩
  | refill hs hw hS hm=>
   have hb:c.buf ≠ []:=fun e=>by have:=hc.full hS;rw [e] at this;simp at this;omega
   exact ⟨fun e=>by simp at e,fun e=>by simp at e,fun e=>by simp at e,fun _=>head_some hb⟩
  | zero hs hw hb=>exact ⟨fun _ e=>by simp at e,fun _ _=>hb,fun e=>by simp at e,fun e=>by simp at e⟩
 ·exact ⟨fun e=>by omega,fun e=>by omega,fun e=>by omega,fun e=>by omega⟩
theorem serve_bufX (h:Inv M) (hx:MvOk M t x) (hk:x.k=1 \/ x.k=2 \/ x.k=3 \/ x.k=4) :
  ((M.ch x.c).serve (if x.k=1 then true else if x.k=3 then x.o else false) (if x.k=1 \/ x.k=3 then x.v else 0)).buf=bufX x (M.ch x.c).buf:=by
 obtain ⟨o,ho,hoc,hm⟩:=hx.s5 hk
 have hc:=h.chan x.c
 generalize M.ch x.c=c at hm hc
 cases hm with
 | fault hs hcl=>simp [faultE] at hk
 | give hs hw hR=>simp [Cha.serve,hw,bufX]
 | fetch hs hw hS hm=>simp [Cha.serve,hw,bufX]
 | put hs hw hlt=>simp [Cha.serve,hw,bufX,putL_room hlt]
 | get hs hw hb=>simp [Cha.serve,hw,bufX]
 | refill hs hw hS hm=>
  have hb:=hc.full hS
  have htl:c.buf.tail.length<c.m:=by simp;omega
  simp [Cha.serve,hw,bufX,putL_room htl]
 | zero hs hw hb=>simp [Cha.serve,hw,bufX,hb]
theorem do_buf (h:Inv M) (hx:MvOk M t x) (i:Nat) (hi:i<M.C.length):((M.do_ x).ch (i:Int)).buf=if i=x.c.toNat then bufX x (M.ch (i:Int)).buf else (M.ch (i:Int)).buf:=by
 have hk:x.k=1 \/ x.k=2 \/ x.k=3 \/ x.k=4 \/ x.k=5 \/ x.k=6 \/ x.k=7 \/ x.k=8 \/ x.k=9 \/ x.k=10 \/ x.k=11:=by have:=hx.k;omega
 have hsame:∀ b:List Int,(∀ k ∈ [1,2,4],x.k ≠ k)->(if i=x.c.toNat then bufX x b else b)=b:=fun b hn=>by
  have:bufX x b=b:=by
   unfold bufX
   split
   ·rename_i e;exact absurd e (hn 1 (by simp))
   ·rename_i e;exact absurd e (hn 2 (by simp))
   ·rename_i e;exact absurd e (hn 4 (by simp))
   ·rfl
  rw [this];simp
 have hsrv:∀ (s:Bool) (v:Int),(x.k=1 \/ x.k=2 \/ x.k=3 \/ x.k=4)->s=(if x.k=1 then true else if x.k=3 then x.o else false)->v=(if x.k=1 \/ x.k=3 then x.v else 0)->
   ((M.setC x.c fun c=>c.serve s v).ch (i:Int)).buf=if i=x.c.toNat then bufX x (M.ch (i:Int)).buf else (M.ch (i:Int)).buf:=fun s v hk' es ev=>by
  rw [setC_buf _ _ _ hi]
  by_cases e:i=x.c.toNat
  ·rw [if_pos e,if_pos e]
   have hc0:=(hx.ch (by omega)).1
   have ei:(i:Int)=x.c:=by omega
   rw [ei,es,ev]
   exact serve_bufX h hx hk'
  ·rw [if_neg e,if_neg e]
 unfold Mod.do_
 rcases hk with hk | hk | hk | hk | hk | hk | hk | hk | hk | hk | hk <;> simp only [hk]
 ·rw [goOn_buf];exact hsrv _ _ (by omega) (by simp [hk]) (by simp [hk])
 ·rw [goOn_buf];exact hsrv _ _ (by omega) (by simp [hk]) (by simp [hk])
 ·split
  ·rename_i ho;rw [goOn_buf,goOn_buf];exact hsrv _ _ (by omega) (by simp [hk,ho]) (by simp [hk])
  ·rename_i ho;rw [goOn_buf,goOn_buf];exact hsrv _ _ (by omega) (by simp [hk];simpa using ho) (by simp [hk])
 ·rw [goOn_buf,goOn_buf];exact hsrv _ _ (by omega) (by simp [hk]) (by simp [hk])
 ·rw [goOn_buf,hsame _ (by simp [hk])]
  exact (setC_buf x.c Cha.close i hi).trans (by split <;> rfl)
 ·rw [goOn_buf,hsame _ (by simp [hk])]
 ·rw [goOn_buf,hsame _ (by simp [hk])]
 ·rw [hsame _ (by simp [hk])]
  unfold Mod.block Mod.setT
  exact foldW_buf _ _ _ _ hi
 ·rw [goOn_buf,hsame _ (by simp [hk])]
  rfl
 ·rw [hsame _ (by simp [hk])];rfl
 ·rw [hsame _ (by simp [hk])];rfl
end
open Go.RowKit
open Ent (En EnRow okB)
open Mch (Frm below1 below_nx boxed_below)
section
variable {o:Nat->Nat} {B:Nat} {M:Mod} {x:En}
set_option linter.unusedSimpArgs false in
theorem apply_ok (w:World) (h:Md w o B M) (hI:Inv M) (he:M.e=0) (hx:x.ok) (hb:okB x=true) (hk:(decide (1<=x.k) && decide (x.k<=11))=true) (hm:En.at0 x ∈ M.moves x.t) :
  Calls Tryz.prog 9 #[ptrV B,enV x] w (AppPost o B (M.do_ (En.at0 x)) 0 w):=by
 obtain ⟨w2,hw2⟩:∃ w2,w2=(w.alloc (.cells (enA x) 39)).alloc (.cells #[.int .i64 0] 31):=⟨_,rfl⟩
 have hB2:Below w.heap.size w w2:=by rw [hw2];exact below2 w _ _
 have hX2:Blk w2 w.heap.size 39 (enA x):=by rw [hw2];exact (blk_new w _ _).alloc _
 have hE2:Boxed w2 (w.heap.size+1) 31 (.int .i64 0):=by
  have h1:=Boxed.new (w.alloc (.cells (enA x) 39)) 31 (.int .i64 0)
  rw [World.size_alloc] at h1
  rw [hw2];exact h1
 have hM2:=h.below hB2
 have hG2:Goes o o w w2:=Goes.of_below hB2
 have hE0:o (w.heap.size+1)=0:=h.off (by omega)
 have hhl:=halted_any w2 hM2
 have hmf:∀ (fn:Fn) (first cap:Array Value) (w:World),(Instr.makeFunc fn first cap).run Tryz.prog w=.ok (.func fn first cap) w:=fun _ _ _ _=>rfl
 have hA0:o w.heap.size=0:=h.off (Nat.le_refl _)
 have hne:(M.e != 0)=false:=by simpa using he
 rw [hne] at hhl
 have hck:=Ent.check_any x hx w2
 rw [show Ent.checkE x=0 by unfold Ent.checkE;rw [hb];rfl] at hck
 have hck':Calls Tryz.prog 31 #[enV x] w2 fun e w'=>e=.returned (.int .i64 0)/\Below w2.heap.size w2 w':=hck
 have hcm:=fun W=>commitE_any x.k W hx.k
 rw [hk] at hcm
 have hmv:=fun (W:World) (hW:Below w2.heap.size w2 W)=>mmoves_any x.t W (hM2.below hW) hI.sane
 have hml:(M.moves x.t).length<=1000:=moves_len hI x.t
 obtain ⟨L,hL⟩:∃ L,L=M.moves x.t:=⟨_,rfl⟩
 simp only [<- hL] at hmv
 rw [<- hL] at hml
 have HL:=Lib.hid hL
 have hkc:∀ W,Below w2.heap.size w2 W->W.cell? ⟨w.heap.size,1,none⟩=some (.int .u8 (x.k:Int)):=fun W hW=>Blk.cell (hX2.later hW hX2.lt) rfl
 obtain ⟨y,hy⟩:∃ y:En,y=En.at0 x:=⟨_,rfl⟩
 have hct:=fun (W:World) (v:Value) (hR:EnRow W v L)=>contains_any y v L W hR (by omega)
 have hyt:y.t=x.t:=by rw [hy];rfl
 have hyk:y.k=x.k:=by rw [hy];rfl
 have HY:=Lib.hid hy
 have x0:w2.cell? ⟨w.heap.size,0,none⟩=some (.int .i64 x.a):=Blk.cell hX2 rfl
 have x1:w2.cell? ⟨w.heap.size,1,none⟩=some (.int .u8 (x.k:Int)):=Blk.cell hX2 rfl
 have x2:w2.cell? ⟨w.heap.size,2,none⟩=some (.int .i64 x.w):=Blk.cell hX2 rfl
 have x3:w2.cell? ⟨w.heap.size,3,none⟩=some (.int .i64 x.t):=Blk.cell hX2 rfl
 have x4:w2.cell? ⟨w.heap.size,4,none⟩=some (.int .i64 x.p):=Blk.cell hX2 rfl
 have x5:w2.cell? ⟨w.heap.size,5,none⟩=some (.int .i64 x.c):=Blk.cell hX2 rfl
 have x6:w2.cell? ⟨w.heap.size,6,none⟩=some (.int .i64 x.b):=Blk.cell hX2 rfl
 have x7:w2.cell? ⟨w.heap.size,7,none⟩=some (.int .i64 x.q):=Blk.cell hX2 rfl
 have x8:w2.cell? ⟨w.heap.size,8,none⟩=some (.int .i64 x.v):=Blk.cell hX2 rfl
 have x9:w2.cell? ⟨w.heap.size,9,none⟩=some (.int .i64 x.u):=Blk.cell hX2 rfl
 have x10:w2.cell? ⟨w.heap.size,10,none⟩=some (.bool x.o):=Blk.cell hX2 rfl
 have x11:w2.cell? ⟨w.heap.size,11,none⟩=some (.int .i64 x.e):=Blk.cell hX2 rfl
 have x12:w2.cell? ⟨w.heap.size,12,none⟩=some (.int .u64 (x.s:Int)):=Blk.cell hX2 rfl
 have hF:decide (y ∈ L)=true:=by rw [hy,hL];simpa using hm
 simp only [hF] at hct
 obtain ⟨hmo,-, ht⟩:=moves_ok hI _ hm
 rw [<- hy] at hmo
 have hdd:=fun (W:World) (hW:Md W o B M)=>deed_any W hW hI hmo ht
 have hds:=fun W=>deeds_any B W
 have hk1:1<=y.k/\y.k<=11:=hmo.k
 have hen:=deed_enters y.k
 have hlk0:∀ (W:World) (Mp:Nat) (gp:Nat->Option Value),DeeMap W Mp gp 11->(∀ k,1<=k->k<=11->gp k=some (deeF B k))->(Instr.lookup 86 (.map (some Mp)) (.int .u8 (y.k:Int)) false).run Tryz.prog W=.ok (.func (.func (deedK y.k)) #[ptrV B] #[]) W:=fun W Mp gp hD hg=>hD.look (by omega) (hg y.k hk1.1 hk1.2)
 obtain ⟨KF,hKF⟩:∃ KF,KF=deedK y.k:=⟨_,rfl⟩
 simp only [<- hKF] at hdd hen hlk0
 have hlk:=hlk0
 rw [<- hy]
 obtain ⟨N,hN⟩:∃ N,N=M.do_ y:=⟨_,rfl⟩
 simp only [<- hN] at hdd
 rw [<- hN]
 clear hne he h hB2 hx hb hck hk hm hF hyk hmv hL hy hKF hlk0 hmo ht hk1 hN
 go_enter_defers Tryz.func9,Tryz.ntmps9
 go_wp2_with fail
 rw [<- hw2]
 clear hw2
 refine (mneed_ok 1 w2).mono ?_
 rintro e w2 ⟨rfl,rfl⟩
 go_wp2_with fail
 refine hhl.mono ?_
 rintro e w2 ⟨rfl,rfl⟩
 go_wp2_with fail
 refine (mneed_ok 170 w2).mono ?_
 rintro e w2 ⟨rfl,rfl⟩
 go_wp2_with fail
 refine hck'.mono ?_
 rintro e w3 ⟨rfl,hb3⟩
 have hX3:=hX2.later hb3 hX2.lt
 have y0:w3.cell? ⟨w.heap.size,0,none⟩=some (.int .i64 x.a):=Blk.cell hX3 rfl
 have y1:=hkc w3 hb3
 have yf:=hX3.frozen
 clear hkc hck'
 go_wp2_with fail
 refine (hcm w3).mono ?_
 rintro e w3 ⟨rfl,rfl⟩
 go_wp2_with fail
 refine (mneed_ok 2 w3).mono ?_
 rintro e w3 ⟨rfl,rfl⟩
 go_upto_region 6 with fail
 have hX4:Blk (w3.setCell ⟨w.heap.size,0,none⟩ (.int .i64 0)) w.heap.size 39 (enA y):=by
  have:=hX3.set 0 (.int .i64 0)
  rw [HY.out];simpa [enA,En.at0] using this
 have hF4:Frm (fun j=>j=w.heap.size) w3 (w3.setCell ⟨w.heap.size,0,none⟩ (.int .i64 0)):=Mch.Frm.set (F:=fun j=>j=w.heap.size) (p:=⟨w.heap.size,0,none⟩) w3 _ rfl
 have hM4:=md_off (hM2.below hb3) hF4 hA0
 have hE4:Boxed (w3.setCell ⟨w.heap.size,0,none⟩ (.int .i64 0)) (w.heap.size+1) 31 (.int .i64 0):=Mch.boxed_frm (boxed_below hE2 hb3) hF4 (by omega)
 have hG4:Goes o o w (w3.setCell ⟨w.heap.size,0,none⟩ (.int .i64 0)):=by
  have h3:=hG2.trans (Goes.of_below hb3)
  exact ⟨fun _ _=>rfl,Mch.Frm.trans_new h3.frm hF4 (fun i hi=>.inr (by omega))⟩
 generalize w3.setCell ⟨w.heap.size,0,none⟩ (.int .i64 0)=w4 at hX4 hM4 hE4 hG4 ⊢
 clear hX3 hF4 y0 y1 yf hb3 hX2 hM2 hE2 hG2 hcm x0 x1 x2 x3 x4 x5 x6 x7 x8 x9 x10 x11 x12
 have r0:Below w4.heap.size w4 w4.drew:=(Below.refl _ _).drew
 have hmv':∀ W,Below w4.heap.size w4 W->Calls Tryz.prog 15 #[ptrV B,.int .i64 x.t] W fun e w'=>∃ v,e=.returned v/\EnRow w' v L/\Below W.heap.size W w':=fun W hW=>by rw [HL.out];exact (mmoves_any x.t W (hM4.below hW) hI.sane).mono (fun e w' ⟨v,e1,hR,hb⟩=>⟨v,e1,hR.1,hb⟩)
 refine Mch.wp_onlyN ?_
 refine wp_region_held_drew (S:=fun W=>Blk W w.heap.size 39 (enA y)) (by kernel_rfl) hX4 (fun hHeld=>?_)
 refine takeD (i:=0) (d:=some 23) (v:=ptrV B) (by kernel_rfl) (by kernel_rfl) (by kernel_rfl) (by kernel_rfl) (fun _ _ _ h=>h) (fun oi h=>?_) hHeld ?_
 ·simp only [uA,uS,uZ,Option.some.injEq] at h
  subst h
  refine Or.inl ⟨by rfl,fun w' hSw=>?_⟩
  go_simp
 try simp only [Act.put,tA,tZ,tS]
 refine takeD (i:=1) (d:=some 24) (v:=.pointer (some ⟨w.heap.size,3,none⟩)) (by kernel_rfl) (by kernel_rfl) (by kernel_rfl) (by kernel_rfl) (fun _ _ _ h=>h) (fun oi h=>?_) hHeld ?_
 ·simp only [uA,uS,uZ,Option.some.injEq] at h
  subst h
  refine Or.inl ⟨by rfl,fun w' hSw=>?_⟩
  go_simp
 try simp only [Act.put,tA,tZ,tS]
 refine takeD (i:=2) (d:=some 25) (v:=.int .i64 x.t) (by kernel_rfl) (by kernel_rfl) (by kernel_rfl) (by kernel_rfl) (fun _ _ _ h=>h) (fun oi h=>?_) hHeld ?_
 ·simp only [uA,uS,uZ,Option.some.injEq] at h
  subst h
  refine Or.inl ⟨by rfl,fun w' hSw=>?_⟩
  have hx3:w'.cell? ⟨w.heap.size,3,none⟩=some (.int .i64 x.t):=by rw [<- hyt];exact Blk.cell hSw rfl
  go_simp
 try simp only [Act.put,tA,tZ,tS]
 refine takeD (i:=4) (d:=some 27) (v:=enV y) (by kernel_rfl) (by kernel_rfl) (by kernel_rfl) (by kernel_rfl) (fun _ _ _ h=>h) (fun oi h=>?_) hHeld ?_
 ·simp only [uA,uS,uZ,Option.some.injEq] at h
  subst h
  refine Or.inl ⟨by rfl,fun w' hSw=>?_⟩
  exact exec_load_row rfl rfl hSw Tryz.underlying39 rfl szEn
 try simp only [Act.put,tA,tZ,tS]
 refine wpAnyH_ready (rs:=[3]) (by kernel_rfl) (by simp) ?_
 refine AllReadyH.cons rfl (fun K hKK=>?_) AllReadyH.nil
 go_simp
 refine (hmv' _ r0).mono ?_
 rintro e w6 ⟨v6,rfl,hR6,hb6⟩
 obtain ⟨va,vc,rfl⟩:=hR6.slice
 have hb6':Below w4.heap.size w4 w6:=r0.trans (hb6.mono r0.size)
 refine hKK.out _ _ (hX4.later hb6' hX4.lt) (fun hHeld=>?_)
 clear hKK K
 try simp only [Act.put,tA,tZ,tS]
 refine wpAnyH_ready (rs:=[5]) (by kernel_rfl) (by simp) ?_
 refine AllReadyH.cons rfl (fun K hKK=>?_) AllReadyH.nil
 go_simp
 refine (hct _ _ hR6).mono ?_
 rintro e w7 ⟨rfl,hb7⟩
 have hb7':Below w4.heap.size w4 w7:=hb6'.trans (hb7.mono hb6'.size)
 refine hKK.out _ _ (hX4.later hb7' hX4.lt) (fun hHeld=>?_)
 clear hKK K
 try simp only [Act.put,tA,tZ,tS]
 refine wpAnyH_ready (rs:=[6]) (by kernel_rfl) (by simp) ?_
 refine AllReadyH.cons rfl (fun K hKK=>?_) AllReadyH.nil
 go_simp
 refine (mneed_ok 171 w7).mono ?_
 rintro e w7 ⟨rfl,rfl⟩
 have hX7:=hX4.later hb7' hX4.lt
 refine hKK.out _ _ hX7 (fun hHeld=>?_)
 clear hKK K
 try simp only [Act.put,tA,tZ,tS]
 refine wpAnyH_done (by kernel_rfl) ?_ _
 simp only [Mch.onlyN]
 go_wp2_with fail
 refine Mch.wp_onlyN ?_
 refine wp_region_held_drew (S:=fun W=>Blk W w.heap.size 39 (enA y)) (by kernel_rfl) hX7 (fun hHeld=>?_)
 refine takeD (i:=0) (d:=some 30) (v:=ptrV B) (by kernel_rfl) (by kernel_rfl) (by kernel_rfl) (by kernel_rfl) (fun _ _ _ h=>h) (fun oi h=>?_) hHeld ?_
 ·simp only [uA,uS,uZ,Option.some.injEq] at h
  subst h
  refine Or.inl ⟨by rfl,fun w' hSw=>?_⟩
  go_simp
 try simp only [Act.put,tA,tZ,tS]
 refine takeD (i:=2) (d:=some 32) (v:=.pointer (some ⟨w.heap.size,1,none⟩)) (by kernel_rfl) (by kernel_rfl) (by kernel_rfl) (by kernel_rfl) (fun _ _ _ h=>h) (fun oi h=>?_) hHeld ?_
 ·simp only [uA,uS,uZ,Option.some.injEq] at h
  subst h
  refine Or.inl ⟨by rfl,fun w' hSw=>?_⟩
  go_simp
 try simp only [Act.put,tA,tZ,tS]
 refine takeD (i:=3) (d:=some 33) (v:=.int .u8 (y.k:Int)) (by kernel_rfl) (by kernel_rfl) (by kernel_rfl) (by kernel_rfl) (fun _ _ _ h=>h) (fun oi h=>?_) hHeld ?_
 ·simp only [uA,uS,uZ,Option.some.injEq] at h
  subst h
  refine Or.inl ⟨by rfl,fun w' hSw=>?_⟩
  have hx3:w'.cell? ⟨w.heap.size,1,none⟩=some (.int .u8 (y.k:Int)):=Blk.cell hSw rfl
  go_simp
 try simp only [Act.put,tA,tZ,tS]
 refine takeD (i:=5) (d:=some 35) (v:=enV y) (by kernel_rfl) (by kernel_rfl) (by kernel_rfl) (by kernel_rfl) (fun _ _ _ h=>h) (fun oi h=>?_) hHeld ?_
 ·simp only [uA,uS,uZ,Option.some.injEq] at h
  subst h
  refine Or.inl ⟨by rfl,fun w' hSw=>?_⟩
  exact exec_load_row rfl rfl hSw Tryz.underlying39 rfl szEn
 try simp only [Act.put,tA,tZ,tS]
 refine wpAnyH_ready (rs:=[1]) (by kernel_rfl) (by simp) ?_
 refine AllReadyH.cons rfl (fun K hKK=>?_) AllReadyH.nil
 go_simp
 refine (hds _).mono ?_
 rintro e w8 ⟨Mp,gp,rfl,hD8,hg8,hb8⟩
 have hl8:=hlk w8 Mp gp hD8 hg8
 have hb8':Below w7.heap.size w7 w8:=(Below.refl _ w7).drew.trans (hb8.mono (Nat.le_refl _))
 have hX8:=hX7.later hb8' hX7.lt
 refine hKK.out _ _ hX8 (fun hHeld=>?_)
 clear hKK K
 try simp only [Act.put,tA,tZ,tS]
 refine wpAnyH_ready (rs:=[4]) (by kernel_rfl) (by simp) ?_
 refine AllReadyH.cons rfl (fun K hKK=>?_) AllReadyH.nil
 go_simp
 refine hKK.out _ _ hX8 (fun hHeld=>?_)
 clear hKK K
 try simp only [Act.put,tA,tZ,tS]
 refine wpAnyH_ready (rs:=[6]) (by kernel_rfl) (by simp) ?_
 refine AllReadyH.cons rfl (fun K hKK=>?_) AllReadyH.nil
 go_simp
 refine (hdd w8 ((hM4.below hb7').below hb8')).mono ?_
 rintro e w9 ⟨rfl,o9,h9,g9⟩
 have hX9:=blk_goes hX8 hA0 g9
 refine hKK.out _ _ hX9 (fun hHeld=>?_)
 clear hKK K
 try simp only [Act.put,tA,tZ,tS]
 refine wpAnyH_done (by kernel_rfl) ?_ _
 simp only [Mch.onlyN]
 have hE9:Boxed w9 (w.heap.size+1) 31 (.int .i64 0):=by
  have h8:=boxed_below (boxed_below hE4 hb7') hb8'
  exact (g9.frm.block _ h8.lt (fun e=>e hE0)).trans h8
 have hG9:=((hG4.trans (Goes.of_below hb7')).trans (Goes.of_below hb8')).trans g9
 have e9:=hE9.cell
 have f9:=hE9.frozen
 have hE10:=hE9.set (.int .i64 0)
 have ho9:o9 (w.heap.size+1)=0:=(g9.old _ (boxed_below (boxed_below hE4 hb7') hb8').lt).trans hE0
 have hF10:Frm (fun j=>j=w.heap.size+1) w9 (w9.setCell ⟨w.heap.size+1,0,none⟩ (.int .i64 0)):=Mch.Frm.set (F:=fun j=>j=w.heap.size+1) (p:=⟨w.heap.size+1,0,none⟩) w9 _ rfl
 have hN10:=md_off h9 hF10 ho9
 have hG10:Goes o o9 w (w9.setCell ⟨w.heap.size+1,0,none⟩ (.int .i64 0)):=⟨hG9.old,Mch.Frm.trans_new hG9.frm hF10 (fun i hi=>.inr (by omega))⟩
 go_wp2_with fail
 exact apply_ends (w.heap.size+1) _ _ 0 rfl hE10 hN10 hG10
end
open Go.RowKit
open Ent (En EnRow okB)
theorem apply_any {o:Nat->Nat} {B:Nat} {M:Mod} (x:En) (w:World) (h:Md w o B M) (hI:Inv M) (hx:x.ok) :
  Calls Tryz.prog 9 #[ptrV B,enV x] w (AppPost o B (M.apply x) (M.applyE x) w):=by
 have hst:∀ k:Int,M.applyE x=k->k ≠ 0->M.apply x=M:=fun k e hk=>by unfold Mod.apply;rw [if_neg (by rw [e];exact hk)]
 by_cases he:M.e=0
 ·cases hb:okB x with
  | false=>
   have hE:M.applyE x=2:=by unfold Mod.applyE;rw [if_neg (by simpa using he),hb];rfl
   rw [hst 2 hE (by decide),hE]
   exact apply_bad w h he hx hb
  | true=>
   cases hk:(decide (1<=x.k) && decide (x.k<=11)) with
   | false=>
    have hE:M.applyE x=2:=by unfold Mod.applyE;rw [if_neg (by simpa using he),hb,hk];rfl
    rw [hst 2 hE (by decide),hE]
    exact apply_mark w h he hx hb hk
   | true=>
    by_cases hm:En.at0 x ∈ M.moves x.t
    ·have hE:M.applyE x=0:=by unfold Mod.applyE;rw [if_neg (by simpa using he),hb,hk];simp [hm]
     have hA:M.apply x=M.do_ (En.at0 x):=by unfold Mod.apply;rw [if_pos hE]
     rw [hA,hE]
     exact apply_ok w h hI he hx hb hk hm
    ·have hE:M.applyE x=171:=by unfold Mod.applyE;rw [if_neg (by simpa using he),hb,hk];simp [hm]
     rw [hst 171 hE (by decide),hE]
     exact apply_not w h hI he hx hb hk hm
 ·have hE:M.applyE x=170:=by unfold Mod.applyE;rw [if_pos he]
  rw [hst 170 hE (by decide),hE]
  exact apply_halted w h he
end Go.Proofs.YtnfbncgfpmcpnaaGreat.Mdl
