/-
  ReplayNext: its walks, part 21.
-/
import Derived.Test.YtnfbncgfpmcpnaaGreatQ18
import Derived.Test.YtnfbncgfpmcpnaaGreatQ20
set_option maxRecDepth 100000
set_option maxHeartbeats 12800000
namespace Go.Proofs.YtnfbncgfpmcpnaaGreat.Mch
open Go.RowKit
theorem serve_none {F:Nat->Prop} {C m:Nat} {cl:Bool} {buf:List Int} {S R:List Wt} (s:Bool) (val:Int) (w:World) (h:Chn w F C m cl buf S R) (hlS:S.length<=1000) (hlR:R.length<=1000) (K:Nat) (hK:whatK cl m buf S R s=K) (hK1:K=1 \/ K=6) :
  Calls Tryz.prog 100 #[.pointer (some ⟨C,0,none⟩),.bool s,.int .i64 val] w fun e w'=>e=.returned (.tuple #[Gt.val .zero,.int .i64 8])/\Chn w' (Fw F w) C m cl buf S R/\Frm F w w':=by
 obtain ⟨wa,hwa⟩:∃ wa,wa=w.alloc (.cells #[.int .u8 0,.int .i64 0,.int .i64 0,.int .i64 0,.int .i64 0,.bool false,.int .i64 0] 184):=⟨_,rfl⟩
 have hba:Below w.heap.size w wa:=by rw [hwa];exact below1 w _
 have hg:GtAt wa w.heap.size .zero:=by rw [hwa];exact gtAt_new w .zero
 have hs:=hg.lt
 have ha:=h.fl.below hba
 have hw:Calls Tryz.prog 140 #[.pointer (some ⟨C,0,none⟩),.bool s] wa fun e w'=>e=.returned (.int .u8 (K:Int))/\Below wa.heap.size wa w':=by
  obtain ⟨B,v0,v1,hat,-⟩:=ha.at
  have:=what_any s wa hat hlS hlR
  rwa [hK] at this
 clear hK
 go_enter Tryz.func100,Tryz.ntmps100
 go_wp2_with fail
 rw [<- hwa]
 clear hwa
 refine hw.mono ?_
 clear hw
 rintro e w1 ⟨rfl,hb1⟩
 go_wp2_with fail
 refine (deeds_any C w1).mono ?_
 rintro e w2 ⟨rfl,hM,hb2⟩
 have hlook:(Instr.lookup 233 (.map (some w1.heap.size)) (.int .u8 (K:Int)) true).run Tryz.prog w2=.ok (.tuple #[.agg #[.nilFunc,.nilFunc],.bool false]) w2:=hM.not (k:=K) (by omega) (by omega)
 obtain ⟨w3,hw3⟩:∃ w3,w3=w2.alloc (.cells #[.nilFunc,.nilFunc] 231):=⟨_,rfl⟩
 have hb3:Below wa.heap.size wa w3:=by rw [hw3];exact Below.al (below_nx hb1 hb2 (Nat.le_refl _)) (below_nx hb1 hb2 (Nat.le_refl _)).size _
 have h3:=ha.below hb3
 have hg3:=hg.below hb3
 have hbw:=below_nx hba hb3 (Nat.le_refl _)
 have hs3:w.heap.size<w3.heap.size:=hg3.lt
 clear hb1 hb2 hM
 have k2:=hg3
 have HE:Hid (Chn (put7 w3 w.heap.size .zero) (Fw F w) C m cl buf S R/\Frm F w (put7 w3 w.heap.size .zero)):=Lib.hid ⟨((h3.put7 (fun e=>by have:=e.2;omega) .zero).mono (fun k e=>.inl e.1)),(Frm.of_below hbw F).put7 (Nat.le_refl _) .zero⟩
 have z0:=k2.frozen 0
 have y0:=k2.c0
 have z1:=k2.frozen 1
 have y1:=k2.c1
 have z2:=k2.frozen 2
 have y2:=k2.c2
 have z3:=k2.frozen 3
 have y3:=k2.c3
 have z4:=k2.frozen 4
 have y4:=k2.c4
 have z5:=k2.frozen 5
 have y5:=k2.c5
 have z6:=k2.frozen 6
 have y6:=k2.c6
 rw [hw3] at z0 y0 z1 y1 z2 y2 z3 y3 z4 y4 z5 y5 z6 y6
 have k5:=k2.put7 .zero
 clear k2 hg hg3 h h3 ha hb3
 go_wp2_with fail
 rw [<- hw3]
 change bodyPost _ _ _ _ _ (put7 w3 w.heap.size .zero)
 generalize put7 w3 w.heap.size .zero=W5 at k5 HE ⊢
 have e0:W5.cell? ⟨w.heap.size,0,none⟩=some (.int .u8 0):=k5.c0
 have e1:W5.cell? ⟨w.heap.size,1,none⟩=some (.int .i64 0):=k5.c1
 have e2:W5.cell? ⟨w.heap.size,2,none⟩=some (.int .i64 0):=k5.c2
 have e3:W5.cell? ⟨w.heap.size,3,none⟩=some (.int .i64 0):=k5.c3
 have e4:W5.cell? ⟨w.heap.size,4,none⟩=some (.int .i64 0):=k5.c4
 have e5:W5.cell? ⟨w.heap.size,5,none⟩=some (.bool false):=k5.c5
 have e6:W5.cell? ⟨w.heap.size,6,none⟩=some (.int .i64 0):=k5.c6
 refine bodyPost_ret (v:=.tuple #[Gt.val .zero,.int .i64 8]) (by simp [results,Gt.val,Gt.zero,Wt.zero,Tryz.f100,go_sem,e0,e1,e2,e3,e4,e5,e6]) rfl ?_
 exact ⟨rfl,HE.out.1,HE.out.2⟩
end Go.Proofs.YtnfbncgfpmcpnaaGreat.Mch
namespace Go.Proofs.YtnfbncgfpmcpnaaGreat.Mdl
open Go.RowKit
open Ent (En)
open Mch (Wt Gt whatK putL Chn Frm Fw Fl)
def Pla.cellsL (x:Pla):List Value:=[.int .u8 (x.s:Int),.int .i64 x.f.c,.int .i64 x.f.p,.int .i64 x.f.r0,.int .i64 x.f.r1,.int .i64 x.f.r2,.int .i64 x.f.r3,.int .i64 x.f.r4,.int .i64 x.f.r5,.int .i64 x.f.r6,.int .i64 x.f.r7]
abbrev plaV (x:Pla):Value:=.agg #[.int .u8 (x.s:Int),.int .i64 x.f.c,.int .i64 x.f.p,.int .i64 x.f.r0,.int .i64 x.f.r1,.int .i64 x.f.r2,.int .i64 x.f.r3,.int .i64 x.f.r4,.int .i64 x.f.r5,.int .i64 x.f.r6,.int .i64 x.f.r7]
abbrev plaA (x:Pla):Array Value:=#[.int .u8 (x.s:Int),.int .i64 x.f.c,.int .i64 x.f.p,.int .i64 x.f.r0,.int .i64 x.f.r1,.int .i64 x.f.r2,.int .i64 x.f.r3,.int .i64 x.f.r4,.int .i64 x.f.r5,.int .i64 x.f.r6,.int .i64 x.f.r7]
abbrev PlAt (W:World) (B:Nat) (x:Pla):Prop:=Blk W B 63 (plaA x)
def flatP (T:List Pla):List Value:=T.flatMap Pla.cellsL
theorem pla_len (x:Pla):x.cellsL.length=11:=rfl
abbrev ptrV (C:Nat):Value:=.pointer (some ⟨C,0,none⟩)
theorem pla_one (l:List Pla):∀ u ∈ flatP l,u.oneCell'=true:=by
 intro u hu;obtain ⟨x,_,hu⟩:=List.mem_flatMap.1 hu
 simp only [Pla.cellsL,List.mem_cons,List.not_mem_nil,or_false] at hu
 rcases hu with rfl | rfl | rfl | rfl | rfl | rfl | rfl | rfl | rfl | rfl | rfl <;> rfl
theorem pla_cells {W:World} {B:Nat} {t:TypeId} {x:Pla} (h:Blk W B t (plaA x)):W.cell? ⟨B,0,none⟩=some (.int .u8 (x.s:Int))/\W.cell? ⟨B,1,none⟩=some (.int .i64 x.f.c)/\W.cell? ⟨B,2,none⟩=some (.int .i64 x.f.p)/\W.cell? ⟨B,3,none⟩=some (.int .i64 x.f.r0)/\W.cell? ⟨B,4,none⟩=some (.int .i64 x.f.r1)/\W.cell? ⟨B,5,none⟩=some (.int .i64 x.f.r2)/\W.cell? ⟨B,6,none⟩=some (.int .i64 x.f.r3)/\W.cell? ⟨B,7,none⟩=some (.int .i64 x.f.r4)/\W.cell? ⟨B,8,none⟩=some (.int .i64 x.f.r5)/\W.cell? ⟨B,9,none⟩=some (.int .i64 x.f.r6)/\W.cell? ⟨B,10,none⟩=some (.int .i64 x.f.r7):=
 ⟨h.cell rfl,h.cell rfl,h.cell rfl,h.cell rfl,h.cell rfl,h.cell rfl,h.cell rfl,h.cell rfl,h.cell rfl,h.cell rfl,h.cell rfl⟩
def mdCells (v1 v2 v3 vT vC:Value) (M:Mod):Array Value:=#[v1,v2,v3,.int .i64 (M.most:Int),vT,vC,.int .i64 (M.K 0),.int .i64 (M.K 1),.int .i64 (M.K 2),.int .i64 (M.K 3),.int .i64 (M.K 4),.int .i64 (M.K 5),.int .i64 M.who,.int .i64 M.e]
structure MdAt (W:World) (o:Nat->Nat) (B lo hi:Nat) (v1 v2 v3 vT vC:Value) (Cs:List Nat) (M:Mod):Prop where
 head:Blk W B 81 (mdCells v1 v2 v3 vT vC M)
 hown:o B=1
 prog:PrgAt lo hi W v1 v2 v3 M.p
 pown:∀ k,lo<=k->k<hi->o k=2
 tasks:W.ownsRow 0 63 11 vT M.T.length (flatP M.T)
 town:∀ g,vT.ownBlock=some g->o g=3
 chans:W.ownsRow 0 46 1 vC Cs.length (Cs.map ptrV)
 cown:∀ g,vC.ownBlock=some g->o g=4
 len:Cs.length=M.C.length
 chs:∀ i C c,Cs[i]?=some C->M.C[i]?=some c->Chn W (fun k=>o k=5+i) C c.m c.cl c.buf c.S c.R
 low:∀ k,o k ≠ 0->k<W.heap.size
def Md (W:World) (o:Nat->Nat) (B:Nat) (M:Mod):Prop:=∃ lo hi v1 v2 v3 vT vC Cs,MdAt W o B lo hi v1 v2 v3 vT vC Cs M
section
variable {W W':World} {o:Nat->Nat} {B lo hi:Nat} {v1 v2 v3 vT vC:Value} {Cs:List Nat} {M:Mod}
theorem MdAt.lt (h:MdAt W o B lo hi v1 v2 v3 vT vC Cs M):B<W.heap.size:=h.head.lt
theorem MdAt.p1 (h:MdAt W o B lo hi v1 v2 v3 vT vC Cs M):W.cell? ⟨B,0,none⟩=some (v1):=h.head.cell rfl
theorem MdAt.p2 (h:MdAt W o B lo hi v1 v2 v3 vT vC Cs M):W.cell? ⟨B,1,none⟩=some (v2):=h.head.cell rfl
theorem MdAt.p3 (h:MdAt W o B lo hi v1 v2 v3 vT vC Cs M):W.cell? ⟨B,2,none⟩=some (v3):=h.head.cell rfl
theorem MdAt.mst (h:MdAt W o B lo hi v1 v2 v3 vT vC Cs M):W.cell? ⟨B,3,none⟩=some (.int .i64 (M.most:Int)):=h.head.cell rfl
theorem MdAt.tk (h:MdAt W o B lo hi v1 v2 v3 vT vC Cs M):W.cell? ⟨B,4,none⟩=some (vT):=h.head.cell rfl
theorem MdAt.cn (h:MdAt W o B lo hi v1 v2 v3 vT vC Cs M):W.cell? ⟨B,5,none⟩=some (vC):=h.head.cell rfl
theorem MdAt.k0 (h:MdAt W o B lo hi v1 v2 v3 vT vC Cs M):W.cell? ⟨B,6,none⟩=some (.int .i64 (M.K 0)):=h.head.cell rfl
theorem MdAt.k1 (h:MdAt W o B lo hi v1 v2 v3 vT vC Cs M):W.cell? ⟨B,7,none⟩=some (.int .i64 (M.K 1)):=h.head.cell rfl
theorem MdAt.k2 (h:MdAt W o B lo hi v1 v2 v3 vT vC Cs M):W.cell? ⟨B,8,none⟩=some (.int .i64 (M.K 2)):=h.head.cell rfl
theorem MdAt.k3 (h:MdAt W o B lo hi v1 v2 v3 vT vC Cs M):W.cell? ⟨B,9,none⟩=some (.int .i64 (M.K 3)):=h.head.cell rfl
theorem MdAt.k4 (h:MdAt W o B lo hi v1 v2 v3 vT vC Cs M):W.cell? ⟨B,10,none⟩=some (.int .i64 (M.K 4)):=h.head.cell rfl
theorem MdAt.k5 (h:MdAt W o B lo hi v1 v2 v3 vT vC Cs M):W.cell? ⟨B,11,none⟩=some (.int .i64 (M.K 5)):=h.head.cell rfl
theorem MdAt.wh (h:MdAt W o B lo hi v1 v2 v3 vT vC Cs M):W.cell? ⟨B,12,none⟩=some (.int .i64 M.who):=h.head.cell rfl
theorem MdAt.er (h:MdAt W o B lo hi v1 v2 v3 vT vC Cs M):W.cell? ⟨B,13,none⟩=some (.int .i64 M.e):=h.head.cell rfl
theorem MdAt.frozen (h:MdAt W o B lo hi v1 v2 v3 vT vC Cs M) (k:Nat):W.frozen? ⟨B,k,none⟩=false:=h.head.frozen k
theorem MdAt.kk (h:MdAt W o B lo hi v1 v2 v3 vT vC Cs M) {i:Nat} (hi:i<6):W.cell? ⟨B,6+i,none⟩=some (.int .i64 (M.K i)):=by
 have:i=0 \/ i=1 \/ i=2 \/ i=3 \/ i=4 \/ i=5:=by omega
 rcases this with rfl | rfl | rfl | rfl | rfl | rfl
 ·exact h.k0
 ·exact h.k1
 ·exact h.k2
 ·exact h.k3
 ·exact h.k4
 ·exact h.k5
theorem MdAt.below (h:MdAt W o B lo hi v1 v2 v3 vT vC Cs M) (hb:Below W.heap.size W W'):MdAt W' o B lo hi v1 v2 v3 vT vC Cs M where
 head:=h.head.later hb h.head.lt
 hown:=h.hown
 prog:=h.prog.later hb
 pown:=h.pown
 tasks:=owns_fresh h.tasks hb
 town:=h.town
 chans:=owns_fresh h.chans hb
 cown:=h.cown
 len:=h.len
 chs:=fun i C c hC hc=>(h.chs i C c hC hc).below hb
 low:=fun k hk=>Nat.lt_of_lt_of_le (h.low k hk) hb.size
theorem MdAt.drew (h:MdAt W o B lo hi v1 v2 v3 vT vC Cs M):MdAt W.drew o B lo hi v1 v2 v3 vT vC Cs M:=h.below (Below.refl _ _).drew
theorem Md.below (h:Md W o B M) (hb:Below W.heap.size W W'):Md W' o B M:=by
 obtain ⟨lo,hi,v1,v2,v3,vT,vC,Cs,h⟩:=h
 exact ⟨lo,hi,v1,v2,v3,vT,vC,Cs,h.below hb⟩
theorem keep_row {e:TypeId} {s n:Nat} {v:Value} {xs:List Value} {G:Nat->Prop} (h:W.ownsRow 0 e s v n xs) (hF:Frm G W W') (hG:∀ g,v.ownBlock=some g->¬ G g):W'.ownsRow 0 e s v n xs:=by
 refine ⟨h.1,?_⟩
 rcases h.2 with h0 | ⟨g,cap,cur,rfl,hg,hb,r⟩
 ·exact .inl h0
 ·exact .inr ⟨g,cap,cur,rfl,hg,(hF.block g (Array.getElem?_eq_some_iff.1 hb).1 (hG g rfl)).trans hb,r⟩
theorem keep_chn {G F:Nat->Prop} {C m:Nat} {cl:Bool} {buf:List Int} {S R:List Wt} (h:Chn W F C m cl buf S R) (hF:Frm G W W') (hG:∀ g,F g->¬ G g):Chn W' F C m cl buf S R:=by
 obtain ⟨b,v0,v1,h,h1,h2,h3,h4⟩:=h
 obtain ⟨vs,f,hr,hl⟩:=h.ring
 exact ⟨b,v0,v1,⟨(hF.block C h.lt (hG _ h1)).trans h.head,⟨vs,f,hr.of_block (hF.block b hr.lt (hG _ h2)),hl⟩,keep_row h.sends hF (fun g e=>hG _ (h3 g e)),keep_row h.recvs hF (fun g e=>hG _ (h4 g e)),h.apart⟩,h1,h2,h3,h4⟩
theorem keep_prog {G:Nat->Prop} {p:Prg} (h:PrgAt lo hi W v1 v2 v3 p) (hF:Frm G W W') (hG:∀ k,lo<=k->k<hi->¬ G k):PrgAt lo hi W' v1 v2 v3 p:=
 h.stay (fun b h1 h2=>hF.block b (Nat.lt_of_lt_of_le h2 h.top) (hG b h1 h2)) (Nat.le_trans h.top hF.size)
theorem add0 (g k:Nat):Addr.add ⟨g,0,none⟩ k=⟨g,k,none⟩:=by by_cases e:k=0 <;> simp [Addr.add,e]
theorem MdAt.chan (h:MdAt W o B lo hi v1 v2 v3 vT vC Cs M) {i:Nat} (hi':i<M.C.length):∃ C g cap,Cs[i]?=some C/\vC=.slice (some ⟨g,0,none⟩) Cs.length cap/\W.cell? ⟨g,i,none⟩=some (ptrV C)/\Chn W (fun k=>o k=5+i) C (M.ch i).m (M.ch i).cl (M.ch i).buf (M.ch i).S (M.ch i).R:=by
 have hiC:i<Cs.length:=by rw [h.len];exact hi'
 have hC:=List.getElem?_eq_getElem hiC
 have hc:M.C[i]?=some (M.ch i):=by unfold Mod.ch;rw [Int.toNat_natCast,List.getElem?_eq_getElem hi'];rfl
 rcases id h.chans.2 with ⟨_,h0⟩ | ⟨g,cap,cur,hv,_,_⟩
 ·omega
 refine ⟨_,g,cap,hC,hv,?_,h.chs i _ _ hC hc⟩
 have:=h.chans.cells (g:=g) (by rw [hv];rfl) i (ptrV Cs[i]) (by rw [List.getElem?_map,hC];rfl)
 rw [add0] at this
 exact this
theorem MdAt.place (h:MdAt W o B lo hi v1 v2 v3 vT vC Cs M) {i:Nat} {x:Pla} (hx:M.T[i]?=some x):∃ g cap,vT=.slice (some ⟨g,0,none⟩) M.T.length cap/\∀ j u,x.cellsL[j]?=some u->W.cell? ⟨g,i * 11+j,none⟩=some u:=by
 have hi':=(List.getElem?_eq_some_iff.1 hx).1
 rcases id h.tasks.2 with ⟨_,h0⟩ | ⟨g,cap,cur,hv,_,_⟩
 ·omega
 refine ⟨g,cap,hv,fun j u hj=>?_⟩
 have hj11:j<11:=by have:=(List.getElem?_eq_some_iff.1 hj).1;simpa [pla_len] using this
 have:=h.tasks.cells (g:=g) (by rw [hv];rfl) (i * 11+j) u (by rw [flatP,flat_get Pla.cellsL 11 pla_len _ _ _ hj11,hx];exact hj)
 rw [add0] at this
 exact this
end
structure Goes (o o':Nat->Nat) (w w':World):Prop where
 old:∀ k,k<w.heap.size->o' k=o k
 frm:Frm (fun k=>o k ≠ 0) w w'
theorem Goes.refl (o:Nat->Nat) (w:World):Goes o o w w:=⟨fun _ _=>rfl,Frm.refl _ _⟩
theorem Goes.trans {o o1 o2:Nat->Nat} {w w1 w2:World} (h:Goes o o1 w w1) (k:Goes o1 o2 w1 w2):Goes o o2 w w2:=
 ⟨fun i hi=>(k.old i (Nat.lt_of_lt_of_le hi h.frm.size)).trans (h.old i hi),Mch.Frm.trans_new h.frm k.frm (fun i hi=>by
  by_cases hl:i<w.heap.size
  ·exact .inl (by rw [<- h.old i hl];exact hi)
  ·exact .inr (by omega))⟩
theorem Goes.of_below {o:Nat->Nat} {w w':World} (h:Below w.heap.size w w'):Goes o o w w':=⟨fun _ _=>rfl,Frm.of_below h _⟩
theorem Goes.of_frm {o:Nat->Nat} {w w':World} {G:Nat->Prop} (h:Frm G w w') (hG:∀ k,G k->o k ≠ 0):Goes o o w w':=⟨fun _ _=>rfl,h.mono hG⟩
def newO (o:Nat->Nat) (w w':World) (q:Nat):Nat->Nat:=fun k=>if k<w.heap.size then o k else if k<w'.heap.size then q else 0
section
variable {W W':World} {o:Nat->Nat} {B lo hi:Nat} {v1 v2 v3 vT vC:Value} {Cs:List Nat} {M:Mod}
theorem newO_old {q k:Nat} (h:k<W.heap.size):newO o W W' q k=o k:=by simp [newO,h]
theorem MdAt.channed (h:MdAt W o B lo hi v1 v2 v3 vT vC Cs M) {i C:Nat} {c:Cha} (hC:Cs[i]?=some C) (hc:Chn W' (Fw (fun k=>o k=5+i) W) C c.m c.cl c.buf c.S c.R) (hF:Frm (fun k=>o k=5+i) W W') :
  MdAt W' (newO o W W' (5+i)) B lo hi v1 v2 v3 vT vC Cs { M with C:=M.C.set i c } where
 head:=(hF.block B h.head.lt (by rw [h.hown];omega)).trans h.head
 hown:=by rw [newO_old h.head.lt];exact h.hown
 prog:=keep_prog h.prog hF (fun k h1 h2=>by rw [h.pown k h1 h2];omega)
 pown:=fun k h1 h2=>by rw [newO_old (Nat.lt_of_lt_of_le h2 h.prog.top)];exact h.pown k h1 h2
 tasks:=keep_row h.tasks hF (fun g e=>by rw [h.town g e];omega)
 town:=fun g e=>by rw [newO_old (h.low g (by rw [h.town g e];omega))];exact h.town g e
 chans:=keep_row h.chans hF (fun g e=>by rw [h.cown g e];omega)
 cown:=fun g e=>by rw [newO_old (h.low g (by rw [h.cown g e];omega))];exact h.cown g e
 len:=by simp [h.len]
 chs:=fun j D d hD hd=>by
  by_cases e:j=i
  ·subst e
   rw [hC] at hD
   cases hD
   have hjl:j<M.C.length:=by rw [<- h.len];exact (List.getElem?_eq_some_iff.1 hC).1
   simp only [List.getElem?_set_self hjl,Option.some.injEq] at hd
   subst hd
   refine hc.fl.mono (fun k hk=>?_)
   obtain ⟨h1,h2⟩:=hk
   rcases h1 with h1 | h1
   ·rw [newO_old (h.low k (by rw [h1];omega))];exact h1
   ·simp [newO,h2,Nat.not_lt.2 h1]
  ·rw [List.getElem?_set_ne (Ne.symm e)] at hd
   have hj:=h.chs j D d hD hd
   refine (keep_chn hj hF (fun g hg=>by rw [hg];omega)).fl.mono (fun k hk=>?_)
   rw [newO_old (h.low k (by rw [hk.1];omega))];exact hk.1
 low:=fun k hk=>by
  unfold newO at hk
  split at hk
  ·exact Nat.lt_of_lt_of_le (h.low k hk) hF.size
  ·split at hk
   ·assumption
   ·exact absurd rfl hk
theorem goes_channed {i:Nat} (hF:Frm (fun k=>o k=5+i) W W'):Goes o (newO o W W' (5+i)) W W':=⟨fun _ hk=>newO_old hk,hF.mono (fun k e=>by rw [e];omega)⟩
end
open Go.RowKit
theorem mneed_ok (k:Int) (w:World):Calls Tryz.prog 24 #[.bool true,.int .i64 k] w fun e w'=>e=.returned (.tuple #[])/\w'=w:=by
 go_enter Tryz.func24,Tryz.ntmps24
 go_wp2_with fail
 go_end0
 exact ⟨rfl,rfl⟩
theorem mneed_bad (k:Int) (w:World):Calls Tryz.prog 24 #[.bool false,.int .i64 k] w fun e w'=>e=.panicked [{ v:=.iface 68 (.agg #[.int .i64 k]),recovered:=false }]/\w'=w:=by
 go_enter Tryz.func24,Tryz.ntmps24
 go_wp2_with fail
 exact ⟨rfl,rfl,rfl⟩
theorem assertNilM (w:World):(Instr.typeAssert Value.nilIface 20 68 true).run Tryz.prog w=.ok (.tuple #[.agg #[.int .i64 0],.bool false]) w:=by kernel_rfl
theorem assertRef (x:Int) (w:World):(Instr.typeAssert (.iface 68 (.agg #[.int .i64 x])) 20 68 true).run Tryz.prog w=.ok (.tuple #[.agg #[.int .i64 x],.bool true]) w:=by kernel_rfl
set_option linter.unusedSimpArgs false in
theorem new_idle (E:Nat) (w:World) :
  CallsD Tryz.prog 22 #[.pointer (some ⟨E,0,none⟩)] .returning w fun e u' w'=>e=.returned (.tuple #[])/\u'=.returning/\Below w.heap.size w w':=by
 refine callsD_of_wpS Tryz.func22 rfl fun c₀ cs hu=>?_
 have hrec:recoverD (c₀::cs)=none:=by simp [recoverD,hu]
 apply wpS_seq
 simp only [Tryz.ntmps22,List.size_toArray,List.length_cons,List.length_nil,Nat.reduceAdd,Nat.reduceSub,Array.replicate_succ,Array.replicate_zero,List.push_toArray,List.append_toArray,List.nil_append,List.cons_append]
 refine wpS_region_steps ?_
 refine StepsS.none ?h1 (w':=w) ?h2 hrec ?_
 case h1=>kernel_rfl
 case h2=>rfl
 simp only [Act.put,tA,tZ,tS]
 refine StepsS.value ?h1 (w':=w) (v:=.tuple #[.agg #[.int .i64 0],.bool false]) ?h2 ?_
 case h1=>kernel_rfl
 case h2=>simp [execOp,go_sem,assertNilM]
 try simp only [Act.put,tA,tZ,tS]
 refine StepsS.value ?h1 (w':=w) (v:=.tuple #[.agg #[.int .i64 0],.bool false]) ?h2 ?_
 case h1=>kernel_rfl
 case h2=>simp [execOp,go_sem]
 try simp only [Act.put,tA,tZ,tS]
 refine StepsS.value ?h1 (w':=w) (v:=.agg #[.int .i64 0]) ?h2 ?_
 case h1=>kernel_rfl
 case h2=>simp [execOp,go_sem]
 try simp only [Act.put,tA,tZ,tS]
 refine StepsS.value ?h1 (w':=w) (v:=.bool false) ?h2 ?_
 case h1=>kernel_rfl
 case h2=>simp [execOp,go_sem]
 try simp only [Act.put,tA,tZ,tS]
 refine StepsS.value ?h1 (w':=(w.alloc (.cells #[.int .i64 0] 68))) (v:=.pointer (some ⟨w.heap.size,0,none⟩)) ?h2 ?_
 case h1=>kernel_rfl
 case h2=>simp [execOp,go_sem]
 try simp only [Act.put,tA,tZ,tS]
 refine StepsS.skip ?h1 (w':=(w.alloc (.cells #[.int .i64 0] 68)))  ?h2 ?_
 case h1=>kernel_rfl
 case h2=>simp [execOp,go_sem]
 try simp only [Act.put,tA,tZ,tS]
 refine StepsS.value ?h1 (w':=(w.alloc (.cells #[.int .i64 0] 68))) (v:=.bool false) ?h2 ?_
 case h1=>kernel_rfl
 case h2=>simp [execOp,go_sem]
 try simp only [Act.put,tA,tZ,tS]
 refine StepsS.done ?_
 refine wpS_of_wp ?_
 go_wp2_with fail
 have hb0:Below w.heap.size w (w.alloc (.cells #[.int .i64 0] 68)):=(Below.refl _ w).alloc (Nat.le_refl _) _
 cases c₀
 simp only at hu
 subst hu
 simp [bodyPostS,results,Tryz.results22,hb0]
set_option linter.unusedSimpArgs false in
theorem new_caught (E:Nat) (x:Int) (older:List PanicEntry) (w:World) (x0:Int) (h:Boxed w E 31 (.int .i64 x0)) :
  CallsD Tryz.prog 22 #[.pointer (some ⟨E,0,none⟩)] (.panicking ({ v:=.iface 68 (.agg #[.int .i64 x]),recovered:=false }::older)) w fun e u' w'=>
   e=.returned (.tuple #[])/\u'=.panicking ({ v:=.iface 68 (.agg #[.int .i64 x]),recovered:=true }::older)/\Boxed w' E 31 (.int .i64 x)/\But [E] w w':=by
 have hf:=h.frozen
 have hc:=h.cell
 have hl:=h.lt
 refine callsD_of_wpS Tryz.func22 rfl fun c₀ cs hu=>?_
 have hrec:recoverD (c₀::cs)=some (.iface 68 (.agg #[.int .i64 x]),{ c₀ with mode:=.panicking ({ v:=.iface 68 (.agg #[.int .i64 x]),recovered:=true }::older) }::cs):=by simp [recoverD,hu]
 apply wpS_seq
 simp only [Tryz.ntmps22,List.size_toArray,List.length_cons,List.length_nil,Nat.reduceAdd,Nat.reduceSub,Array.replicate_succ,Array.replicate_zero,List.push_toArray,List.append_toArray,List.nil_append,List.cons_append]
 refine wpS_region_steps ?_
 refine StepsS.recover ?h1 (w':=w) ?h2 hrec ?_
 case h1=>kernel_rfl
 case h2=>rfl
 simp only [Act.put,tA,tZ,tS]
 refine StepsS.value ?h1 (w':=w) (v:=.tuple #[.agg #[.int .i64 x],.bool true]) ?h2 ?_
 case h1=>kernel_rfl
 case h2=>simp [execOp,go_sem,assertRef]
 try simp only [Act.put,tA,tZ,tS]
 refine StepsS.value ?h1 (w':=w) (v:=.tuple #[.agg #[.int .i64 x],.bool true]) ?h2 ?_
 case h1=>kernel_rfl
 case h2=>simp [execOp,go_sem]
 try simp only [Act.put,tA,tZ,tS]
 refine StepsS.value ?h1 (w':=w) (v:=.agg #[.int .i64 x]) ?h2 ?_
 case h1=>kernel_rfl
 case h2=>simp [execOp,go_sem]
 try simp only [Act.put,tA,tZ,tS]
 refine StepsS.value ?h1 (w':=w) (v:=.bool true) ?h2 ?_
 case h1=>kernel_rfl
 case h2=>simp [execOp,go_sem]
 try simp only [Act.put,tA,tZ,tS]
 refine StepsS.value ?h1 (w':=(w.alloc (.cells #[.int .i64 0] 68))) (v:=.pointer (some ⟨w.heap.size,0,none⟩)) ?h2 ?_
 case h1=>kernel_rfl
 case h2=>simp [execOp,go_sem]
 try simp only [Act.put,tA,tZ,tS]
 refine StepsS.skip ?h1 (w':=(w.alloc (.cells #[.int .i64 x] 68)))  ?h2 ?_
 case h1=>kernel_rfl
 case h2=>simp [execOp,go_sem]
 try simp only [Act.put,tA,tZ,tS]
 refine StepsS.value ?h1 (w':=(w.alloc (.cells #[.int .i64 x] 68))) (v:=.bool true) ?h2 ?_
 case h1=>kernel_rfl
 case h2=>simp [execOp,go_sem]
 try simp only [Act.put,tA,tZ,tS]
 refine StepsS.done ?_
 refine wpS_of_wp ?_
 have r1:Boxed ((w.setCell ⟨E,0,none⟩ (.int .i64 x)).alloc (.cells #[.int .i64 x] 68)) E 31 (.int .i64 x):=(h.set _).alloc _
 have r2:But [E] w ((w.setCell ⟨E,0,none⟩ (.int .i64 x)).alloc (.cells #[.int .i64 x] 68)):=((But.refl [E] w).set (p:=⟨E,0,none⟩) (.inl (by simp)) _).alloc _
 go_wp2_with fail
 cases c₀
 simp only at hu
 subst hu
 simp [bodyPostS,results,Tryz.results22,r1,r2]
set_option linter.unusedSimpArgs false in
theorem stand_idle (E:Nat) (w:World) :
  CallsD Tryz.prog 116 #[.pointer (some ⟨E,0,none⟩)] .returning w fun e u' w'=>e=.returned (.tuple #[])/\u'=.returning/\Below w.heap.size w w':=by
 refine callsD_of_wpS Tryz.func116 rfl fun c₀ cs hu=>?_
 have hrec:recoverD (c₀::cs)=none:=by simp [recoverD,hu]
 apply wpS_seq
 simp only [Tryz.ntmps116,List.size_toArray,List.length_cons,List.length_nil,Nat.reduceAdd,Nat.reduceSub,Array.replicate_succ,Array.replicate_zero,List.push_toArray,List.append_toArray,List.nil_append,List.cons_append]
 refine wpS_region_steps ?_
 refine StepsS.none ?h1 (w':=w) ?h2 hrec ?_
 case h1=>kernel_rfl
 case h2=>rfl
 simp only [Act.put,tA,tZ,tS]
 refine StepsS.value ?h1 (w':=w) (v:=.tuple #[.agg #[.int .i64 0],.bool false]) ?h2 ?_
 case h1=>kernel_rfl
 case h2=>simp [execOp,go_sem,assertNilM]
 try simp only [Act.put,tA,tZ,tS]
 refine StepsS.value ?h1 (w':=w) (v:=.tuple #[.agg #[.int .i64 0],.bool false]) ?h2 ?_
 case h1=>kernel_rfl
 case h2=>simp [execOp,go_sem]
 try simp only [Act.put,tA,tZ,tS]
 refine StepsS.value ?h1 (w':=w) (v:=.agg #[.int .i64 0]) ?h2 ?_
 case h1=>kernel_rfl
 case h2=>simp [execOp,go_sem]
 try simp only [Act.put,tA,tZ,tS]
 refine StepsS.value ?h1 (w':=w) (v:=.bool false) ?h2 ?_
 case h1=>kernel_rfl
 case h2=>simp [execOp,go_sem]
 try simp only [Act.put,tA,tZ,tS]
 refine StepsS.value ?h1 (w':=(w.alloc (.cells #[.int .i64 0] 68))) (v:=.pointer (some ⟨w.heap.size,0,none⟩)) ?h2 ?_
 case h1=>kernel_rfl
 case h2=>simp [execOp,go_sem]
 try simp only [Act.put,tA,tZ,tS]
 refine StepsS.skip ?h1 (w':=(w.alloc (.cells #[.int .i64 0] 68)))  ?h2 ?_
 case h1=>kernel_rfl
 case h2=>simp [execOp,go_sem]
 try simp only [Act.put,tA,tZ,tS]
 refine StepsS.value ?h1 (w':=(w.alloc (.cells #[.int .i64 0] 68))) (v:=.bool false) ?h2 ?_
 case h1=>kernel_rfl
 case h2=>simp [execOp,go_sem]
 try simp only [Act.put,tA,tZ,tS]
 refine StepsS.done ?_
 refine wpS_of_wp ?_
 go_wp2_with fail
 have hb0:Below w.heap.size w (w.alloc (.cells #[.int .i64 0] 68)):=(Below.refl _ w).alloc (Nat.le_refl _) _
 cases c₀
 simp only at hu
 subst hu
 simp [bodyPostS,results,Tryz.results116,hb0]
set_option linter.unusedSimpArgs false in
theorem stand_caught (E:Nat) (x:Int) (older:List PanicEntry) (w:World) (x0:Int) (h:Boxed w E 31 (.int .i64 x0)) :
  CallsD Tryz.prog 116 #[.pointer (some ⟨E,0,none⟩)] (.panicking ({ v:=.iface 68 (.agg #[.int .i64 x]),recovered:=false }::older)) w fun e u' w'=>
   e=.returned (.tuple #[])/\u'=.panicking ({ v:=.iface 68 (.agg #[.int .i64 x]),recovered:=true }::older)/\Boxed w' E 31 (.int .i64 x)/\But [E] w w':=by
 have hf:=h.frozen
 have hc:=h.cell
 have hl:=h.lt
 refine callsD_of_wpS Tryz.func116 rfl fun c₀ cs hu=>?_
 have hrec:recoverD (c₀::cs)=some (.iface 68 (.agg #[.int .i64 x]),{ c₀ with mode:=.panicking ({ v:=.iface 68 (.agg #[.int .i64 x]),recovered:=true }::older) }::cs):=by simp [recoverD,hu]
 apply wpS_seq
 simp only [Tryz.ntmps116,List.size_toArray,List.length_cons,List.length_nil,Nat.reduceAdd,Nat.reduceSub,Array.replicate_succ,Array.replicate_zero,List.push_toArray,List.append_toArray,List.nil_append,List.cons_append]
 refine wpS_region_steps ?_
 refine StepsS.recover ?h1 (w':=w) ?h2 hrec ?_
 case h1=>kernel_rfl
 case h2=>rfl
 simp only [Act.put,tA,tZ,tS]
 refine StepsS.value ?h1 (w':=w) (v:=.tuple #[.agg #[.int .i64 x],.bool true]) ?h2 ?_
 case h1=>kernel_rfl
 case h2=>simp [execOp,go_sem,assertRef]
 try simp only [Act.put,tA,tZ,tS]
 refine StepsS.value ?h1 (w':=w) (v:=.tuple #[.agg #[.int .i64 x],.bool true]) ?h2 ?_
 case h1=>kernel_rfl
 case h2=>simp [execOp,go_sem]
 try simp only [Act.put,tA,tZ,tS]
 refine StepsS.value ?h1 (w':=w) (v:=.agg #[.int .i64 x]) ?h2 ?_
 case h1=>kernel_rfl
 case h2=>simp [execOp,go_sem]
 try simp only [Act.put,tA,tZ,tS]
 refine StepsS.value ?h1 (w':=w) (v:=.bool true) ?h2 ?_
 case h1=>kernel_rfl
 case h2=>simp [execOp,go_sem]
 try simp only [Act.put,tA,tZ,tS]
 refine StepsS.value ?h1 (w':=(w.alloc (.cells #[.int .i64 0] 68))) (v:=.pointer (some ⟨w.heap.size,0,none⟩)) ?h2 ?_
 case h1=>kernel_rfl
 case h2=>simp [execOp,go_sem]
 try simp only [Act.put,tA,tZ,tS]
 refine StepsS.skip ?h1 (w':=(w.alloc (.cells #[.int .i64 x] 68)))  ?h2 ?_
 case h1=>kernel_rfl
 case h2=>simp [execOp,go_sem]
 try simp only [Act.put,tA,tZ,tS]
 refine StepsS.value ?h1 (w':=(w.alloc (.cells #[.int .i64 x] 68))) (v:=.bool true) ?h2 ?_
 case h1=>kernel_rfl
 case h2=>simp [execOp,go_sem]
 try simp only [Act.put,tA,tZ,tS]
 refine StepsS.done ?_
 refine wpS_of_wp ?_
 have r1:Boxed ((w.setCell ⟨E,0,none⟩ (.int .i64 x)).alloc (.cells #[.int .i64 x] 68)) E 31 (.int .i64 x):=(h.set _).alloc _
 have r2:But [E] w ((w.setCell ⟨E,0,none⟩ (.int .i64 x)).alloc (.cells #[.int .i64 x] 68)):=((But.refl [E] w).set (p:=⟨E,0,none⟩) (.inl (by simp)) _).alloc _
 go_wp2_with fail
 cases c₀
 simp only at hu
 subst hu
 simp [bodyPostS,results,Tryz.results116,r1,r2]
set_option linter.unusedSimpArgs false in
theorem apply_idle (E:Nat) (w:World) :
  CallsD Tryz.prog 29 #[.pointer (some ⟨E,0,none⟩)] .returning w fun e u' w'=>e=.returned (.tuple #[])/\u'=.returning/\Below w.heap.size w w':=by
 refine callsD_of_wpS Tryz.func29 rfl fun c₀ cs hu=>?_
 have hrec:recoverD (c₀::cs)=none:=by simp [recoverD,hu]
 apply wpS_seq
 simp only [Tryz.ntmps29,List.size_toArray,List.length_cons,List.length_nil,Nat.reduceAdd,Nat.reduceSub,Array.replicate_succ,Array.replicate_zero,List.push_toArray,List.append_toArray,List.nil_append,List.cons_append]
 refine wpS_region_steps ?_
 refine StepsS.none ?h1 (w':=w) ?h2 hrec ?_
 case h1=>kernel_rfl
 case h2=>rfl
 simp only [Act.put,tA,tZ,tS]
 refine StepsS.value ?h1 (w':=w) (v:=.tuple #[.agg #[.int .i64 0],.bool false]) ?h2 ?_
 case h1=>kernel_rfl
 case h2=>simp [execOp,go_sem,assertNilM]
 try simp only [Act.put,tA,tZ,tS]
 refine StepsS.value ?h1 (w':=w) (v:=.tuple #[.agg #[.int .i64 0],.bool false]) ?h2 ?_
 case h1=>kernel_rfl
 case h2=>simp [execOp,go_sem]
 try simp only [Act.put,tA,tZ,tS]
 refine StepsS.value ?h1 (w':=w) (v:=.agg #[.int .i64 0]) ?h2 ?_
 case h1=>kernel_rfl
 case h2=>simp [execOp,go_sem]
 try simp only [Act.put,tA,tZ,tS]
 refine StepsS.value ?h1 (w':=w) (v:=.bool false) ?h2 ?_
 case h1=>kernel_rfl
 case h2=>simp [execOp,go_sem]
 try simp only [Act.put,tA,tZ,tS]
 refine StepsS.value ?h1 (w':=(w.alloc (.cells #[.int .i64 0] 68))) (v:=.pointer (some ⟨w.heap.size,0,none⟩)) ?h2 ?_
 case h1=>kernel_rfl
 case h2=>simp [execOp,go_sem]
 try simp only [Act.put,tA,tZ,tS]
 refine StepsS.skip ?h1 (w':=(w.alloc (.cells #[.int .i64 0] 68)))  ?h2 ?_
 case h1=>kernel_rfl
 case h2=>simp [execOp,go_sem]
 try simp only [Act.put,tA,tZ,tS]
 refine StepsS.value ?h1 (w':=(w.alloc (.cells #[.int .i64 0] 68))) (v:=.bool false) ?h2 ?_
 case h1=>kernel_rfl
 case h2=>simp [execOp,go_sem]
 try simp only [Act.put,tA,tZ,tS]
 refine StepsS.done ?_
 refine wpS_of_wp ?_
 go_wp2_with fail
 have hb0:Below w.heap.size w (w.alloc (.cells #[.int .i64 0] 68)):=(Below.refl _ w).alloc (Nat.le_refl _) _
 cases c₀
 simp only at hu
 subst hu
 simp [bodyPostS,results,Tryz.results29,hb0]
set_option linter.unusedSimpArgs false in
theorem apply_caught (E:Nat) (x:Int) (older:List PanicEntry) (w:World) (x0:Int) (h:Boxed w E 31 (.int .i64 x0)) :
  CallsD Tryz.prog 29 #[.pointer (some ⟨E,0,none⟩)] (.panicking ({ v:=.iface 68 (.agg #[.int .i64 x]),recovered:=false }::older)) w fun e u' w'=>
   e=.returned (.tuple #[])/\u'=.panicking ({ v:=.iface 68 (.agg #[.int .i64 x]),recovered:=true }::older)/\Boxed w' E 31 (.int .i64 x)/\But [E] w w':=by
 have hf:=h.frozen
 have hc:=h.cell
 have hl:=h.lt
 refine callsD_of_wpS Tryz.func29 rfl fun c₀ cs hu=>?_
 have hrec:recoverD (c₀::cs)=some (.iface 68 (.agg #[.int .i64 x]),{ c₀ with mode:=.panicking ({ v:=.iface 68 (.agg #[.int .i64 x]),recovered:=true }::older) }::cs):=by simp [recoverD,hu]
 apply wpS_seq
 simp only [Tryz.ntmps29,List.size_toArray,List.length_cons,List.length_nil,Nat.reduceAdd,Nat.reduceSub,Array.replicate_succ,Array.replicate_zero,List.push_toArray,List.append_toArray,List.nil_append,List.cons_append]
 refine wpS_region_steps ?_
 refine StepsS.recover ?h1 (w':=w) ?h2 hrec ?_
 case h1=>kernel_rfl
 case h2=>rfl
 simp only [Act.put,tA,tZ,tS]
 refine StepsS.value ?h1 (w':=w) (v:=.tuple #[.agg #[.int .i64 x],.bool true]) ?h2 ?_
 case h1=>kernel_rfl
 case h2=>simp [execOp,go_sem,assertRef]
 try simp only [Act.put,tA,tZ,tS]
 refine StepsS.value ?h1 (w':=w) (v:=.tuple #[.agg #[.int .i64 x],.bool true]) ?h2 ?_
 case h1=>kernel_rfl
 case h2=>simp [execOp,go_sem]
 try simp only [Act.put,tA,tZ,tS]
 refine StepsS.value ?h1 (w':=w) (v:=.agg #[.int .i64 x]) ?h2 ?_
 case h1=>kernel_rfl
 case h2=>simp [execOp,go_sem]
 try simp only [Act.put,tA,tZ,tS]
 refine StepsS.value ?h1 (w':=w) (v:=.bool true) ?h2 ?_
 case h1=>kernel_rfl
 case h2=>simp [execOp,go_sem]
 try simp only [Act.put,tA,tZ,tS]
 refine StepsS.value ?h1 (w':=(w.alloc (.cells #[.int .i64 0] 68))) (v:=.pointer (some ⟨w.heap.size,0,none⟩)) ?h2 ?_
 case h1=>kernel_rfl
 case h2=>simp [execOp,go_sem]
 try simp only [Act.put,tA,tZ,tS]
 refine StepsS.skip ?h1 (w':=(w.alloc (.cells #[.int .i64 x] 68)))  ?h2 ?_
 case h1=>kernel_rfl
 case h2=>simp [execOp,go_sem]
 try simp only [Act.put,tA,tZ,tS]
 refine StepsS.value ?h1 (w':=(w.alloc (.cells #[.int .i64 x] 68))) (v:=.bool true) ?h2 ?_
 case h1=>kernel_rfl
 case h2=>simp [execOp,go_sem]
 try simp only [Act.put,tA,tZ,tS]
 refine StepsS.done ?_
 refine wpS_of_wp ?_
 have r1:Boxed ((w.setCell ⟨E,0,none⟩ (.int .i64 x)).alloc (.cells #[.int .i64 x] 68)) E 31 (.int .i64 x):=(h.set _).alloc _
 have r2:But [E] w ((w.setCell ⟨E,0,none⟩ (.int .i64 x)).alloc (.cells #[.int .i64 x] 68)):=((But.refl [E] w).set (p:=⟨E,0,none⟩) (.inl (by simp)) _).alloc _
 go_wp2_with fail
 cases c₀
 simp only at hu
 subst hu
 simp [bodyPostS,results,Tryz.results29,r1,r2]
open Go.RowKit Go.Shelf
open Ent (En)
open Mch (Wt Gt whatK putL Chn Frm Fw Fl grown_below below1 below_nx owns_slice' boxed_below)
attribute [local go_sem] Oper.semAt_some
section
variable {o:Nat->Nat} {B:Nat} {M:Mod}
theorem halted_any (w:World) (h:Md w o B M):Calls Tryz.prog 30 #[ptrV B] w fun e w'=>e=.returned (.bool (M.e != 0))/\w'=w:=by
 obtain ⟨lo,hi,v1,v2,v3,vT,vC,Cs,h⟩:=h
 have he:=h.er
 clear h
 go_enter Tryz.func30,Tryz.ntmps30
 go_wp2_with fail
 go_ret
 exact ⟨rfl,rfl⟩
theorem all_any (p:Option Addr) (w:World) :
  Calls Tryz.prog 45 #[.pointer p] w fun e w'=>e=.returned (.func (.func 87) #[] #[.pointer (some ⟨w.heap.size,0,none⟩)])/\w'=w.alloc (.cells #[.pointer p] 30):=by
 go_enter Tryz.func45,Tryz.ntmps45
 go_wp2_with fail
 go_ret
 exact ⟨rfl,rfl⟩
end
def enumT (T:List Pla):List (Nat × Pla):=T.zipIdx.map fun p=>(p.2,p.1)
theorem enumT_len (T:List Pla):(enumT T).length=T.length:=by simp [enumT]
theorem enumT_at (T:List Pla) (j:Nat):(enumT T)[j]?=T[j]?.map fun x=>(j,x):=by
 unfold enumT
 rw [List.getElem?_map,List.getElem?_zipIdx]
 cases T[j]? <;> simp
def encT (x:Nat × Pla):Array Value:=#[.int .i64 (x.1:Int),plaV x.2]
theorem take_snocT (T:List Pla) {j:Nat} {x:Pla} (h:T[j]?=some x):(enumT T).take (j+1)=(enumT T).take j ++ [(j,x)]:=by
 rw [List.take_add_one,enumT_at,h];rfl
theorem rowP_at {W:World} {b:Nat} {v:Value} {xs:List Pla} (h:W.ownsRow b 63 11 v xs.length (flatP xs)) {j:Nat} {x:Pla} (hj:xs[j]?=some x) :
    ∃ g cap,v=.slice (some ⟨g,0,none⟩) xs.length cap/\W.cell? ⟨g,j * 11,none⟩=some (.int .u8 (x.s:Int))/\W.cell? ⟨g,j * 11+1,none⟩=some (.int .i64 x.f.c)
 /\ W.cell? ⟨g,j * 11+2,none⟩=some (.int .i64 x.f.p)
 /\ W.cell? ⟨g,j * 11+3,none⟩=some (.int .i64 x.f.r0)
 /\ W.cell? ⟨g,j * 11+4,none⟩=some (.int .i64 x.f.r1)
 /\ W.cell? ⟨g,j * 11+5,none⟩=some (.int .i64 x.f.r2)
 /\ W.cell? ⟨g,j * 11+6,none⟩=some (.int .i64 x.f.r3)
 /\ W.cell? ⟨g,j * 11+7,none⟩=some (.int .i64 x.f.r4)
 /\ W.cell? ⟨g,j * 11+8,none⟩=some (.int .i64 x.f.r5)
 /\ W.cell? ⟨g,j * 11+9,none⟩=some (.int .i64 x.f.r6)
 /\ W.cell? ⟨g,j * 11+10,none⟩=some (.int .i64 x.f.r7)
 := by
  have hi':=(List.getElem?_eq_some_iff.1 hj).1
  rcases id h.2 with ⟨_,h0⟩ | ⟨g,cap,cur,hv,_,_⟩
  · omega
  have key:∀ k u,k<11->x.cellsL[k]?=some u->W.cell? ⟨g,j * 11+k,none⟩=some u:=fun k u hk hu=>by
    have:=h.cells (g:=g) (by rw [hv];rfl) (j * 11+k) u (by rw [flatP,flat_get Pla.cellsL 11 pla_len _ _ _ hk,hj];exact hu)
    rw [add0] at this
    exact this
  exact ⟨g,cap,hv,key 0 _ (by omega) rfl,key 1 _ (by omega) rfl,key 2 _ (by omega) rfl,key 3 _ (by omega) rfl,key 4 _ (by omega) rfl,key 5 _ (by omega) rfl,key 6 _ (by omega) rfl,key 7 _ (by omega) rfl,key 8 _ (by omega) rfl,key 9 _ (by omega) rfl,key 10 _ (by omega) rfl⟩
theorem all1_in (n:Nat) (hn:2<=n) (l Bm B:Nat) (v:Value) (T:List Pla) (w0:World) (J Jx:List (Nat × Pla)->World->Prop)
  (hY:∀ pre (x:Nat × Pla) W,J pre W->pre.length<1000->YieldAt Fence.wide (n - 1) Tryz.prog l (encT x) W fun e W'=>
   (e=.returned (.bool true)/\J (pre ++ [x]) W'/\Below w0.heap.size W W') \/ (e=.returned (.bool false)/\Jx (pre ++ [x]) W'))
  (W:World) (hBm:Boxed W Bm 30 (ptrV B)) (hcell:W.cell? ⟨B,4,none⟩=some v) (hrow:w0.ownsRow 0 63 11 v T.length (flatP T)) (hl:T.length<=1000)
  (hW:Below w0.heap.size w0 W) (hJ:AbidesFrom W.heap.size J) (h0:J [] W) :
  CallsIn Fence.wide n Tryz.prog 87 #[.func (.yield l) #[] #[],.pointer (some ⟨Bm,0,none⟩)] W fun e W'=>(∃ v,e=.returned v) /\
   ((∃ ys,ys=enumT T/\J ys W') \/ (∃ pre,pre <+: enumT T/\Jx pre W')):=by
 have hcc:=hBm.cell
 obtain ⟨a,c,rfl⟩:=owns_slice' hrow
 refine callsIn_of_wp Tryz.func87 rfl trivial ?_ rfl
 simp only [Tryz.ntmps87,List.size_toArray,List.length_cons,List.length_nil,Nat.reduceAdd,Nat.reduceSub,Array.replicate_succ,Array.replicate_zero,List.push_toArray,List.append_toArray,List.nil_append,List.cons_append]
 gi_wp2
 gi_loopw [12] (fun iv wr=>∃ j:Nat,j<=T.length/\iv=.int .i64 j/\J ((enumT T).take j) wr/\Below w0.heap.size w0 wr) (fun iv _=>T.length - (intOf iv).toNat)
 case atStart=>exact ⟨0,Nat.zero_le _,rfl,h0,hW⟩
 case round=>
  clear hcc hcell h0 hW
  obtain ⟨j,hj,rfl,hJi,hWr⟩:=hrel
  by_cases hlt:j<T.length
  ·have hlt':(j:Int)<(T.length:Int):=by omega
   have q0:(0:Int)<=(j:Int):=by omega
   obtain ⟨x,hxj⟩:∃ x,T[j]?=some x:=⟨_,List.getElem?_eq_getElem hlt⟩
   have hrw:=hrow.kept (grown_below hWr) (by cases (Value.slice a T.length c).ownBlock <;> simp)
   obtain ⟨g,cap,he,x0,x1,x2,x3,x4,x5,x6,x7,x8,x9,x10⟩:=rowP_at hrw hxj
   obtain ⟨rfl,rfl⟩:a=some ⟨g,0,none⟩/\c=cap:=by cases he;exact ⟨rfl,rfl⟩
   have HT:=Lib.hid (take_snocT T hxj)
   have HP:Hid ((enumT T).take (j+1) <+: enumT T):=Lib.hid (List.take_prefix _ _)
   have hb1:=below1 wr (.cells (plaA x) 63)
   have hJ1:=hJ _ _ _ none hJi (grown_below hb1) (fun r e=>by cases e)
   have hW1:=below_nx hWr hb1 (Nat.le_refl _)
   have hlen:((enumT T).take j).length<1000:=by rw [List.length_take];omega
   obtain ⟨fn,tmps,assign,body,hy,hR⟩:=hY _ (j,x) _ hJ1 hlen
   unfold encT at hy
   clear hxj hJi hrw he hlen hJ1 hb1
   gi_wp2
   refine ⟨fun _=>by omega,hR.mono ?_⟩
   clear hy hR
   rintro e W3 (⟨rfl,hJ3,hK⟩ | ⟨rfl,hJx3⟩)
   ·have hW3:=hW1.trans hK
    gi_wp2
    go_roundw
    case rel=>exact ⟨j+1,by omega,by go_num,by rw [HT.out];exact hJ3,hW3⟩
    case measure=>simp [intOf];omega
   ·gi_wp2
    refine bodyPost_ret (results_none rfl _ _ _) rfl ?_
    exact ⟨⟨_,rfl⟩,.inr ⟨_,by rw [<- HT.out];exact HP.out,hJx3⟩⟩
  ·obtain rfl:j=T.length:=by omega
   rw [List.take_of_length_le (by rw [enumT_len];omega)] at hJi
   gi_wp2
   go_end0
   exact ⟨⟨_,rfl⟩,.inl ⟨_,rfl,hJi⟩⟩
theorem all_stops {w w0:World} {Bm B:Nat} {v:Value} {T:List Pla} (hBm:Boxed w Bm 30 (ptrV B))
  (hcell:w0.cell? ⟨B,4,none⟩=some v) (hrow:w0.ownsRow 0 63 11 v T.length (flatP T)) (hl:T.length<=1000) (hW:Below w0.heap.size w0 w) :
  SeqStopsK Fence.wide 3 Tryz.prog 87 #[.pointer (some ⟨Bm,0,none⟩)] encT (Below w0.heap.size) (fun ys=>ys=enumT T) (fun pre=>pre <+: enumT T) 1000 w:=
 fun l J Jx W hW2 hJ _ hY h0=>all1_in 3 (by omega) l Bm B v T w0 J Jx hY W (boxed_below hBm hW2)
  (Mch.hcell_below hcell hW hW2) hrow hl (below_nx hW hW2 (Nat.le_refl _)) hJ h0
end Go.Proofs.YtnfbncgfpmcpnaaGreat.Mdl
