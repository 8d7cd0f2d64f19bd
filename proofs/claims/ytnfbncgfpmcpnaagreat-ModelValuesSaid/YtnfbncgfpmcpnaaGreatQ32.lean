/-
  ReplayNext: its walks, part 32.
-/
import Derived.Test.YtnfbncgfpmcpnaaGreatQ31
set_option maxRecDepth 100000
set_option maxHeartbeats 12800000
namespace Go.Proofs.YtnfbncgfpmcpnaaGreat.Mdl
open Go.RowKit
open Ent (En)
open Mch (Chn Frm Fw Fl below1 below_nx owns_slice' boxed_below)
section
variable {o:Nat->Nat} {B:Nat} {M:Mod} {t:Int} {x:En}
theorem infoPla:(Tryz.prog.info? 63).map (fun i=>(i.zero,i.size,i.bytes))=some (some (.agg #[.int .u8 0,.int .i64 0,.int .i64 0,.int .i64 0,.int .i64 0,.int .i64 0,.int .i64 0,.int .i64 0,.int .i64 0,.int .i64 0,.int .i64 0]),11,88):=by kernel_rfl
theorem flatP_snoc (xs:List Pla) (x:Pla):flatP (xs ++ [x])=flatP xs ++ x.cellsL:=by simp [flatP]
theorem MdAt.more {W w1:World} {lo hi:Nat} {v1 v2 v3 vT vC vT':Value} {Cs:List Nat} {tmp:Obj} (h:MdAt W o B lo hi v1 v2 v3 vT vC Cs M) (y:Pla) (hg:(W.alloc tmp).drew.grownBy w1 vT.ownBlock)
  (hown:w1.ownsRow 0 63 11 vT' (M.T.length+1) (flatP M.T ++ y.cellsL)) (hat:vT'.ownBlock=vT.ownBlock \/ vT'.ownBlock=some (W.alloc tmp).drew.heap.size) :
  ∃ o',MdAt (w1.setCell ⟨B,4,none⟩ vT') o' B lo hi v1 v2 v3 vT' vC Cs { M with T:=M.T ++ [y] }/\Goes o o' W (w1.setCell ⟨B,4,none⟩ vT'):=by
 have hs:(W.alloc tmp).drew.heap.size=W.heap.size+1:=World.size_alloc W tmp
 have hF1:Frm (fun k=>o k=3) W w1:=Mch.Frm.trans_new (Frm.of_below (below1 W tmp).drew _) (Frm.of_grown (F:=fun k=>o k=3) hg (fun g e=>h.town g e)) (fun i hi=>.inl hi)
 have hF2:Frm (fun k=>o k=3 \/ o k=1) W (w1.setCell ⟨B,4,none⟩ vT'):=Mch.Frm.trans_new (hF1.mono (fun _ e=>.inl e)) (Mch.Frm.set (F:=fun k=>o k=3 \/ o k=1) (p:=⟨B,4,none⟩) w1 vT' (.inr h.hown)) (fun i hi=>.inl hi)
 have hsz:W.heap.size+1<=w1.heap.size:=by rw [<- hs];exact hg.size
 have hsz2:(w1.setCell ⟨B,4,none⟩ vT').heap.size=w1.heap.size:=by simp
 have hBl:B<W.heap.size:=h.lt
 have hnb:vT'.ownBlock ≠ some B:=fun e=>by
  rcases hat with e1 | e1
  ·have h3:=h.town B (e1.symm.trans e);rw [h.hown] at h3;cases h3
  ·rw [e,hs] at e1;simp only [Option.some.injEq] at e1;omega
 have hlow:∀ g,vT'.ownBlock=some g->g<w1.heap.size:=fun g e=>by
  rcases hown.2 with ⟨rfl,_⟩ | ⟨g',cap,cur,rfl,_,hb,_⟩
  ·simp [Value.ownBlock] at e
  ·obtain rfl:g'=g:=by simpa [Value.ownBlock] using e
   exact (Array.getElem?_eq_some_iff.1 hb).1
 refine ⟨newO o W (w1.setCell ⟨B,4,none⟩ vT') 3,?_,⟨fun _ hk=>newO_old hk,hF2.mono (fun k e=>by rcases e with e | e <;> rw [e] <;> omega)⟩⟩
 have hhead:Blk w1 B 81 (mdCells v1 v2 v3 vT vC M):=(hF1.block B hBl (by rw [h.hown];omega)).trans h.head
 exact {
  head:=by have:=hhead.set 4 vT';simpa [mdCells] using this
  hown:=by rw [newO_old hBl];exact h.hown
  prog:=keep_prog h.prog hF2 (fun k h1 h2=>by rw [h.pown k h1 h2];omega)
  pown:=fun k h1 h2=>by rw [newO_old (Nat.lt_of_lt_of_le h2 h.prog.top)];exact h.pown k h1 h2
  tasks:=by
   have h1:=hown.kept (Mch.grownBy_setCell w1 ⟨B,4,none⟩ vT') (by
    cases e:vT'.ownBlock with
    | none=>exact .inl rfl
    | some g=>exact .inr (fun e2=>hnb (by rw [e, <- e2])))
   simp only [List.length_append,List.length_singleton,flatP_snoc]
   exact h1
  town:=fun g e=>by
   unfold newO
   split
   ·rename_i hl
    rcases hat with e1 | e1
    ·exact h.town g (e1.symm.trans e)
    ·rw [e,hs] at e1;simp only [Option.some.injEq] at e1;omega
   ·rw [if_pos (by rw [hsz2];exact hlow g e)]
  chans:=keep_row h.chans hF2 (fun g e=>by rw [h.cown g e];omega)
  cown:=fun g e=>by rw [newO_old (h.low g (by rw [h.cown g e];omega))];exact h.cown g e
  len:=h.len
  chs:=fun j C c hC hc=>(keep_chn (h.chs j C c hC hc) hF2 (fun k hk=>by rw [hk];omega)).fl.mono (fun k hk=>by rw [newO_old (h.low k (by rw [hk.1];omega))];exact hk.1)
  low:=fun k hk=>by
   unfold newO at hk
   split at hk
   ·exact Nat.lt_of_lt_of_le (h.low k hk) hF2.size
   ·split at hk
    ·assumption
    ·exact absurd rfl hk }
theorem spawnD_any (w:World) (h:Md w o B M) (hI:Inv M) (hx:MvOk M t x) (ht:0<=t/\t<(M.T.length:Int)) (hk:x.k=9) :
    Calls Tryz.prog 69 #[ptrV B,enV x] w (Deed o B (M.do_ x) w):=by
  obtain ⟨wa,hwa⟩:∃ wa,wa=w.alloc (.cells (enA x) 39):=⟨_,rfl⟩
  have hBa:Below w.heap.size w wa:=by rw [hwa];exact below1 w _
  have hX:EnO wa o w.heap.size x:=⟨by rw [hwa];exact blk_new w _ _,h.off (Nat.le_refl _)⟩
  have hh:=h.below hBa
  have hxt:=hx.tt
  have hxb:0<=x.t/\x.t<(M.T.length:Int):=by rw [hxt];exact ht
  obtain ⟨i0,hi,hz0,hz1,hz2⟩:=info_parts infoPla
  obtain ⟨F0,hF0⟩:∃ F0,F0=M.where_ x.t:=⟨_,rfl⟩
  obtain ⟨F,hF⟩:∃ F,F=Fra.at0 x.b F0:=⟨_,rfl⟩
  obtain ⟨N,hN⟩:∃ N:Mod,N = { M with T:=M.T ++ [⟨1,F⟩] }:=⟨_,rfl⟩
  have hIN:Inv N:=by rw [hN,hF,hF0];exact hI.spawned (hx.s9 hk) _ (rok_at0 (hI.wfr _) _)
  have hTN:N.T.length=M.T.length+1:=by rw [hN];simp
  have h32:=hI.t32
  have HD:Hid (M.do_ x=N.goOn x.t (-1) 0 false):=Lib.hid (by unfold Mod.do_;simp only [hk];rw [hN,hF,hF0])
  have hgo:=fun (W:World) (o1:Nat->Nat) (h1:Md W o1 B N)=>sent_i x.t (-1) W h1 hIN (by rw [hTN];omega)
  have hwh:=fun W (hW:Below wa.heap.size wa W)=>where_any x.t W (hh.below hW) (by omega) hI.chk hI.small hxb
  rw [<- hF0] at hwh
  have hsp:=fun (W:World)=>spawn_any F0 x.b W
  have hsp':∀ W:World,Calls Tryz.prog 52 #[fraV F0,.int .i64 x.b] W fun e w'=>e=.returned (fraV F)/\Below W.heap.size W w':=by rw [hF];exact hsp
  have hkS:∀ W,Below wa.heap.size wa W->W.cell? ⟨w.heap.size,3,none⟩=some (.int .i64 x.t)/\W.cell? ⟨w.heap.size,6,none⟩=some (.int .i64 x.b)/\Below wa.heap.size wa W:=fun W hW=>⟨(hX.below hW).c3,(hX.below hW).c6,hW⟩
  have r0:Below wa.heap.size wa wa.drew:=(Below.refl _ _).drew
  have r1:Below wa.heap.size wa (wa.alloc (.cells #[.int .i64 0,.int .i64 0,.int .i64 0,.int .i64 0,.int .i64 0,.int .i64 0,.int .i64 0,.int .i64 0,.int .i64 0,.int .i64 0] 61)).drew:=(below1 wa _).drew
  obtain ⟨k0,k1,-⟩:=hkS _ r0
  have hcl:∀ (W:World) (A:Nat),Blk W A 61 #[.int .i64 0,.int .i64 0,.int .i64 0,.int .i64 0,.int .i64 0,.int .i64 0,.int .i64 0,.int .i64 0,.int .i64 0,.int .i64 0]->(W.cell? ⟨A,0,none⟩=some (.int .i64 0)/\W.cell? ⟨A,1,none⟩=some (.int .i64 0)/\W.cell? ⟨A,2,none⟩=some (.int .i64 0)/\W.cell? ⟨A,3,none⟩=some (.int .i64 0)/\W.cell? ⟨A,4,none⟩=some (.int .i64 0)/\W.cell? ⟨A,5,none⟩=some (.int .i64 0)/\W.cell? ⟨A,6,none⟩=some (.int .i64 0)/\W.cell? ⟨A,7,none⟩=some (.int .i64 0)/\W.cell? ⟨A,8,none⟩=some (.int .i64 0)/\W.cell? ⟨A,9,none⟩=some (.int .i64 0))/\(∀ j,W.frozen? ⟨A,j,none⟩=false):=fun W A hA=>⟨⟨hA.cell rfl,hA.cell rfl,hA.cell rfl,hA.cell rfl,hA.cell rfl,hA.cell rfl,hA.cell rfl,hA.cell rfl,hA.cell rfl,hA.cell rfl⟩,hA.frozen⟩
  have hA0:Blk (wa.alloc (.cells #[.int .i64 0,.int .i64 0,.int .i64 0,.int .i64 0,.int .i64 0,.int .i64 0,.int .i64 0,.int .i64 0,.int .i64 0,.int .i64 0] 61)).drew wa.heap.size 61 #[.int .i64 0,.int .i64 0,.int .i64 0,.int .i64 0,.int .i64 0,.int .i64 0,.int .i64 0,.int .i64 0,.int .i64 0,.int .i64 0]:=blk_new wa _ _
  have hz1':wa.heap.size<(wa.alloc (.cells #[.int .i64 0,.int .i64 0,.int .i64 0,.int .i64 0,.int .i64 0,.int .i64 0,.int .i64 0,.int .i64 0,.int .i64 0,.int .i64 0] 61)).drew.heap.size:=hA0.lt
  obtain ⟨⟨a0,a1,a2,a3,a4,a5,a6,a7,a8,a9⟩,af⟩:=hcl _ _ hA0
  clear hk hxt hxb hx ht hI h hF hF0 hIN hTN hsp
  go_enter Tryz.func69,Tryz.ntmps69
  go_upto_region 1 with fail
  rw [<- hwa]
  clear hwa
  go_cut [4] from 4 to 11 (fun fv W=>∃ A,fv=ptrV A/\FrAt W A F/\Below wa.heap.size wa W)
  case first=>
    go_region_held3 (fun W=>W.cell? ⟨w.heap.size,3,none⟩=some (.int .i64 x.t)/\W.cell? ⟨w.heap.size,6,none⟩=some (.int .i64 x.b)/\Below wa.heap.size wa W)
      ((refine hkS _ ?_;with_reducible first | exact r0 | exact r1 | exact hb3 | exact hb2 | exact Mch.Below.al hb3 hb3.size _ | exact Mch.Below.al hb2 hb2.size _ | exact hb3.trans ((sto10 hA3 _ _ _ _ _ _ _ _ _ _).2.below hb3.size (by first | (simp;done) | (simp;exact hb2.size)))))
      ((first
        | (go_at_call 106;refine (hwh _ r0).mono ?_;rintro e w2 ⟨rfl,hb2'⟩;have hb2:=r0.trans hb2';obtain ⟨m0,m1,-⟩:=hkS _ hb2)
        | (go_at_call 106;refine (hwh _ r1).mono ?_;rintro e w2 ⟨rfl,hb2'⟩;have hb2:=r1.trans (hb2'.mono (Nat.le_of_lt hz1'));have hA2:=Blk.later hA0 hb2' hA0.lt;obtain ⟨m0,m1,-⟩:=hkS _ hb2)
        | (go_at_call 52;refine (hsp' _).mono ?_;rintro e w3 ⟨rfl,hb3'⟩;have hA3:=Blk.later hA2 hb3' hA2.lt;have hb3:=hb2.trans (hb3'.mono hb2.size);obtain ⟨⟨c0,c1,c2,c3,c4,c5,c6,c7,c8,c9⟩,cf⟩:=hcl _ _ hA3)
        | (go_at_call 52;refine (hsp' w2).mono ?_;rintro e w3 ⟨rfl,hb3'⟩;have hb3:=hb2.trans (hb3'.mono hb2.size))
        | (go_at_call 52;refine (hsp' _).mono ?_;rintro e w3 ⟨rfl,hb3'⟩;have hb3:=(Mch.Below.al hb2 hb2.size _).trans (hb3'.mono (Nat.le_trans hb2.size (by simp)));have hA3:=Blk.later (blk_new w2 61 #[.int .i64 0,.int .i64 0,.int .i64 0,.int .i64 0,.int .i64 0,.int .i64 0,.int .i64 0,.int .i64 0,.int .i64 0,.int .i64 0]) hb3' (by simp);obtain ⟨⟨c0,c1,c2,c3,c4,c5,c6,c7,c8,c9⟩,cf⟩:=hcl _ _ hA3)))
    all_goals go_wp2_with fail
    all_goals go_meet
    all_goals first
      | exact ⟨_,rfl,(sto10 hA3 _ _ _ _ _ _ _ _ _ _).1,hb3.trans ((sto10 hA3 _ _ _ _ _ _ _ _ _ _).2.below hb3.size (by first | (simp;done) | (simp;exact hb2.size)))⟩
      | exact ⟨_,rfl,blk_new w3 _ _,Mch.Below.al hb3 hb3.size _⟩
  case rest=>
    obtain ⟨A,rfl,hF,hB⟩:=hcut
    obtain ⟨w3,rfl⟩:∃ w3:World,w3=wc:=⟨_,rfl⟩
    clear a0 a1 a2 a3 a4 a5 a6 a7 a8 a9 af hA0 hz1' k0 k1 r0 r1 hkS hcl hwh hsp'
    obtain ⟨lo,hi',v1,v2,v3,vT,vC,Cs,hM⟩:=hh.below hB
    have hX3:=hX.below hB
    obtain ⟨va,vc,rfl⟩:=owns_slice' hM.tasks
    obtain ⟨n,hn⟩:∃ n,n=M.T.length:=⟨_,rfl⟩
    have hM':=hM
    have tk:=hM.tk
    have hrow2:(w3.alloc (.cells #[.int .u8 1,.int .i64 F.c,.int .i64 F.p,.int .i64 F.r0,.int .i64 F.r1,.int .i64 F.r2,.int .i64 F.r3,.int .i64 F.r4,.int .i64 F.r5,.int .i64 F.r6,.int .i64 F.r7] 63)).drew.ownsRow 0 63 11 (.slice va M.T.length vc) M.T.length (flatP M.T):=(hM.tasks.alloc _).drew
    have hBl:=hM.lt
    have hfA:=hF.lt
    obtain ⟨d0,d1,d2,d3,d4,d5,d6,d7,d8,d9⟩:=fra_cells hF
    obtain ⟨e0,e1,e2,e3,e4,e5,e6,e7,e8,e9⟩:=fra_cells (show FrAt w3.drew A F from hF)
    have tkd:w3.drew.cell? ⟨B,4,none⟩=some (.slice va M.T.length vc):=tk
    have hone:∀ u ∈ Pla.cellsL ⟨1,F⟩,u.oneCell'=true:=by simpa [flatP] using pla_one [⟨1,F⟩]
    have hcl2:∀ (j:Nat) (u:Value),(Pla.cellsL ⟨1,F⟩)[j]?=some u->(w3.alloc (.cells #[.int .u8 1,.int .i64 F.c,.int .i64 F.p,.int .i64 F.r0,.int .i64 F.r1,.int .i64 F.r2,.int .i64 F.r3,.int .i64 F.r4,.int .i64 F.r5,.int .i64 F.r6,.int .i64 F.r7] 63)).drew.cell? (Addr.add ⟨w3.heap.size,0,none⟩ j)=some u:=fun j u hj=>by
      rw [add0];exact Blk.cell (blk_new w3 63 #[.int .u8 1,.int .i64 F.c,.int .i64 F.p,.int .i64 F.r0,.int .i64 F.r1,.int .i64 F.r2,.int .i64 F.r3,.int .i64 F.r4,.int .i64 F.r5,.int .i64 F.r6,.int .i64 F.r7]) (by simpa [Pla.cellsL] using hj)
    have hbk:∀ w1,(w3.alloc (.cells #[.int .u8 1,.int .i64 F.c,.int .i64 F.p,.int .i64 F.r0,.int .i64 F.r1,.int .i64 F.r2,.int .i64 F.r3,.int .i64 F.r4,.int .i64 F.r5,.int .i64 F.r6,.int .i64 F.r7] 63)).drew.grownBy w1 (Value.slice va M.T.length vc).ownBlock->Blk w1 B 81 (mdCells v1 v2 v3 (.slice va M.T.length vc) vC M):=fun w1 hg=>by
      refine (hg.block B (Nat.lt_of_lt_of_le hBl (by show _<=(w3.alloc (.cells #[.int .u8 1,.int .i64 F.c,.int .i64 F.p,.int .i64 F.r0,.int .i64 F.r1,.int .i64 F.r2,.int .i64 F.r3,.int .i64 F.r4,.int .i64 F.r5,.int .i64 F.r6,.int .i64 F.r7] 63)).heap.size;simp)) (fun e=>by have h1:=hM.town B e.symm;rw [hM.hown] at h1;cases h1)).trans ?_
      exact (hM.head.alloc _)
    have tkA:(w3.alloc (.cells #[.int .u8 1,.int .i64 F.c,.int .i64 F.p,.int .i64 F.r0,.int .i64 F.r1,.int .i64 F.r2,.int .i64 F.r3,.int .i64 F.r4,.int .i64 F.r5,.int .i64 F.r6,.int .i64 F.r7] 63)).drew.cell? ⟨B,4,none⟩=some (.slice va M.T.length vc):=(hM.head.alloc _).cell rfl
    clear hX hn
    go_upto_region 2 with fail
    go_region_law (first
      | (refine step_append_at rfl (.tmp 16) (.tmp 19) 78 rfl 0 63 i0 (.agg #[.int .u8 0,.int .i64 0,.int .i64 0,.int .i64 0,.int .i64 0,.int .i64 0,.int .i64 0,.int .i64 0,.int .i64 0,.int .i64 0,.int .i64 0]) 11 88 Tryz.underlying78 hi hz0 hz1 hz2 rfl (by decide) (.slice va M.T.length vc) M.T.length (flatP M.T) rfl hrow2 ⟨w3.heap.size,0,none⟩ 1 1 (Pla.cellsL ⟨1,F⟩) rfl rfl hcl2 hone (by unfold maxLen;omega) (by omega) (Nat.zero_le _) ?_
         intro v4 w4 hown4 hg4 hat4
         obtain ⟨g4,cap4,rfl⟩:=ownsRow_succ hown4
         have hv4:=(hbk w4 hg4).cell (k:=4) (v:=.slice va M.T.length vc) rfl
         have hf4:=(hbk w4 hg4).frozen))
    all_goals
      obtain ⟨o2,hM4,hg5⟩:=hM.more ⟨1,F⟩ hg4 hown4 hat4
      rw [<- hN] at hM4
      have hX4:=hX3.goes hg5
      have hgo':=hgo _ o2 ⟨_,_,_,_,_,_,_,_,hM4⟩
      have hG:=(Goes.of_below (hBa.trans (hB.mono hBa.size))).trans hg5
      clear hM4 hg5 hM hM' hrow2 hcl2 hbk tkA hown4 hg4 hat4 hN hgo tk tkd d0 d1 d2 d3 d4 d5 d6 d7 d8 d9 e0 e1 e2 e3 e4 e5 e6 e7 e8 e9 hv4 hf4
      generalize w4.setCell ⟨B,4,none⟩ (.slice (some ⟨g4,0,none⟩) (M.T.length+1) cap4)=w5 at hgo' hX4 hG ⊢
      have s3:=hX4.c3
      go_wp2_with fail
      refine hgo'.mono ?_
      rintro e w6 ⟨rfl,o6,k6,j6⟩
      go_wp2_with fail
      go_end0
      rw [HD.out]
      exact ⟨rfl,_,k6,hG.trans j6⟩
end
open Go.RowKit
open Mch (Chn Frm Fw Fl below1 below_nx owns_slice')
theorem infoPtr:(Tryz.prog.info? 46).map (fun i=>(i.zero,i.size,i.bytes))=some (some (.pointer none),1,8):=by kernel_rfl
structure ChRow (W:World) (o:Nat->Nat) (v:Value) (Cs:List Nat) (Cl:List Cha):Prop where
 row:W.ownsRow 0 46 1 v Cs.length (Cs.map ptrV)
 own:∀ g,v.ownBlock=some g->o g=4
 len:Cs.length=Cl.length
 chs:∀ i C c,Cs[i]?=some C->Cl[i]?=some c->Chn W (fun k=>o k=5+i) C c.m c.cl c.buf c.S c.R
 low:∀ k,o k ≠ 0->k<W.heap.size
theorem ChRow.nil (W:World):ChRow W (fun _=>0) (.slice none 0 0) [] []:=⟨World.ownsRow_nil _ _ _ _,fun g e=>by simp [Value.ownBlock] at e,rfl,fun i C c h=>by simp at h,fun k h=>absurd rfl h⟩
def chO (o:Nat->Nat) (W W2:World) (v':Value) (n:Nat):Nat->Nat:=fun k=>if k<W.heap.size then o k else if k<W2.heap.size then 5+n else if v'.ownBlock=some k then 4 else 0
section
variable {W W' W2 w3:World} {o:Nat->Nat} {v v':Value} {Cs:List Nat} {Cl:List Cha}
theorem ChRow.below (h:ChRow W o v Cs Cl) (hb:Below W.heap.size W W'):ChRow W' o v Cs Cl:=
 ⟨owns_fresh h.row hb,h.own,h.len,fun i C c hC hc=>(h.chs i C c hC hc).below hb,fun k hk=>Nat.lt_of_lt_of_le (h.low k hk) hb.size⟩
theorem ChRow.more (h:ChRow W o v Cs Cl) {D:Nat} {c:Cha} {G:Nat->Prop} (hc:Chn W2 (fun k=>W.heap.size<=k) D c.m c.cl c.buf c.S c.R) (hb:Below W.heap.size W W2) (hF:Frm (fun k=>v.ownBlock=some k \/ G k) W2 w3)
  (hG:∀ k,G k->o k=0/\k<W.heap.size) (hown:w3.ownsRow 0 46 1 v' (Cs.length+1) (Cs.map ptrV ++ [ptrV D])) (hat:∀ g,v'.ownBlock=some g->v.ownBlock=some g \/ W2.heap.size<=g) :
  ChRow w3 (chO o W W2 v' Cl.length) v' (Cs ++ [D]) (Cl ++ [c]):=by
 have hs:=hb.size
 have hlow:∀ g,v'.ownBlock=some g->g<w3.heap.size:=fun g e=>by
  rcases hown.2 with ⟨rfl,_⟩ | ⟨g',cap,cur,rfl,_,hb,_⟩
  ·simp [Value.ownBlock] at e
  ·obtain rfl:g'=g:=by simpa [Value.ownBlock] using e
   exact (Array.getElem?_eq_some_iff.1 hb).1
 have hold:∀ k,k<W.heap.size->chO o W W2 v' Cl.length k=o k:=fun k hk=>by unfold chO;rw [if_pos hk]
 have hn:∀ k,(v.ownBlock=some k \/ G k)->k<W.heap.size/\(o k=4 \/ o k=0):=fun k e=>by
  rcases e with e | e
  ·exact ⟨h.low k (by rw [h.own k e];omega),.inl (h.own k e)⟩
  ·exact ⟨(hG k e).2,.inr (hG k e).1⟩
 refine ⟨?_,?_,by simp [h.len],?_,?_⟩
 ·rw [List.length_append,List.length_singleton,List.map_append];exact hown
 ·intro g e
  rcases hat g e with h1 | h1
  ·have h2:=h.own g h1
   rw [hold g (h.low g (by rw [h2];omega))];exact h2
  ·unfold chO
   rw [if_neg (by omega),if_neg (by omega),if_pos e]
 ·intro i C d hC hd
  by_cases hi:i<Cs.length
  ·rw [List.getElem?_append_left hi] at hC
   rw [List.getElem?_append_left (by rw [<- h.len];exact hi)] at hd
   have h1:=(h.chs i C d hC hd).below hb
   have h2:=keep_chn h1 hF (fun k hk e=>by have:=(hn k e).2;omega)
   exact h2.mono (fun k hk=>by rw [hold k (h.low k (by rw [hk];omega))];exact hk)
  ·have hi':i=Cs.length:=by have:=(List.getElem?_eq_some_iff.1 hC).1;simp at this;omega
   subst hi'
   rw [List.getElem?_append_right (Nat.le_refl _),Nat.sub_self] at hC
   simp only [List.getElem?_cons_zero,Option.some.injEq] at hC
   subst hC
   rw [h.len,List.getElem?_append_right (Nat.le_refl _),Nat.sub_self] at hd
   simp only [List.getElem?_cons_zero,Option.some.injEq] at hd
   subst hd
   have h1:=keep_chn hc.fl hF (fun k hk e=>by have h3:W.heap.size<=k:=hk.1;have:=(hn k e).1;omega)
   refine h1.mono (fun k hk=>?_)
   have h3:W.heap.size<=k:=hk.1
   have h4:k<W2.heap.size:=hk.2
   unfold chO
   rw [if_neg (by omega),if_pos h4,h.len]
 ·intro k hk
  have hs3:=hF.size
  unfold chO at hk
  split at hk
  ·omega
  ·split at hk
   ·omega
   ·split at hk
    ·exact hlow k (by assumption)
    ·exact absurd rfl hk
end
theorem row_round {wr w6 w7:World} {o1:Nat->Nat} {v v7:Value} {Ds:List Nat} {Cl:List Cha} {D b:Nat} {c:Cha} {tmp:Obj} (hR:ChRow wr o1 v Ds Cl) (hnew:∀ k,o1 k ≠ 0->b<=k) (hs:b<=wr.heap.size)
  (hD6:Chn w6 (fun k=>wr.heap.size<=k) D c.m c.cl c.buf c.S c.R) (hb6:Below wr.heap.size wr w6) (hg7:(w6.alloc tmp).grownBy w7 v.ownBlock) (hown7:w7.ownsRow 0 46 1 v7 (Ds.length+1) (Ds.map ptrV ++ [ptrV D]))
  (hat7:v7.ownBlock=v.ownBlock \/ v7.ownBlock=some (w6.alloc tmp).heap.size) :
  (∃ o2,ChRow w7 o2 v7 (Ds ++ [D]) (Cl ++ [c])/\∀ k,o2 k ≠ 0->b<=k)/\Frm (fun k=>b<=k) wr w7:=by
 have hF:Frm (fun k=>v.ownBlock=some k \/ False) w6 w7:=Mch.Frm.trans_new (Frm.of_below (below1 w6 tmp) _) (Frm.of_grown (F:=fun k=>v.ownBlock=some k \/ False) hg7 (fun g e=>.inl e)) (fun i hi=>.inl hi)
 have hsz:(w6.alloc tmp).heap.size=w6.heap.size+1:=World.size_alloc _ _
 have h1:=hR.more (G:=fun _=>False) hD6 hb6 hF (fun k hk=>hk.elim) hown7 (fun g e=>by
  rcases hat7 with h | h
  ·exact .inl (h.symm.trans e)
  ·rw [e,hsz] at h;simp only [Option.some.injEq] at h;exact .inr (by omega))
 have hs6:=hb6.size
 refine ⟨⟨_,h1,fun k hk=>?_⟩,?_⟩
 ·unfold chO at hk
  split at hk
  ·exact hnew k hk
  ·omega
 ·refine Mch.Frm.trans_new (Frm.of_below hb6 _) hF (fun i hi=>?_)
  rcases hi with hi | hi
  ·exact .inl (hnew i (by rw [hR.own i hi];omega))
  ·exact hi.elim
def asmO (o1:Nat->Nat) (A lo hi:Nat) (vT:Value):Nat->Nat:=fun k=>if k=A then 1 else if lo<=k/\k<hi then 2 else if vT.ownBlock=some k then 3 else o1 k
theorem md_made {W:World} {o1:Nat->Nat} {A lo hi:Nat} {u1 u2 u3 vT vC:Value} {Cs:List Nat} {M:Mod} (hh:Blk W A 81 (mdCells u1 u2 u3 vT vC M)) (hp:PrgAt lo hi W u1 u2 u3 M.p) (ht:W.ownsRow 0 63 11 vT M.T.length (flatP M.T))
  (hc:ChRow W o1 vC Cs M.C) (hA0:o1 A=0) (hp0:∀ k,lo<=k->k<hi->o1 k=0/\k ≠ A) (ht0:∀ g,vT.ownBlock=some g->o1 g=0/\g ≠ A/\¬ (lo<=g/\g<hi)):Md W (asmO o1 A lo hi vT) A M:=by
 have hsame:∀ k,o1 k ≠ 0->asmO o1 A lo hi vT k=o1 k:=fun k hk=>by
  unfold asmO
  rw [if_neg (fun e=>hk (by rw [e];exact hA0)),if_neg (fun e=>hk (hp0 k e.1 e.2).1),if_neg (fun e=>hk (ht0 k e).1)]
 have htl:∀ g,vT.ownBlock=some g->g<W.heap.size:=fun g e=>by
  rcases ht.2 with ⟨rfl,_⟩ | ⟨g',cap,cur,rfl,_,hb,_⟩
  ·simp [Value.ownBlock] at e
  ·obtain rfl:g'=g:=by simpa [Value.ownBlock] using e
   exact (Array.getElem?_eq_some_iff.1 hb).1
 exact ⟨lo,hi,u1,u2,u3,vT,vC,Cs,{
  head:=hh
  hown:=by unfold asmO;rw [if_pos rfl]
  prog:=hp
  pown:=fun k h1 h2=>by unfold asmO;rw [if_neg (hp0 k h1 h2).2,if_pos ⟨h1,h2⟩]
  tasks:=ht
  town:=fun g e=>by obtain ⟨_,h2,h3⟩:=ht0 g e;unfold asmO;rw [if_neg h2,if_neg h3,if_pos e]
  chans:=hc.row
  cown:=fun g e=>by rw [hsame g (by rw [hc.own g e];omega)];exact hc.own g e
  len:=hc.len
  chs:=fun i C c hC hd=>(hc.chs i C c hC hd).mono (fun k hk=>by rw [hsame k (by rw [hk];omega)];exact hk)
  low:=fun k hk=>by
   unfold asmO at hk
   split at hk
   ·rename_i e;rw [e];exact hh.lt
   ·split at hk
    ·rename_i e;exact Nat.lt_of_lt_of_le e.2 hp.top
    ·split at hk
     ·exact htl k (by assumption)
     ·exact hc.low k hk }⟩
theorem asm_new {o1:Nat->Nat} {A lo hi b:Nat} {vT:Value} (hA:b<=A) (hp:b<=lo) (ht:∀ g,vT.ownBlock=some g->b<=g) (hc:∀ k,o1 k ≠ 0->b<=k):∀ k,asmO o1 A lo hi vT k ≠ 0->b<=k:=fun k hk=>by
 unfold asmO at hk
 split at hk
 ·omega
 ·split at hk
  ·omega
  ·split at hk
   ·exact ht k (by assumption)
   ·exact hc k hk
open Go.RowKit
open Mch (Chn Frm Fw Fl below1 below_nx owns_slice')
theorem frm_low {w W W':World} {G:Nat->Prop} (h:Below w.heap.size w W) (hF:Frm G W W') (hG:∀ k,G k->w.heap.size<=k):Below w.heap.size w W':=
 ⟨hF.os.trans h.os,hF.tape.trans h.tape,hF.output.trans h.output,Nat.le_trans h.size hF.size,fun k hk=>(hF.block k (Nat.lt_of_lt_of_le hk h.size) (fun e=>by have:=hG k e;omega)).trans (h.block k hk)⟩
def NewMd (w:World) (M:Mod) (A:Nat) (w':World):Prop:=∃ o',Md w' o' A M/\(∀ k,o' k ≠ 0->w.heap.size<=k)
open Go.RowKit
open Ent (En)
open Mch (Chn Frm Fw Fl below1 below_nx owns_slice' boxed_below)
section
variable {o:Nat->Nat} {B:Nat} {M:Mod} {t:Int} {x:En}
theorem pass_any (w:World) (h:Md w o B M) (hI:Inv M) (hx:MvOk M t x) (ht:0<=t/\t<(M.T.length:Int)) (hk:x.k=7) :
  Calls Tryz.prog 67 #[ptrV B,enV x] w (Deed o B (M.do_ x) w):=by
 obtain ⟨wa,hwa⟩:∃ wa,wa=w.alloc (.cells (enA x) 39):=⟨_,rfl⟩
 have hBa:Below w.heap.size w wa:=by rw [hwa];exact below1 w _
 have hX:EnO wa o w.heap.size x:=⟨by rw [hwa];exact blk_new w _ _,h.off (Nat.le_refl _)⟩
 have hh:=h.below hBa
 have hxt:=hx.tt
 have hxb:0<=x.t/\x.t<(M.T.length:Int):=by rw [hxt];exact ht
 have hst:=hx.st (.inl hk)
 have ho:=hx.s7 hk
 obtain ⟨ha,-⟩:=does_at hI.chk hst
 rw [<- hxt] at hst ho ha
 obtain ⟨f,hf⟩:∃ f,f=(M.stand x.t).1:=⟨_,rfl⟩
 obtain ⟨d,hd⟩:∃ d,d=M.does x.t:=⟨_,rfl⟩
 rw [<- hf, <- hd] at ha
 rw [<- hd] at ho
 have hst0:M.stand x.t=(f,0):=by rw [hf, <- hst]
 obtain ⟨sx,hsx,hss,hk0,hk1⟩:=site_at hI.chk ha ho
 obtain ⟨n,hn⟩:∃ n,n=(site M d).cs.length:=⟨_,rfl⟩
 have hn6:n<=6:=by rw [hn,hsx];exact (site_all hI.chk hss).1
 have hsa:=standAt_ok x.t wa hh (by have:=hI.t32;omega) hI.chk hI.small hst0 ha
 have hsi:=fun W (hW:Below wa.heap.size wa W)=>site_any x.t f d W (hh.below hW) ⟨hk0,hk1⟩
 rw [<- hn] at hsi
 have HD:Hid (M.do_ x=M.goOn x.t (n:Int) 0 false):=Lib.hid (by unfold Mod.do_;simp only [hk];rw [<- hd, <- hn])
 have hgo:=fun (W:World) (h1:Md W o B M)=>sent_i x.t (n:Int) W h1 hI hxb
 have e3:=hX.c3
 clear hk hxt hxb hx ht hI h hst ho ha hf hd hst0 hsx hss hk0 hk1 hn
 go_enter Tryz.func67,Tryz.ntmps67
 go_upto_region 1 with fail
 rw [<- hwa]
 clear hwa
 go_wp2_with fail
 refine hsa.mono ?_
 rintro e w2 ⟨rfl,hb2⟩
 go_upto_region 2 with fail
 obtain ⟨w3,hw3⟩:∃ w3,w3=w2.alloc (.cells (stdA B x.t f d) 107):=⟨_,rfl⟩
 have hb3:Below wa.heap.size wa w3:=by rw [hw3];exact Mch.Below.al hb2 hb2.size _
 have hS3:StAt w3 w2.heap.size B x.t f d:=by rw [hw3];exact blk_new w2 _ _
 have hz3:wa.heap.size<=w2.heap.size:=hb2.size
 rw [<- hw3]
 obtain ⟨P,hP⟩:∃ P,P=w2.heap.size:=⟨_,rfl⟩
 rw [<- hP] at hS3 hz3 ⊢
 clear hw3 hP hb2 hsa e3
 have hX3:=hX.below hb3
 have hM3:=hh.below hb3
 have hP0:o P=0:=hh.off hz3
 clear hh hX
 have hkS:∀ W,Blk W P 107 (stdA B x.t f d)->EnO W o w.heap.size x->(W.cell? ⟨P,0,none⟩=some (ptrV B)/\W.cell? ⟨P,1,none⟩=some (.int .i64 x.t)/\W.cell? ⟨P,2,none⟩=some (.int .i64 f.c)/\W.cell? ⟨P,3,none⟩=some (.int .i64 f.p)/\W.cell? ⟨P,4,none⟩=some (.int .i64 f.r0)/\W.cell? ⟨P,5,none⟩=some (.int .i64 f.r1)/\W.cell? ⟨P,6,none⟩=some (.int .i64 f.r2)/\W.cell? ⟨P,7,none⟩=some (.int .i64 f.r3)/\W.cell? ⟨P,8,none⟩=some (.int .i64 f.r4)/\W.cell? ⟨P,9,none⟩=some (.int .i64 f.r5)/\W.cell? ⟨P,10,none⟩=some (.int .i64 f.r6)/\W.cell? ⟨P,11,none⟩=some (.int .i64 f.r7)/\W.cell? ⟨P,12,none⟩=some (.int .u8 (d.o:Int))/\W.cell? ⟨P,13,none⟩=some (.int .i64 d.a)/\W.cell? ⟨P,14,none⟩=some (.int .i64 d.b)/\W.cell? ⟨P,15,none⟩=some (.int .i64 d.c)/\W.cell? ⟨P,16,none⟩=some (.int .i64 d.k))/\W.cell? ⟨w.heap.size,3,none⟩=some (.int .i64 x.t):=fun W h1 h2=>⟨std_cells h1,h2.c3⟩
 have r0:Below w3.heap.size w3 w3.drew:=(Below.refl _ _).drew
 have e0:=hkS _ (hS3.later r0 hS3.lt) (hX3.below r0)
 obtain ⟨⟨s0,s1,s2,s3,s4,s5,s6,s7,s8,s9,s10,s11,s12,s13,s14,s15,s16⟩,e3⟩:=id e0
 go_region_held3 (fun W=>(W.cell? ⟨P,0,none⟩=some (ptrV B)/\W.cell? ⟨P,1,none⟩=some (.int .i64 x.t)/\W.cell? ⟨P,2,none⟩=some (.int .i64 f.c)/\W.cell? ⟨P,3,none⟩=some (.int .i64 f.p)/\W.cell? ⟨P,4,none⟩=some (.int .i64 f.r0)/\W.cell? ⟨P,5,none⟩=some (.int .i64 f.r1)/\W.cell? ⟨P,6,none⟩=some (.int .i64 f.r2)/\W.cell? ⟨P,7,none⟩=some (.int .i64 f.r3)/\W.cell? ⟨P,8,none⟩=some (.int .i64 f.r4)/\W.cell? ⟨P,9,none⟩=some (.int .i64 f.r5)/\W.cell? ⟨P,10,none⟩=some (.int .i64 f.r6)/\W.cell? ⟨P,11,none⟩=some (.int .i64 f.r7)/\W.cell? ⟨P,12,none⟩=some (.int .u8 (d.o:Int))/\W.cell? ⟨P,13,none⟩=some (.int .i64 d.a)/\W.cell? ⟨P,14,none⟩=some (.int .i64 d.b)/\W.cell? ⟨P,15,none⟩=some (.int .i64 d.c)/\W.cell? ⟨P,16,none⟩=some (.int .i64 d.k))/\W.cell? ⟨w.heap.size,3,none⟩=some (.int .i64 x.t))
  (with_reducible first | exact f5 | exact f4 | exact e0)
  ((first
   | (go_at_call 104;refine (hsi _ (hb3.trans (r0.mono hb3.size))).mono ?_;rintro e w4 ⟨ra,rc,l1,l2,rfl,-, -, hb4⟩;have hb4':=r0.trans (hb4.mono r0.size);have f4:=hkS w4 (hS3.later hb4' hS3.lt) (hX3.below hb4');have qf:∀ W:World,(Instr.field 117 (.agg #[.slice ra n rc,.bool (site M d).d]) 0).run Tryz.prog W=.ok (.slice ra n rc) W:=fun W=>sit_cs _ _ W)
   | (go_at_call 101;refine (hgo _ (hM3.below hb4')).mono ?_;rintro e w5 ⟨rfl,o5,k5,j5⟩;have g5:=(Goes.of_below hb4').trans j5;have f5:=hkS w5 ((g5.frm.block P hS3.lt (fun e=>e hP0)).trans hS3) ⟨(hX3.goes g5).1,hX3.2⟩)))
 go_wp2_with fail
 go_end0
 rw [HD.out]
 exact ⟨rfl,_,k5,(Goes.of_below (hBa.trans (hb3.mono hBa.size))).trans g5⟩
end
open Go.RowKit
open Ent (En)
open Mch (Chn Frm Fw Fl below1 below_nx owns_slice' boxed_below)
section
variable {o:Nat->Nat} {B:Nat} {M:Mod} {t:Int} {x:En}
theorem kept11 {W:World} {g k A j:Nat} {c0 c1 c2 c3 c4 c5 c6 c7 c8 c9 c10 v:Value} (hA:A ≠ g) (h:W.cell? ⟨A,j,none⟩=some v):((((((((((((W.setCell ⟨g,k,none⟩ c0).setCell ⟨g,k+1,none⟩ c1).setCell ⟨g,k+2,none⟩ c2).setCell ⟨g,k+3,none⟩ c3).setCell ⟨g,k+4,none⟩ c4).setCell ⟨g,k+5,none⟩ c5).setCell ⟨g,k+6,none⟩ c6).setCell ⟨g,k+7,none⟩ c7).setCell ⟨g,k+8,none⟩ c8).setCell ⟨g,k+9,none⟩ c9).setCell ⟨g,k+10,none⟩ c10)).cell? ⟨A,j,none⟩=some v:=by
 rw [put11]
 refine (World.cell?_of_block ?_).trans h
 by_cases hl:A<W.heap.size
 ·exact (putFrom_frm (F:=fun j=>j=g) rfl _ _ _).block A hl hA
 ·have h1:W.heap[A]?=none:=Array.getElem?_eq_none (by omega)
  have h2:(putFrom W g k [c0,c1,c2,c3,c4,c5,c6,c7,c8,c9,c10]).heap.size=W.heap.size:=by simp [putFrom]
  rw [h1];exact Array.getElem?_eq_none (by show _<=A;omega)
theorem MdAt.cells11 {W:World} {lo hi g cap i:Nat} {v1 v2 v3 vC:Value} {Cs:List Nat} {y:Pla} {n:Nat} (h:MdAt W o B lo hi v1 v2 v3 (.slice (some ⟨g,0,none⟩) n cap) vC Cs M) (hy:M.T[i]?=some y):(W.cell? ⟨g,i * 11,none⟩=some (.int .u8 (y.s:Int))/\W.cell? ⟨g,i * 11+1,none⟩=some (.int .i64 y.f.c)/\W.cell? ⟨g,i * 11+2,none⟩=some (.int .i64 y.f.p)/\W.cell? ⟨g,i * 11+3,none⟩=some (.int .i64 y.f.r0)/\W.cell? ⟨g,i * 11+4,none⟩=some (.int .i64 y.f.r1)/\W.cell? ⟨g,i * 11+5,none⟩=some (.int .i64 y.f.r2)/\W.cell? ⟨g,i * 11+6,none⟩=some (.int .i64 y.f.r3)/\W.cell? ⟨g,i * 11+7,none⟩=some (.int .i64 y.f.r4)/\W.cell? ⟨g,i * 11+8,none⟩=some (.int .i64 y.f.r5)/\W.cell? ⟨g,i * 11+9,none⟩=some (.int .i64 y.f.r6)/\W.cell? ⟨g,i * 11+10,none⟩=some (.int .i64 y.f.r7)/\(∀ k,W.frozen? ⟨g,k,none⟩=false)):=by
 obtain ⟨g',cap',hv,hc⟩:=h.place hy
 cases hv
 exact ⟨hc 0 _ rfl,hc 1 _ rfl,hc 2 _ rfl,hc 3 _ rfl,hc 4 _ rfl,hc 5 _ rfl,hc 6 _ rfl,hc 7 _ rfl,hc 8 _ rfl,hc 9 _ rfl,hc 10 _ rfl,owns_frozen h.tasks rfl⟩
theorem end_any (w:World) (h:Md w o B M) (hI:Inv M) (hx:MvOk M t x) (ht:0<=t/\t<(M.T.length:Int)) (hk:x.k=10) :
  Calls Tryz.prog 70 #[ptrV B,enV x] w (Deed o B (M.do_ x) w):=by
 obtain ⟨wa,hwa⟩:∃ wa,wa=w.alloc (.cells (enA x) 39):=⟨_,rfl⟩
 have hBa:Below w.heap.size w wa:=by rw [hwa];exact below1 w _
 have hX:EnO wa o w.heap.size x:=⟨by rw [hwa];exact blk_new w _ _,h.off (Nat.le_refl _)⟩
 have hh:=h.below hBa
 have hxt:=hx.tt
 have hxb:0<=x.t/\x.t<(M.T.length:Int):=by rw [hxt];exact ht
 obtain ⟨i,hi⟩:∃ i:Nat,(i:Int)=x.t:=⟨x.t.toNat,by omega⟩
 have hiT:i<M.T.length:=by omega
 obtain ⟨y,hy⟩:∃ y,M.T[i]?=some y:=⟨_,List.getElem?_eq_getElem hiT⟩
 obtain ⟨F,hF⟩:∃ F,F=M.where_ x.t:=⟨_,rfl⟩
 have HD:Hid (M.do_ x = { M with T:=M.T.set i ⟨3,F⟩ }):=Lib.hid (by unfold Mod.do_;simp only [hk];rw [hF, <- hi];unfold Mod.setT;rw [Int.toNat_natCast])
 have hwh:=fun W (hW:Below wa.heap.size wa W)=>where_any x.t W (hh.below hW) (by have:=hI.t32;omega) hI.chk hI.small hxb
 rw [<- hF, <- hi] at hwh
 obtain ⟨lo,hi',v1,v2,v3,vT,vC,Cs,hM⟩:=hh
 obtain ⟨g,cap,rfl,-⟩:=hM.place hy
 have hkS:∀ W,Below wa.heap.size wa W->W.cell? ⟨w.heap.size,3,none⟩=some (.int .i64 (i:Int))/\W.cell? ⟨B,4,none⟩=some (.slice (some ⟨g,0,none⟩) M.T.length cap):=fun W hW=>⟨by rw [hi];exact (hX.below hW).c3,(hM.below hW).tk⟩
 have hne:w.heap.size ≠ g:=fun e=>by have h1:=hM.town g rfl;have h2:=hX.2;rw [e,h1] at h2;cases h2
 have hnB:B ≠ g:=fun e=>by have h1:=hM.town g rfl;have h2:=hM.hown;rw [e,h1] at h2;cases h2
 have r0:Below wa.heap.size wa wa.drew:=(Below.refl _ _).drew
 obtain ⟨e3,e4⟩:=hkS _ r0
 have q0:(0:Int)<=(i:Int):=by omega
 have q1:(i:Int)<(M.T.length:Int):=by omega
 clear hk hxt hxb hx ht hI h hF hi hX
 go_enter Tryz.func70,Tryz.ntmps70
 go_upto_region 1 with fail
 rw [<- hwa]
 clear hwa
 go_region_held3 (fun W=>W.cell? ⟨w.heap.size,3,none⟩=some (.int .i64 (i:Int))/\W.cell? ⟨B,4,none⟩=some (.slice (some ⟨g,0,none⟩) M.T.length cap))
  (with_reducible first | exact hkS _ hb2 | exact ⟨e3,e4⟩ | exact ⟨kept11 hne (hkS _ hb2).1,kept11 hnB (hkS _ hb2).2⟩)
  ((go_at_call 106;refine (hwh _ r0).mono ?_;rintro e w2 ⟨rfl,hb2'⟩;have hb2:=r0.trans hb2';obtain ⟨pz,p1,p2,p3,p4,p5,p6,p7,p8,p9,p10,pf⟩:=(hM.below hb2).cells11 hy))
 rw [put11]
 obtain ⟨hT1,hF1⟩:=(hM.below hb2).tasked hiT ⟨3,F⟩ rfl
 have hg:Goes o o w (putFrom w2 g (i * 11) (Pla.cellsL ⟨3,F⟩)):=(Goes.of_below (hBa.trans (hb2.mono hBa.size))).trans (Goes.of_frm hF1 (fun k e=>by rw [e];omega))
 go_end0
 rw [HD.out]
 exact ⟨rfl,_,⟨_,_,_,_,_,_,_,_,hT1⟩,hg⟩
end
end Go.Proofs.YtnfbncgfpmcpnaaGreat.Mdl
