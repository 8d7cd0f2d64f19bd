/-
  ReplayNext: its walks, part 25.
-/
import Derived.Test.YtnfbncgfpmcpnaaGreatQ24
set_option maxRecDepth 100000
set_option maxHeartbeats 12800000
namespace Go.Proofs.YtnfbncgfpmcpnaaGreat.Mdl
open Go.RowKit
open Mch (Chn Frm Fw Fl unl below1 below_nx owns_slice' boxed_below)
theorem owns_frozen {W:World} {b:Nat} {e:TypeId} {s n:Nat} {v:Value} {xs:List Value} {g:Nat} (h:W.ownsRow b e s v n xs) (hv:v.ownBlock=some g) (k:Nat):W.frozen? ⟨g,k,none⟩=false:=by
 rcases h.2 with ⟨rfl,_⟩ | ⟨g',cap,cur,rfl,hg,hb,r⟩
 ·simp [Value.ownBlock] at hv
 ·obtain rfl:g'=g:=by simpa [Value.ownBlock] using hv
  simp [World.frozen?,hb]
theorem put11 (W:World) (g k:Nat) (c0 c1 c2 c3 c4 c5 c6 c7 c8 c9 c10:Value):(((((((((((W.setCell ⟨g,k,none⟩ c0).setCell ⟨g,k+1,none⟩ c1).setCell ⟨g,k+2,none⟩ c2).setCell ⟨g,k+3,none⟩ c3).setCell ⟨g,k+4,none⟩ c4).setCell ⟨g,k+5,none⟩ c5).setCell ⟨g,k+6,none⟩ c6).setCell ⟨g,k+7,none⟩ c7).setCell ⟨g,k+8,none⟩ c8).setCell ⟨g,k+9,none⟩ c9).setCell ⟨g,k+10,none⟩ c10)=putFrom W g k [c0,c1,c2,c3,c4,c5,c6,c7,c8,c9,c10]:=rfl
def dropK (t:Int) (k:Nat) (l:List Cha):List Cha:=(l.take k).map (Cha.drop t) ++ l.drop k
theorem dropK_len (t:Int) (k:Nat) (l:List Cha):(dropK t k l).length=l.length:=by simp [dropK];omega
theorem dropK_at {t:Int} {k:Nat} {l:List Cha} (h:k<l.length):(dropK t k l)[k]?=l[k]?:=by
 unfold dropK
 rw [List.getElem?_append_right (by simp;omega),List.length_map,List.length_take,List.getElem?_drop]
 congr 1;omega
theorem dropK_set {t:Int} {k:Nat} {l:List Cha} {c:Cha} (h:l[k]?=some c):(dropK t k l).set k (c.drop t)=dropK t (k+1) l:=by
 have hk:=(List.getElem?_eq_some_iff.1 h).1
 unfold dropK
 rw [List.set_append_right _ _ (by simp;omega),List.length_map,List.length_take,show k - min k l.length=0 by omega,List.take_add_one,h,List.map_append]
 rw [List.drop_eq_getElem_cons hk]
 have e:l[k]=c:=(List.getElem?_eq_some_iff.1 h).2
 rw [List.set_cons_zero,List.append_assoc]
 rfl
theorem dropK_all (t:Int) (l:List Cha):dropK t l.length l=l.map (Cha.drop t):=by simp [dropK]
theorem goOn_any {o:Nat->Nat} {B:Nat} {M:Mod} (t k v:Int) (ok:Bool) (w:World) (h:Md w o B M) (hT:M.T.length<=1000) (hm:checkW M.p=none) (hs:Small M.p) (hC6:M.C.length<=6) (hl:∀ i,(M.ch i).S.length<=900/\(M.ch i).R.length<=900) (ht:0<=t/\t<(M.T.length:Int)) :
  Calls Tryz.prog 102 #[ptrV B,.int .i64 t,.int .i64 k,.int .i64 v,.bool ok] w fun e w'=>e=.returned (.tuple #[])/\∃ o',Md w' o' B (M.goOn t k v ok)/\Goes o o' w w':=by
 obtain ⟨lo,hi,v1,v2,v3,vT,vC,Cs,hM⟩:=h
 have h:Md w o B M:=⟨lo,hi,v1,v2,v3,vT,vC,Cs,hM⟩
 obtain ⟨G,hG⟩:∃ G,G=doneF M.p (M.where_ t) k v ok:=⟨_,rfl⟩
 have HG:=Lib.hid hG
 have hwh:=fun W (hW:Below w.heap.size w W)=>where_any t W (h.below hW) hT hm hs ht
 have hdn:=fun W (hW:Below w.heap.size w W)=>done_any W (hM.below hW).prog hs hm (M.where_ t) k v ok
 rw [<- hG] at hdn
 obtain ⟨f,hf⟩:∃ f,f=M.where_ t:=⟨_,rfl⟩
 rw [<- hf] at hwh hdn
 have hkS:∀ W,Below w.heap.size w W->W.cell? ⟨B,0,none⟩=some v1/\W.cell? ⟨B,1,none⟩=some v2/\W.cell? ⟨B,2,none⟩=some v3/\Below w.heap.size w W:=fun W hW=>⟨(hM.below hW).p1,(hM.below hW).p2,(hM.below hW).p3,hW⟩
 have r0:Below w.heap.size w w.drew:=(Below.refl _ _).drew
 have r1:Below w.heap.size w (w.alloc (.cells #[.int .i64 0,.int .i64 0,.int .i64 0,.int .i64 0,.int .i64 0,.int .i64 0,.int .i64 0,.int .i64 0,.int .i64 0,.int .i64 0] 61)).drew:=(below1 w _).drew
 obtain ⟨k0,k1,k2,-⟩:=hkS _ r0
 have hcl:∀ (W:World) (A:Nat),Blk W A 61 #[.int .i64 0,.int .i64 0,.int .i64 0,.int .i64 0,.int .i64 0,.int .i64 0,.int .i64 0,.int .i64 0,.int .i64 0,.int .i64 0]->(W.cell? ⟨A,0,none⟩=some (.int .i64 0)/\W.cell? ⟨A,1,none⟩=some (.int .i64 0)/\W.cell? ⟨A,2,none⟩=some (.int .i64 0)/\W.cell? ⟨A,3,none⟩=some (.int .i64 0)/\W.cell? ⟨A,4,none⟩=some (.int .i64 0)/\W.cell? ⟨A,5,none⟩=some (.int .i64 0)/\W.cell? ⟨A,6,none⟩=some (.int .i64 0)/\W.cell? ⟨A,7,none⟩=some (.int .i64 0)/\W.cell? ⟨A,8,none⟩=some (.int .i64 0)/\W.cell? ⟨A,9,none⟩=some (.int .i64 0))/\(∀ j,W.frozen? ⟨A,j,none⟩=false):=fun W A hA=>⟨⟨hA.cell rfl,hA.cell rfl,hA.cell rfl,hA.cell rfl,hA.cell rfl,hA.cell rfl,hA.cell rfl,hA.cell rfl,hA.cell rfl,hA.cell rfl⟩,hA.frozen⟩
 have hA0:Blk (w.alloc (.cells #[.int .i64 0,.int .i64 0,.int .i64 0,.int .i64 0,.int .i64 0,.int .i64 0,.int .i64 0,.int .i64 0,.int .i64 0,.int .i64 0] 61)).drew w.heap.size 61 #[.int .i64 0,.int .i64 0,.int .i64 0,.int .i64 0,.int .i64 0,.int .i64 0,.int .i64 0,.int .i64 0,.int .i64 0,.int .i64 0]:=blk_new w _ _
 have hz1:w.heap.size<(w.alloc (.cells #[.int .i64 0,.int .i64 0,.int .i64 0,.int .i64 0,.int .i64 0,.int .i64 0,.int .i64 0,.int .i64 0,.int .i64 0,.int .i64 0] 61)).drew.heap.size:=hA0.lt
 obtain ⟨⟨a0,a1,a2,a3,a4,a5,a6,a7,a8,a9⟩,af⟩:=hcl _ _ hA0
 clear hG hf
 obtain ⟨i,rfl⟩:∃ i:Nat,t=(i:Int):=⟨t.toNat,by omega⟩
 go_enter Tryz.func102,Tryz.ntmps102
 go_upto_region 0 with fail
 go_cut [10,11] from 10 to 27 (fun fv _ W=>∃ A,fv=ptrV A/\FrAt W A G.1/\Below w.heap.size w W)
 case first=>
  go_region_held3 (fun W=>W.cell? ⟨B,0,none⟩=some v1/\W.cell? ⟨B,1,none⟩=some v2/\W.cell? ⟨B,2,none⟩=some v3/\Below w.heap.size w W)
   ((refine hkS _ ?_;with_reducible first | exact r0 | exact r1 | exact hb3 | exact hb2 | exact Mch.Below.al hb3 hb3.size _ | exact Mch.Below.al hb2 hb2.size _ | exact hb3.trans ((sto10 hA3 _ _ _ _ _ _ _ _ _ _).2.below hb3.size (by first | (simp;done) | (simp;exact hb2.size)))))
   ((first
    | (go_at_call 106;refine (hwh _ r0).mono ?_;rintro e w2 ⟨rfl,hb2'⟩;have hb2:=r0.trans hb2';obtain ⟨m0,m1,m2,-⟩:=hkS _ hb2)
    | (go_at_call 106;refine (hwh _ r1).mono ?_;rintro e w2 ⟨rfl,hb2'⟩;have hb2:=r1.trans (hb2'.mono (Nat.le_of_lt hz1));have hA2:=Blk.later hA0 hb2' hA0.lt;obtain ⟨m0,m1,m2,-⟩:=hkS _ hb2)
    | (go_at_call 142;refine (hdn _ hb2).mono ?_;rintro e w3 ⟨rfl,hb3'⟩;have hb3:=hb2.trans (hb3'.mono hb2.size);have hA3:=Blk.later hA2 hb3' hA2.lt;obtain ⟨⟨c0,c1,c2,c3,c4,c5,c6,c7,c8,c9⟩,cf⟩:=hcl _ _ hA3)
    | (go_at_call 142;refine (hdn _ hb2).mono ?_;rintro e w3 ⟨rfl,hb3'⟩;have hb3:=hb2.trans (hb3'.mono hb2.size))
    | (go_at_call 142;refine (hdn _ (Mch.Below.al hb2 hb2.size _)).mono ?_;rintro e w3 ⟨rfl,hb3'⟩;have hb3:=(Mch.Below.al hb2 hb2.size _).trans (hb3'.mono (Nat.le_trans hb2.size (by simp)));have hA3:=Blk.later (blk_new w2 61 #[.int .i64 0,.int .i64 0,.int .i64 0,.int .i64 0,.int .i64 0,.int .i64 0,.int .i64 0,.int .i64 0,.int .i64 0,.int .i64 0]) hb3' (by simp);obtain ⟨⟨c0,c1,c2,c3,c4,c5,c6,c7,c8,c9⟩,cf⟩:=hcl _ _ hA3)))
  all_goals go_wp2_with fail
  all_goals go_meet
  all_goals first
   | exact ⟨_,rfl,(sto10 hA3 _ _ _ _ _ _ _ _ _ _).1,hb3.trans ((sto10 hA3 _ _ _ _ _ _ _ _ _ _).2.below hb3.size (by first | (simp;done) | (simp;exact hb2.size)))⟩
   | exact ⟨_,rfl,blk_new w3 _ _,Mch.Below.al hb3 hb3.size _⟩
 case rest=>
  obtain ⟨A,rfl,hF,hB⟩:=hcut
  obtain ⟨wo,rfl⟩:∃ wo:World,wo=wc:=⟨_,rfl⟩
  clear a0 a1 a2 a3 a4 a5 a6 a7 a8 a9 af hA0 hz1 k0 k1 k2 r0 r1 hkS hcl hwh hdn
  have hMc:=hM.below hB
  have hiT:i<M.T.length:=by omega
  obtain ⟨y,hy⟩:∃ y,M.T[i]?=some y:=⟨_,List.getElem?_eq_getElem hiT⟩
  obtain ⟨g,cap,rfl,hc⟩:=hMc.place hy
  obtain ⟨va,vcap,rfl⟩:=owns_slice' hMc.chans
  have q0:(0:Int)<=(i:Int):=by omega
  have q1:(i:Int)<(M.T.length:Int):=by omega
  have tk:wo.cell? ⟨B,4,none⟩=some (.slice (some ⟨g,0,none⟩) M.T.length cap):=hMc.tk
  have tkd:wo.drew.cell? ⟨B,4,none⟩=some (.slice (some ⟨g,0,none⟩) M.T.length cap):=hMc.tk
  obtain ⟨d0,d1,d2,d3,d4,d5,d6,d7,d8,d9⟩:=fra_cells (show FrAt wo.drew A G.1 from hF)
  have pz:wo.cell? ⟨g,i * 11,none⟩=some (.int .u8 (y.s:Int)):=hc 0 _ rfl
  have p1:wo.cell? ⟨g,i * 11+1,none⟩=some (.int .i64 y.f.c):=hc 1 _ rfl
  have p2:wo.cell? ⟨g,i * 11+2,none⟩=some (.int .i64 y.f.p):=hc 2 _ rfl
  have p3:wo.cell? ⟨g,i * 11+3,none⟩=some (.int .i64 y.f.r0):=hc 3 _ rfl
  have p4:wo.cell? ⟨g,i * 11+4,none⟩=some (.int .i64 y.f.r1):=hc 4 _ rfl
  have p5:wo.cell? ⟨g,i * 11+5,none⟩=some (.int .i64 y.f.r2):=hc 5 _ rfl
  have p6:wo.cell? ⟨g,i * 11+6,none⟩=some (.int .i64 y.f.r3):=hc 6 _ rfl
  have p7:wo.cell? ⟨g,i * 11+7,none⟩=some (.int .i64 y.f.r4):=hc 7 _ rfl
  have p8:wo.cell? ⟨g,i * 11+8,none⟩=some (.int .i64 y.f.r5):=hc 8 _ rfl
  have p9:wo.cell? ⟨g,i * 11+9,none⟩=some (.int .i64 y.f.r6):=hc 9 _ rfl
  have p10:wo.cell? ⟨g,i * 11+10,none⟩=some (.int .i64 y.f.r7):=hc 10 _ rfl
  have pf:∀ k,wo.frozen? ⟨g,k,none⟩=false:=owns_frozen (hMc.tasks) rfl
  go_upto_region 2 with fail
  go_region
  rw [put11]
  obtain ⟨hT1,hF1⟩:=hMc.tasked hiT ⟨1,G.1⟩ rfl
  have hMt:=hT1.drew
  have hGt:Goes o o w (putFrom wo g (i * 11) (Pla.cellsL ⟨1,G.1⟩)).drew:=(Goes.of_below hB).trans ((Goes.of_frm hF1 (fun k e=>by rw [e];omega)).trans (Goes.of_below (Below.refl _ _).drew))
  rw [show ([.int .u8 1,.int .i64 G.1.c,.int .i64 G.1.p,.int .i64 G.1.r0,.int .i64 G.1.r1,.int .i64 G.1.r2,.int .i64 G.1.r3,.int .i64 G.1.r4,.int .i64 G.1.r5,.int .i64 G.1.r6,.int .i64 G.1.r7]:List Value)=Pla.cellsL ⟨1,G.1⟩ from rfl]
  generalize (putFrom wo g (i * 11) (Pla.cellsL ⟨1,G.1⟩)).drew=wt at hMt hGt ⊢
  clear hT1 hF1 tk tkd d0 d1 d2 d3 d4 d5 d6 d7 d8 d9 pz p1 p2 p3 p4 p5 p6 p7 p8 p9 p10 pf hc hMc hM hF hB h
  obtain ⟨N,hN⟩:∃ N:Mod,N = { M with T:=M.T.set i ⟨1,G.1⟩ }:=⟨_,rfl⟩
  rw [<- hN] at hMt
  have hNC:N.C=M.C:=by rw [hN]
  have hNN:M.goOn (i:Int) k v ok = { N with C:=N.C.map (Cha.drop (i:Int)) }:=by rw [hN];unfold Mod.goOn;rw [<- HG.out,Int.toNat_natCast]
  have HNN:=Lib.hid hNN
  have p5:=hMt.cn
  rw [hMt.len] at p5
  obtain ⟨n,hn⟩:∃ n,n=N.C.length:=⟨_,rfl⟩
  have hn6:n<=6:=by rw [hn,hNC];exact hC6
  have hlN:∀ j,(N.ch j).S.length<=900/\(N.ch j).R.length<=900:=fun j=>by unfold Mod.ch;rw [hNC];exact hl j
  have HN:=Lib.hid hn
  rw [<- hn] at p5
  clear hn hNN hNC hN hl hC6 q1 hy hiT HG hT
  go_wp2_with fail
  go_loopw [41] (fun iv wr=>∃ j:Nat,j<=n/\iv=.int .i64 (j:Int)/\∃ o1,MdAt wr o1 B lo hi v1 v2 v3 (.slice (some ⟨g,0,none⟩) M.T.length cap) (.slice va Cs.length vcap) Cs { N with C:=dropK (i:Int) j N.C }/\Goes o o1 w wr) (fun iv _=>n - (intOf iv).toNat)
  case atStart=>exact ⟨0,by omega,rfl,o,by simpa [dropK] using hMt,hGt⟩
  case round=>
   obtain ⟨j,hj,rfl,o1,hr,hgo⟩:=hrel
   by_cases hlt:j<n
   ·have hlt':(j:Int)<(n:Int):=by omega
    have q2:(0:Int)<=(j:Int):=by omega
    have q6:(j:Int)<6:=by omega
    have hwr:IntKind.i64.wrap ((j:Int)+1)=(j:Int)+1:=by rw [IntKind.wrap_i64];omega
    have hjN:j<N.C.length:=by rw [<- HN.out];exact hlt
    obtain ⟨C,g',cap',hC,hvC,hcell,hch⟩:=hr.chan (show j<(dropK (i:Int) j N.C).length by rw [dropK_len];exact hjN)
    obtain ⟨rfl,-, -⟩:=Value.slice.inj hvC
    have hjc:N.C[j]?=some (N.ch (j:Int)):=by unfold Mod.ch;rw [Int.toNat_natCast,List.getElem?_eq_getElem hjN];rfl
    have hmc:Mod.ch { N with C:=dropK (i:Int) j N.C } (j:Int)=N.ch (j:Int):=by unfold Mod.ch;simp only;rw [Int.toNat_natCast,dropK_at hjN]
    rw [hmc] at hch
    have hdr:=Mch.drop_any (i:Int) wr hch (hlN j).1 (hlN j).2
    clear hvC
    go_wp2_with fail
    refine hdr.mono ?_
    rintro e w5 ⟨⟨q,rfl⟩,hc5,hF5⟩
    have hnx:=hr.channed (c:=(N.ch (j:Int)).drop (i:Int)) hC hc5 hF5
    have hgx:=hgo.trans (goes_channed hF5)
    rw [show (dropK (i:Int) j N.C).set j ((N.ch (j:Int)).drop (i:Int))=dropK (i:Int) (j+1) N.C from dropK_set hjc] at hnx
    clear hdr hc5 hF5 hr hgo hch hmc hjc
    go_wp2_with fail
    go_roundw
    case rel=>exact ⟨j+1,by omega,by go_num,_,hnx,hgx⟩
    case measure=>simp [intOf];omega
   ·obtain rfl:j=n:=by omega
    have hf:dropK (i:Int) j N.C=N.C.map (Cha.drop (i:Int)):=by rw [HN.out];exact dropK_all _ _
    rw [hf] at hr
    go_wp2_with fail
    go_end0
    rw [HNN.out]
    exact ⟨rfl,o1,⟨_,_,_,_,_,_,_,_,hr⟩,hgo⟩
open Go.RowKit
open Mch (Wt Gt whatK putL Chn Frm Fw Fl sel)
section
variable {W W':World} {o:Nat->Nat} {B lo hi:Nat} {v1 v2 v3 vT vC:Value} {Cs:List Nat} {M:Mod}
theorem set_modify {α:Type} (l:List α) (i:Nat) (f:α->α) {x:α} (h:l[i]?=some x):l.set i (f x)=l.modify i f:=by
 apply List.ext_getElem?
 intro j
 rw [List.getElem?_modify,List.getElem?_set]
 by_cases e:i=j
 ·subst e
  have hl:=(List.getElem?_eq_some_iff.1 h).1
  rw [if_pos rfl,if_pos hl,h];simp
 ·rw [if_neg e];simp [e]
theorem chan_at {i:Nat} (hi':i<M.C.length):M.C[i]?=some (M.ch i):=by
 unfold Mod.ch;rw [Int.toNat_natCast,List.getElem?_eq_getElem hi'];rfl
theorem MdAt.turned (h:MdAt W o B lo hi v1 v2 v3 vT vC Cs M) {i C:Nat} (hi':i<M.C.length) (hC:Cs[i]?=some C) (f:Cha->Cha) (hc:Chn W' (Fw (fun k=>o k=5+i) W) C (f (M.ch i)).m (f (M.ch i)).cl (f (M.ch i)).buf (f (M.ch i)).S (f (M.ch i)).R) (hF:Frm (fun k=>o k=5+i) W W') :
  ∃ o',Md W' o' B (M.setC i f)/\Goes o o' W W':=by
 have h1:=h.channed hC hc hF
 refine ⟨_,⟨lo,hi,v1,v2,v3,vT,vC,Cs,?_⟩,goes_channed hF⟩
 unfold Mod.setC
 rw [Int.toNat_natCast, <- set_modify M.C i f (chan_at hi')]
 exact h1
theorem Md.chan_do (h:Md W o B M) {i:Nat} (hi':i<M.C.length) {fn:FuncId} {args:Array Value} {f:Cha->Cha} {R:Ending->Prop}
  (hcall:∀ (F:Nat->Prop) (C:Nat) (V:World),Chn V F C (M.ch i).m (M.ch i).cl (M.ch i).buf (M.ch i).S (M.ch i).R->Calls Tryz.prog fn (#[ptrV C] ++ args) V fun e w'=>R e/\Chn w' (Fw F V) C (f (M.ch i)).m (f (M.ch i)).cl (f (M.ch i)).buf (f (M.ch i)).S (f (M.ch i)).R/\Frm F V w') :
  ∃ C g cap,∀ V,Below W.heap.size W V->V.cell? ⟨B,5,none⟩=some (.slice (some ⟨g,0,none⟩) M.C.length cap)/\V.cell? ⟨g,i,none⟩=some (ptrV C) /\
   Calls Tryz.prog fn (#[ptrV C] ++ args) V fun e w'=>R e/\(∃ o',Md w' o' B (M.setC i f)/\Goes o o' V w')/\w'.cell? ⟨B,5,none⟩=some (.slice (some ⟨g,0,none⟩) M.C.length cap)/\w'.cell? ⟨g,i,none⟩=some (ptrV C):=by
 obtain ⟨lo,hi,v1,v2,v3,vT,vC,Cs,h⟩:=h
 obtain ⟨C,g,cap,hC,rfl,hcell,hch⟩:=h.chan hi'
 refine ⟨C,g,cap,fun V hV=>?_⟩
 have h2:=h.below hV
 have h3:=h2.cn
 rw [h2.len] at h3
 obtain ⟨C',g',cap',hC',hvC',hcell',hch'⟩:=h2.chan hi'
 rw [hC] at hC'
 cases hC'
 cases hvC'
 refine ⟨h3,hcell',(hcall _ C V hch').mono ?_⟩
 rintro e w' ⟨hR,hc,hF⟩
 exact ⟨hR,h2.turned hi' hC f hc hF,(World.cell?_of_block (hF.block B h2.lt (by rw [h2.hown];omega))).trans h3,(World.cell?_of_block (hF.block g (h2.low g (by rw [h2.cown g rfl];omega)) (by rw [h2.cown g rfl];omega))).trans hcell'⟩
end
open Go.RowKit
open Mch (grown_below below1 below_nx owns_slice' boxed_below)
abbrev stdA (B:Nat) (t:Int) (f:Fra) (x:In):Array Value:=#[ptrV B,.int .i64 t,.int .i64 f.c,.int .i64 f.p,.int .i64 f.r0,.int .i64 f.r1,.int .i64 f.r2,.int .i64 f.r3,.int .i64 f.r4,.int .i64 f.r5,.int .i64 f.r6,.int .i64 f.r7,.int .u8 (x.o:Int),.int .i64 x.a,.int .i64 x.b,.int .i64 x.c,.int .i64 x.k]
abbrev stdV (B:Nat) (t:Int) (f:Fra) (x:In):Value:=.agg #[ptrV B,.int .i64 t,.int .i64 f.c,.int .i64 f.p,.int .i64 f.r0,.int .i64 f.r1,.int .i64 f.r2,.int .i64 f.r3,.int .i64 f.r4,.int .i64 f.r5,.int .i64 f.r6,.int .i64 f.r7,.int .u8 (x.o:Int),.int .i64 x.a,.int .i64 x.b,.int .i64 x.c,.int .i64 x.k]
abbrev StAt (W:World) (A B:Nat) (t:Int) (f:Fra) (x:In):Prop:=Blk W A 107 (stdA B t f x)
abbrev zstV:Value:=.agg #[.pointer none,.int .i64 0,.int .i64 0,.int .i64 0,.int .i64 0,.int .i64 0,.int .i64 0,.int .i64 0,.int .i64 0,.int .i64 0,.int .i64 0,.int .i64 0,.int .u8 0,.int .i64 0,.int .i64 0,.int .i64 0,.int .i64 0]
theorem std_cells {W:World} {A B:Nat} {t:Int} {f:Fra} {x:In} {ty:TypeId} (h:Blk W A ty (stdA B t f x)):W.cell? ⟨A,0,none⟩=some (ptrV B)/\W.cell? ⟨A,1,none⟩=some (.int .i64 t)/\W.cell? ⟨A,2,none⟩=some (.int .i64 f.c)/\W.cell? ⟨A,3,none⟩=some (.int .i64 f.p)/\W.cell? ⟨A,4,none⟩=some (.int .i64 f.r0)/\W.cell? ⟨A,5,none⟩=some (.int .i64 f.r1)/\W.cell? ⟨A,6,none⟩=some (.int .i64 f.r2)/\W.cell? ⟨A,7,none⟩=some (.int .i64 f.r3)/\W.cell? ⟨A,8,none⟩=some (.int .i64 f.r4)/\W.cell? ⟨A,9,none⟩=some (.int .i64 f.r5)/\W.cell? ⟨A,10,none⟩=some (.int .i64 f.r6)/\W.cell? ⟨A,11,none⟩=some (.int .i64 f.r7)/\W.cell? ⟨A,12,none⟩=some (.int .u8 (x.o:Int))/\W.cell? ⟨A,13,none⟩=some (.int .i64 x.a)/\W.cell? ⟨A,14,none⟩=some (.int .i64 x.b)/\W.cell? ⟨A,15,none⟩=some (.int .i64 x.c)/\W.cell? ⟨A,16,none⟩=some (.int .i64 x.k):=
 ⟨h.cell rfl,h.cell rfl,h.cell rfl,h.cell rfl,h.cell rfl,h.cell rfl,h.cell rfl,h.cell rfl,h.cell rfl,h.cell rfl,h.cell rfl,h.cell rfl,h.cell rfl,h.cell rfl,h.cell rfl,h.cell rfl,h.cell rfl⟩
theorem zst_cells {W:World} {A:Nat} {ty:TypeId} (h:Blk W A ty #[.pointer none,.int .i64 0,.int .i64 0,.int .i64 0,.int .i64 0,.int .i64 0,.int .i64 0,.int .i64 0,.int .i64 0,.int .i64 0,.int .i64 0,.int .i64 0,.int .u8 0,.int .i64 0,.int .i64 0,.int .i64 0,.int .i64 0]):W.cell? ⟨A,0,none⟩=some (.pointer none)/\W.cell? ⟨A,1,none⟩=some (.int .i64 0)/\W.cell? ⟨A,2,none⟩=some (.int .i64 0)/\W.cell? ⟨A,3,none⟩=some (.int .i64 0)/\W.cell? ⟨A,4,none⟩=some (.int .i64 0)/\W.cell? ⟨A,5,none⟩=some (.int .i64 0)/\W.cell? ⟨A,6,none⟩=some (.int .i64 0)/\W.cell? ⟨A,7,none⟩=some (.int .i64 0)/\W.cell? ⟨A,8,none⟩=some (.int .i64 0)/\W.cell? ⟨A,9,none⟩=some (.int .i64 0)/\W.cell? ⟨A,10,none⟩=some (.int .i64 0)/\W.cell? ⟨A,11,none⟩=some (.int .i64 0)/\W.cell? ⟨A,12,none⟩=some (.int .u8 0)/\W.cell? ⟨A,13,none⟩=some (.int .i64 0)/\W.cell? ⟨A,14,none⟩=some (.int .i64 0)/\W.cell? ⟨A,15,none⟩=some (.int .i64 0)/\W.cell? ⟨A,16,none⟩=some (.int .i64 0):=
 ⟨h.cell rfl,h.cell rfl,h.cell rfl,h.cell rfl,h.cell rfl,h.cell rfl,h.cell rfl,h.cell rfl,h.cell rfl,h.cell rfl,h.cell rfl,h.cell rfl,h.cell rfl,h.cell rfl,h.cell rfl,h.cell rfl,h.cell rfl⟩
theorem results_cell_row2 {P:Program} {fn:Func} {p q:Tmp} {ty:TypeId} (h:fn.results=#[.cell p ty,.tmp q]) (tmps:Array Value) (w:World) (g:Nat) (t:TypeId) (cs:Array Value) (d:TypeDesc) (v:Value)
  (hp:tmps.getD p undef=.pointer (some ⟨g,0,none⟩)) (hq:tmps.getD q undef=v) (hg:Blk w g t cs)
  (hu:P.underlying ty=some d) (hd:(match d with | .struct _ | .array _ _=>true | _=>false)=true) (hi:(P.info? ty).map (·.size)=some cs.size) :
  (results fn tmps).run P w=.ok (.tuple #[.agg cs,v]) w:=by
 have hp':tmps[p]?.getD undef=.pointer (some ⟨g,0,none⟩):=by simpa using hp
 have hq':tmps[q]?.getD undef=v:=by simpa using hq
 simp [results,h,hp',hq',asAddr,run_loadVar_row w g t ty cs (0,0) d hg hu hd hi]
theorem szStd:(Tryz.prog.info? 107).map (·.size)=some 17:=by kernel_rfl
theorem stand_at {M:Mod} {t:Int} (hm:checkW M.p=none) (h:(M.stand t).2=0):∃ x,atF M.p (M.stand t).1=some x/\M.does t=x/\5<=x.o/\x.o<=10/\∃ y,M.task t=some y/\y.s=1:=by
 unfold Mod.does
 unfold Mod.stand at h ⊢
 cases hy:M.task t with
 | none=>rw [hy] at h;simp at h
 | some y=>
  rw [hy] at h
  by_cases h1:y.s=1
  ·simp only [h1,if_true] at h ⊢
   obtain ⟨g,hg⟩:∃ g,g=(runT M.p y.f 65536).1:=⟨_,rfl⟩
   obtain ⟨q,hq⟩:∃ q,q=(runT M.p y.f 65536).2.1:=⟨_,rfl⟩
   have hr:runT M.p y.f 65536=(g,q,0):=by rw [hg,hq, <- h]
   obtain ⟨h2,h3,h4,h5⟩:=runT_ok hr
   have h6:=runF_at hm _ _ _ _ _ h2 h5
   obtain ⟨_,h7,_⟩:=runF_more _ _ _ _ _ h5
   rw [<- hg]
   obtain ⟨x,hx⟩:=Option.isSome_iff_exists.1 h6
   have h8:=at_kind hm hx
   unfold locAt at h7
   rw [hx] at h7 ⊢
   refine ⟨x,rfl,rfl,?_,h8.2,y,rfl,h1⟩
   unfold locO at h7
   simp at h7
   omega
  ·simp [h1] at h
open Go.RowKit Go.Maps
open Mch (grown_below below1 below_nx owns_slice' boxed_below)
def Rulzero:Value:=.agg #[.nilFunc,.nilFunc]
theorem RulzeroE (w:World):(zeroValue 113).run Tryz.prog w=.ok Rulzero w:=by kernel_rfl
def RulMap (W:World) (M:Nat) (g:Nat->Option Value) (c:Nat):Prop:=
 ∃ D:DataW Value,W.ownsMap Tryz.prog 5 heldE M c D/\Maps.size D=c/\∀ i:Nat,i<256->Maps.has D (.int .u8 (i:Int))=(g i).isSome/\D.atKey (.int .u8 (i:Int)) (.held Rulzero)=.held ((g i).getD Rulzero)
section
variable {W W':World} {M c:Nat} {g:Nat->Option Value}
theorem Rulmap_made (w:World):RulMap (w.alloc (.map #[] 0)) w.heap.size (fun _=>none) 0:=
 ⟨.map [],World.ownsMap_made w _ _ _,rfl,fun _ _=>⟨rfl,rfl⟩⟩
theorem RulMap.look (h:RulMap W M g c) {i:Nat} (hi:i<256) {v:Value} (hv:g i=some v):(Instr.lookup 163 (.map (some M)) (.int .u8 (i:Int)) false).run Tryz.prog W=.ok v W:=by
 obtain ⟨D,hown,_,hD⟩:=h
 obtain ⟨u,ps,hrun,hu⟩:=hown.lookup keyed Tryz.underlying163 (RulzeroE W) (show heldE Rulzero=some (.held Rulzero,[]) from rfl) (keyK hi)
 obtain ⟨h1,h2⟩:=hD i hi
 simp only [heldE,Option.some.injEq,Prod.mk.injEq] at hu
 rw [h2,hv] at hu
 rw [hrun,held_inj hu.1];rfl
theorem RulMap.store (h:RulMap W M g c) (hc:c<maxLen) {i:Nat} (hi:i<256) (hn:(g i).isSome=false) (x:Value) :
  ∃ W',(Instr.mapUpdate 163 (.map (some M)) (.int .u8 (i:Int)) x).run Tryz.prog W=.ok () W'/\RulMap W' M (upd g i (some x)) (c+1)/\W.grownBy W' (some M):=by
 obtain ⟨D,hown,hs,hD⟩:=h
 obtain ⟨W',hrun,hown',hg⟩:=hown.update keyed Tryz.underlying163 hc (keyK hi) (show heldE x=some (.held x,[]) from rfl)
 have hT:=hown.tidy keyed
 have hsz:=size_put (k:=.int .u8 (i:Int)) hT (.held x)
 rw [(hD i hi).1,hs,hn] at hsz
 refine ⟨W',hrun,⟨_,?_,hsz,fun k hk=>?_⟩,hg⟩
 ·obtain ⟨es,clock,hb,F,hn,hD'⟩:=hown'
  refine ⟨es,clock,hb,F,?_,hD'⟩
  rw [hD'] at hsz
  simp only [Maps.size,length_sorted,List.length_map,Array.length_toList] at hsz
  simp only [Bool.false_eq_true,if_false] at hsz
  omega
 ·by_cases e:k=i
  ·subst e
   rw [upd_same]
   exact ⟨has_put_same hT.isMap (keyLit hk) _,atKey_put_same hT.isMap (keyLit hk) _ _⟩
  ·rw [upd_ne e]
   have e':=lit_ne e
   exact ⟨(has_put_other e' _).trans (hD k hk).1,(atKey_put_other e' _ _).trans (hD k hk).2⟩
end
theorem wpList_insRul (w:World) {ops:Array Oper} {rest:List Oper} {o:Oper} {a:Act} {Q:Exit->Act->World->Prop} (hg:o.guard=none) (m x v:Operand) (hop:o.op=Op.insert 163 m x v) (M:Nat) (g:Nat->Option Value) (c k:Nat) (u:Value)
  (hm:a.eval m=.map (some M)) (h:RulMap w M g c) (hc:c<100) (hx:a.eval x=.int .u8 (k:Int)) (hk:k<256) (hv:a.eval v=u) (hn:(g k).isSome=false)
  (hK:∀ w',RulMap w' M (upd g k (some u)) (c+1)->w.grownBy w' (some M)->wpList Tryz.prog ops Q rest (a.put o.dst undef) w') :
  wpList Tryz.prog ops Q (o::rest) a w:=by
 refine wpList_plain hg fun K' hK'=>?_
 obtain ⟨w',hrun,r1,r2⟩:=h.store (by unfold maxLen;omega) hk hn u
 unfold Oper.wp
 simp [execOp,hop,hm,hx,hv,Result.andThen]
 rw [hrun]
 exact hK' _ _ (hK w' r1 r2)
def Deezero:Value:=.nilFunc
theorem DeezeroE (w:World):(zeroValue 85).run Tryz.prog w=.ok Deezero w:=by kernel_rfl
def DeeMap (W:World) (M:Nat) (g:Nat->Option Value) (c:Nat):Prop:=
 ∃ D:DataW Value,W.ownsMap Tryz.prog 5 heldE M c D/\Maps.size D=c/\∀ i:Nat,i<256->Maps.has D (.int .u8 (i:Int))=(g i).isSome/\D.atKey (.int .u8 (i:Int)) (.held Deezero)=.held ((g i).getD Deezero)
section
variable {W W':World} {M c:Nat} {g:Nat->Option Value}
theorem Deemap_made (w:World):DeeMap (w.alloc (.map #[] 0)) w.heap.size (fun _=>none) 0:=
 ⟨.map [],World.ownsMap_made w _ _ _,rfl,fun _ _=>⟨rfl,rfl⟩⟩
theorem DeeMap.look (h:DeeMap W M g c) {i:Nat} (hi:i<256) {v:Value} (hv:g i=some v):(Instr.lookup 86 (.map (some M)) (.int .u8 (i:Int)) false).run Tryz.prog W=.ok v W:=by
 obtain ⟨D,hown,_,hD⟩:=h
 obtain ⟨u,ps,hrun,hu⟩:=hown.lookup keyed Tryz.underlying86 (DeezeroE W) (show heldE Deezero=some (.held Deezero,[]) from rfl) (keyK hi)
 obtain ⟨h1,h2⟩:=hD i hi
 simp only [heldE,Option.some.injEq,Prod.mk.injEq] at hu
 rw [h2,hv] at hu
 rw [hrun,held_inj hu.1];rfl
theorem DeeMap.store (h:DeeMap W M g c) (hc:c<maxLen) {i:Nat} (hi:i<256) (hn:(g i).isSome=false) (x:Value) :
  ∃ W',(Instr.mapUpdate 86 (.map (some M)) (.int .u8 (i:Int)) x).run Tryz.prog W=.ok () W'/\DeeMap W' M (upd g i (some x)) (c+1)/\W.grownBy W' (some M):=by
 obtain ⟨D,hown,hs,hD⟩:=h
 obtain ⟨W',hrun,hown',hg⟩:=hown.update keyed Tryz.underlying86 hc (keyK hi) (show heldE x=some (.held x,[]) from rfl)
 have hT:=hown.tidy keyed
 have hsz:=size_put (k:=.int .u8 (i:Int)) hT (.held x)
 rw [(hD i hi).1,hs,hn] at hsz
 refine ⟨W',hrun,⟨_,?_,hsz,fun k hk=>?_⟩,hg⟩
 ·obtain ⟨es,clock,hb,F,hn,hD'⟩:=hown'
  refine ⟨es,clock,hb,F,?_,hD'⟩
  rw [hD'] at hsz
  simp only [Maps.size,length_sorted,List.length_map,Array.length_toList] at hsz
  simp only [Bool.false_eq_true,if_false] at hsz
  omega
 ·by_cases e:k=i
  ·subst e
   rw [upd_same]
   exact ⟨has_put_same hT.isMap (keyLit hk) _,atKey_put_same hT.isMap (keyLit hk) _ _⟩
  ·rw [upd_ne e]
   have e':=lit_ne e
   exact ⟨(has_put_other e' _).trans (hD k hk).1,(atKey_put_other e' _ _).trans (hD k hk).2⟩
end
theorem wpList_insDee (w:World) {ops:Array Oper} {rest:List Oper} {o:Oper} {a:Act} {Q:Exit->Act->World->Prop} (hg:o.guard=none) (m x v:Operand) (hop:o.op=Op.insert 86 m x v) (M:Nat) (g:Nat->Option Value) (c k:Nat) (u:Value)
  (hm:a.eval m=.map (some M)) (h:DeeMap w M g c) (hc:c<100) (hx:a.eval x=.int .u8 (k:Int)) (hk:k<256) (hv:a.eval v=u) (hn:(g k).isSome=false)
  (hK:∀ w',DeeMap w' M (upd g k (some u)) (c+1)->w.grownBy w' (some M)->wpList Tryz.prog ops Q rest (a.put o.dst undef) w') :
  wpList Tryz.prog ops Q (o::rest) a w:=by
 refine wpList_plain hg fun K' hK'=>?_
 obtain ⟨w',hrun,r1,r2⟩:=h.store (by unfold maxLen;omega) hk hn u
 unfold Oper.wp
 simp [execOp,hop,hm,hx,hv,Result.andThen]
 rw [hrun]
 exact hK' _ _ (hK w' r1 r2)
def fnS (k:FuncId) (B:Nat) (t:Int) (f:Fra) (x:In):Value:=.func (.func k) #[stdV B t f x] #[]
def tryF (B:Nat) (t:Int) (f:Fra) (x:In):Nat->Value
 | 5=>fnS 121 B t f x
 | 6=>fnS 123 B t f x
 | 8=>fnS 124 B t f x
 | _=>.nilFunc
def mayF (B:Nat) (t:Int) (f:Fra) (x:In):Nat->Value
 | 5=>fnS 122 B t f x
 | 6=>fnS 122 B t f x
 | 7=>fnS 126 B t f x
 | 8=>fnS 125 B t f x
 | 9=>fnS 127 B t f x
 | _=>fnS 128 B t f x
def rulV (B:Nat) (t:Int) (f:Fra) (x:In) (o:Nat):Value:=.agg #[tryF B t f x o,mayF B t f x o]
theorem rul_below {w0 w w':World} {n M:Nat} (h:Below n w0 w) (hn:n<=w0.heap.size) (hM:n<=M) (hb:w.grownBy w' (some M)):Below n w0 w':=
 h.grown hb (Nat.le_trans hn h.size) (fun k e=>by cases e;exact hM)
theorem rules_any (B:Nat) (t:Int) (f:Fra) (x:In) (w:World) :
  Calls Tryz.prog 86 #[stdV B t f x] w fun e w'=>∃ M g,e=.returned (.map (some M))/\RulMap w' M g 6/\(∀ o,5<=o->o<=10->g o=some (rulV B t f x o))/\Below w.heap.size w w':=by
 have hmf:∀ (fn:Fn) (first cap:Array Value) (w:World),(Instr.makeFunc fn first cap).run Tryz.prog w=.ok (.func fn first cap) w:=fun _ _ _ _=>rfl
 have hmm:=@run_makeMap Tryz.prog
 obtain ⟨w1,hw1⟩:∃ w1,w1=w.alloc (.cells (stdA B t f x) 107):=⟨_,rfl⟩
 have hB1:Below w.heap.size w w1:=by rw [hw1];exact below1 w _
 have hS1:StAt w1 w.heap.size B t f x:=by rw [hw1];exact blk_new w _ _
 obtain ⟨w2,hw2⟩:∃ w2,w2=w1.alloc (.map #[] 0):=⟨_,rfl⟩
 have hB2:Below w1.heap.size w1 w2:=by rw [hw2];exact below1 w1 _
 have hM:RulMap w2 w1.heap.size (fun _=>none) 0:=by rw [hw2];exact Rulmap_made w1
 have hSM:w.heap.size ≠ w1.heap.size:=by have:=hS1.lt;omega
 have hS2:StAt w2 w.heap.size B t f x:=hS1.later hB2 hS1.lt
 have hS:Blk w2 w.heap.size 107 (stdA B t f x)/\Below w.heap.size w w2:=⟨hS2,below_nx hB1 hB2 (Nat.le_refl _)⟩
 have hkeep:∀ W W',Blk W w.heap.size 107 (stdA B t f x)/\Below w.heap.size w W->W.grownBy W' (some w1.heap.size)->Blk W' w.heap.size 107 (stdA B t f x)/\Below w.heap.size w W':=fun W W' h hg=>
  ⟨(hg.block _ h.1.lt (by simpa using hSM)).trans h.1,rul_below h.2 (Nat.le_refl _) hB1.size hg⟩
 clear hS1 hS2 hB1 hB2
 go_enter Tryz.func86,Tryz.ntmps86
 go_upto_region 1 with fail
 rw [<- hw1]
 rw [hw2] at hM hS
 clear hw1 hw2
 go_wp2_with (first
  | (refine wpList_load_row rfl 107 _ rfl w.heap.size rfl 107 (stdA B t f x) (0,0) _ hS.1 Tryz.underlying107 rfl szStd ?_;go_frame)
  | (refine wpList_insRul _ rfl _ _ _ rfl w1.heap.size _ _ 5 (rulV B t f x 5) rfl hM (by decide) rfl (by decide) rfl (by rfl) ?_;intro wx hMx hgx;have hSx:=hkeep _ _ hS hgx;clear hM hS hgx;have hM:=hMx;have hS:=hSx;clear hMx hSx;go_frame)
  | (refine wpList_insRul _ rfl _ _ _ rfl w1.heap.size _ _ 6 (rulV B t f x 6) rfl hM (by decide) rfl (by decide) rfl (by rfl) ?_;intro wx hMx hgx;have hSx:=hkeep _ _ hS hgx;clear hM hS hgx;have hM:=hMx;have hS:=hSx;clear hMx hSx;go_frame)
  | (refine wpList_insRul _ rfl _ _ _ rfl w1.heap.size _ _ 8 (rulV B t f x 8) rfl hM (by decide) rfl (by decide) rfl (by rfl) ?_;intro wx hMx hgx;have hSx:=hkeep _ _ hS hgx;clear hM hS hgx;have hM:=hMx;have hS:=hSx;clear hMx hSx;go_frame)
  | (refine wpList_insRul _ rfl _ _ _ rfl w1.heap.size _ _ 7 (rulV B t f x 7) rfl hM (by decide) rfl (by decide) rfl (by rfl) ?_;intro wx hMx hgx;have hSx:=hkeep _ _ hS hgx;clear hM hS hgx;have hM:=hMx;have hS:=hSx;clear hMx hSx;go_frame)
  | (refine wpList_insRul _ rfl _ _ _ rfl w1.heap.size _ _ 9 (rulV B t f x 9) rfl hM (by decide) rfl (by decide) rfl (by rfl) ?_;intro wx hMx hgx;have hSx:=hkeep _ _ hS hgx;clear hM hS hgx;have hM:=hMx;have hS:=hSx;clear hMx hSx;go_frame)
  | (refine wpList_insRul _ rfl _ _ _ rfl w1.heap.size _ _ 10 (rulV B t f x 10) rfl hM (by decide) rfl (by decide) rfl (by rfl) ?_;intro wx hMx hgx;have hSx:=hkeep _ _ hS hgx;clear hM hS hgx;have hM:=hMx;have hS:=hSx;clear hMx hSx;go_frame))
 go_ret
 refine ⟨_,_,rfl,hM,fun o h5 h10=>?_,hS.2⟩
 have:o=5 \/ o=6 \/ o=7 \/ o=8 \/ o=9 \/ o=10:=by omega
 rcases this with rfl | rfl | rfl | rfl | rfl | rfl <;> simp [upd]
end Go.Proofs.YtnfbncgfpmcpnaaGreat.Mdl
