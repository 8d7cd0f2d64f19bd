/-
  ReplayNext: its walks, part 23.
-/
import Derived.Test.YtnfbncgfpmcpnaaGreatQ22
set_option maxRecDepth 100000
set_option maxHeartbeats 12800000
namespace Go.Proofs.YtnfbncgfpmcpnaaGreat.Mdl
open Go.RowKit
open Mch (Chn Frm Fw Fl)
section
variable {W W':World} {o:Nat->Nat} {B lo hi:Nat} {v1 v2 v3 vT vC:Value} {Cs:List Nat} {M:Mod}
theorem MdAt.tasked (h:MdAt W o B lo hi v1 v2 v3 vT vC Cs M) {i:Nat} (hi':i<M.T.length) (x:Pla) {g:Nat} (hv:vT.ownBlock=some g) :
  MdAt (putFrom W g (i * 11) x.cellsL) o B lo hi v1 v2 v3 vT vC Cs { M with T:=M.T.set i x }/\Frm (fun k=>o k=3) W (putFrom W g (i * 11) x.cellsL):=by
 have hF:Frm (fun k=>o k=3) W (putFrom W g (i * 11) x.cellsL):=putFrom_frm (F:=fun k=>o k=3) (h.town g hv) _ _ _
 refine ⟨?_,hF⟩
 exact {
  head:=(hF.block B h.head.lt (by rw [h.hown];omega)).trans h.head
  hown:=h.hown
  prog:=keep_prog h.prog hF (fun k h1 h2=>by rw [h.pown k h1 h2];omega)
  pown:=h.pown
  tasks:=by
   have:=owns_putFrom hv x.cellsL (i * 11) h.tasks
   unfold flatP at this
   rw [<- flat_set Pla.cellsL 11 pla_len x M.T i hi'] at this
   simpa [flatP] using this
  town:=h.town
  chans:=keep_row h.chans hF (fun g' e=>by rw [h.cown g' e];omega)
  cown:=h.cown
  len:=h.len
  chs:=fun j C c hC hc=>keep_chn (h.chs j C c hC hc) hF (fun k hk=>by rw [hk];omega)
  low:=fun k hk=>Nat.lt_of_lt_of_le (h.low k hk) hF.size }
theorem MdAt.of_head (h:MdAt W o B lo hi v1 v2 v3 vT vC Cs M) {M':Mod} (hF:Frm (fun k=>o k=1) W W') (hh:Blk W' B 81 (mdCells v1 v2 v3 vT vC M')) (hp:M'.p=M.p) (hT:M'.T=M.T) (hC:M'.C=M.C) :
  MdAt W' o B lo hi v1 v2 v3 vT vC Cs M' where
 head:=hh
 hown:=h.hown
 prog:=by rw [hp];exact keep_prog h.prog hF (fun k h1 h2=>by rw [h.pown k h1 h2];omega)
 pown:=h.pown
 tasks:=by rw [hT];exact keep_row h.tasks hF (fun g' e=>by rw [h.town g' e];omega)
 town:=h.town
 chans:=keep_row h.chans hF (fun g' e=>by rw [h.cown g' e];omega)
 cown:=h.cown
 len:=by rw [hC];exact h.len
 chs:=fun j C c hCj hc=>keep_chn (h.chs j C c hCj (by rw [<- hC];exact hc)) hF (fun k hk=>by rw [hk];omega)
 low:=fun k hk=>Nat.lt_of_lt_of_le (h.low k hk) hF.size
theorem MdAt.blamed (h:MdAt W o B lo hi v1 v2 v3 vT vC Cs M) (t e:Int) :
  MdAt ((W.setCell ⟨B,12,none⟩ (.int .i64 t)).setCell ⟨B,13,none⟩ (.int .i64 e)) o B lo hi v1 v2 v3 vT vC Cs { M with who:=t,e:=e }/\Frm (fun k=>o k=1) W ((W.setCell ⟨B,12,none⟩ (.int .i64 t)).setCell ⟨B,13,none⟩ (.int .i64 e)):=by
 have hF:Frm (fun k=>o k=1) W ((W.setCell ⟨B,12,none⟩ (.int .i64 t)).setCell ⟨B,13,none⟩ (.int .i64 e)):=
  Mch.Frm.trans_new (Mch.Frm.set (p:=⟨B,12,none⟩) W _ h.hown) (Mch.Frm.set (F:=fun k=>o k=1) (p:=⟨B,13,none⟩) _ _ h.hown) (fun i hi=>.inl hi)
 exact ⟨h.of_head hF (by have:=(h.head.set 12 (.int .i64 t)).set 13 (.int .i64 e);simpa [mdCells] using this) rfl rfl rfl,hF⟩
theorem MdAt.closer (h:MdAt W o B lo hi v1 v2 v3 vT vC Cs M) {i:Nat} (hi':i<6) (t:Int) :
  MdAt (W.setCell ⟨B,6+i,none⟩ (.int .i64 t)) o B lo hi v1 v2 v3 vT vC Cs { M with K:=fun j=>if j=i then t else M.K j }/\Frm (fun k=>o k=1) W (W.setCell ⟨B,6+i,none⟩ (.int .i64 t)):=by
 have hF:Frm (fun k=>o k=1) W (W.setCell ⟨B,6+i,none⟩ (.int .i64 t)):=Mch.Frm.set (p:=⟨B,6+i,none⟩) W _ h.hown
 refine ⟨h.of_head hF ?_ rfl rfl rfl,hF⟩
 have:=h.head.set (6+i) (.int .i64 t)
 have e:i=0 \/ i=1 \/ i=2 \/ i=3 \/ i=4 \/ i=5:=by omega
 rcases e with rfl | rfl | rfl | rfl | rfl | rfl <;> simpa [mdCells] using this
end
open Go.RowKit
open Mch (below1 below_nx owns_slice' boxed_below)
theorem where_any {o:Nat->Nat} {B:Nat} {M:Mod} (t:Int) (w:World) (h:Md w o B M) (hl:M.T.length<=1000) (hm:checkW M.p=none) (hs:Small M.p) (ht:0<=t/\t<(M.T.length:Int)) :
  Calls Tryz.prog 106 #[ptrV B,.int .i64 t] w fun e w'=>e=.returned (fraV (M.where_ t))/\Below w.heap.size w w':=by
 obtain ⟨w1,hw1⟩:∃ w1,w1=w.alloc (.cells #[.int .i64 0,.int .i64 0,.int .i64 0,.int .i64 0,.int .i64 0,.int .i64 0,.int .i64 0,.int .i64 0,.int .i64 0,.int .i64 0] 61):=⟨_,rfl⟩
 have hB1:Below w.heap.size w w1:=by rw [hw1];exact below1 w _
 have hZ1:Blk w1 w.heap.size 61 #[.int .i64 0,.int .i64 0,.int .i64 0,.int .i64 0,.int .i64 0,.int .i64 0,.int .i64 0,.int .i64 0,.int .i64 0,.int .i64 0]:=by rw [hw1];exact blk_new w _ _
 have hst:=stand_any t w1 (h.below hB1) hl hm hs
 obtain ⟨f,hf⟩:∃ f,f=(M.stand t).1:=⟨_,rfl⟩
 obtain ⟨k,hk⟩:∃ k,k=(M.stand t).2:=⟨_,rfl⟩
 rw [<- hf, <- hk] at hst
 obtain ⟨i,rfl⟩:∃ i:Nat,t=(i:Int):=⟨t.toNat,by omega⟩
 obtain ⟨y,hy⟩:∃ y,M.T[i]?=some y:=⟨_,List.getElem?_eq_getElem (by omega)⟩
 have hW:M.where_ (i:Int)=if k=0 then f else y.f:=by
  unfold Mod.where_
  rw [<- hf, <- hk,Int.toNat_natCast,hy];rfl
 rw [hW]
 obtain ⟨Rf,hRf⟩:∃ Rf,Rf=if k=0 then f else y.f:=⟨_,rfl⟩
 rw [<- hRf]
 have HR:=Lib.hid hRf
 clear hRf
 have q0:(0:Int)<=(i:Int):=by omega
 have q1:(i:Int)<(M.T.length:Int):=ht.2
 clear hf hk hW ht
 go_enter Tryz.func106,Tryz.ntmps106
 go_upto_region 1 with fail
 rw [<- hw1]
 clear hw1
 go_wp2_with fail
 refine hst.mono ?_
 clear hst
 rintro e w2 ⟨rfl,hb2⟩
 have hB2:=below_nx hB1 hb2 (Nat.le_refl _)
 have hZ2:=Blk.later hZ1 hb2 hZ1.lt
 go_upto_region 2 with fail
 obtain ⟨w3,hw3⟩:∃ w3,w3=w2.alloc (.cells (fraA f) 61):=⟨_,rfl⟩
 have hB3:Below w.heap.size w w3:=by rw [hw3];exact Mch.Below.al hB2 hB2.size _
 have hZ3:Blk w3 w.heap.size 61 #[.int .i64 0,.int .i64 0,.int .i64 0,.int .i64 0,.int .i64 0,.int .i64 0,.int .i64 0,.int .i64 0,.int .i64 0,.int .i64 0]:=by rw [hw3];exact Blk.alloc hZ2 _
 have hF3:FrAt w3 w2.heap.size f:=by rw [hw3];exact blk_new w2 _ _
 rw [<- hw3]
 clear hw3 hZ1 hZ2 hb2 hB1
 by_cases hk:k=0
 ·subst hk
  obtain ⟨y0,y1,y2,y3,y4,y5,y6,y7,y8,y9⟩:=fra_cells hF3
  have HR':=HR.out
  rw [if_pos rfl] at HR'
  have HR2:=Lib.hid HR'
  clear hy HR HR'
  go_wp2_with (refine wpList_put rfl _ _ _ rfl w.heap.size (fraA f) rfl rfl hZ3 szFra rfl (by simp [Value.oneCell']) ?_;intro w5 E1 E2;go_frame)
  rw [HR2.out]
  exact bodyPost_ret (v:=fraV f) (results_cell_row rfl _ _ w.heap.size 61 _ (0,0) _ rfl E1 Tryz.underlying61 rfl szFra) rfl ⟨rfl,hB3.trans (E2.below hB3.size (by simp))⟩
 ·have hk':(k == 0)=false:=by simpa using hk
  have HR':=HR.out
  rw [if_neg hk] at HR'
  have HR2:=Lib.hid HR'
  clear HR HR'
  obtain ⟨lo,hi,v1,v2,v3,vT,vC,Cs,h3⟩:=h.below hB3
  obtain ⟨g,cap,rfl,hc⟩:=h3.place hy
  have tk:=h3.tk
  have hd:Blk w3.drew w.heap.size 61 #[.int .i64 0,.int .i64 0,.int .i64 0,.int .i64 0,.int .i64 0,.int .i64 0,.int .i64 0,.int .i64 0,.int .i64 0,.int .i64 0]:=hZ3
  have p1:w3.cell? ⟨g,i * 11+1,none⟩=some (.int .i64 y.f.c):=hc 1 _ rfl
  have p2:w3.cell? ⟨g,i * 11+1+1,none⟩=some (.int .i64 y.f.p):=hc 2 _ rfl

  have p3:w3.cell? ⟨g,i * 11+1+2,none⟩=some (.int .i64 y.f.r0):=hc 3 _ rfl
  have p4:w3.cell? ⟨g,i * 11+1+3,none⟩=some (.int .i64 y.f.r1):=hc 4 _ rfl
  have p5:w3.cell? ⟨g,i * 11+1+4,none⟩=some (.int .i64 y.f.r2):=hc 5 _ rfl
  have p6:w3.cell? ⟨g,i * 11+1+5,none⟩=some (.int .i64 y.f.r3):=hc 6 _ rfl
  have p7:w3.cell? ⟨g,i * 11+1+6,none⟩=some (.int .i64 y.f.r4):=hc 7 _ rfl
  have p8:w3.cell? ⟨g,i * 11+1+7,none⟩=some (.int .i64 y.f.r5):=hc 8 _ rfl
  have p9:w3.cell? ⟨g,i * 11+1+8,none⟩=some (.int .i64 y.f.r6):=hc 9 _ rfl
  have p10:w3.cell? ⟨g,i * 11+1+9,none⟩=some (.int .i64 y.f.r7):=hc 10 _ rfl
  clear hk hc h3 hy
  go_wp2_with (refine wpList_put rfl _ _ _ rfl w.heap.size (fraA y.f) rfl rfl hZ3 szFra rfl (by simp [Value.oneCell']) ?_;intro w5 E1 E2;go_frame)
  rw [HR2.out]
  exact bodyPost_ret (v:=fraV y.f) (results_cell_row rfl _ _ w.heap.size 61 _ (0,0) _ rfl E1 Tryz.underlying61 rfl szFra) rfl ⟨rfl,hB3.trans (E2.below hB3.size (by simp))⟩
open Go.RowKit
open Mch (Wt Gt whatK putL Chn Frm Fw Fl sel likeW)
theorem serve_any {F:Nat->Prop} {C:Nat} (c:Cha) (s:Bool) (val:Int) (w:World) (h:Chn w F C c.m c.cl c.buf c.S c.R) (hlS:c.S.length<=1000) (hlR:c.R.length<=1000) :
  Calls Tryz.prog 100 #[.pointer (some ⟨C,0,none⟩),.bool s,.int .i64 val] w fun e w'=>e=.returned (.tuple #[Gt.val (c.got s val),.int .i64 (c.gotE s)]) /\
   Chn w' (Fw F w) C (c.serve s val).m (c.serve s val).cl (c.serve s val).buf (c.serve s val).S (c.serve s val).R/\Frm F w w':=by
 obtain ⟨m,cl,buf,S,R⟩:=c
 simp only at h hlS hlR
 cases s with
 | true=>
  cases cl with
  | true=>
   have hw:whatK true m buf S R true=1:=by simp [whatK,Mch.toSendK]
   have:=Mch.serve_none true val w h hlS hlR 1 hw (.inl rfl)
   simpa [Cha.got,Cha.gotE,Cha.serve,Cha.what,hw] using this
  | false=>
   cases R with
   | cons x r=>
    have hw:whatK false m buf S (x::r) true=2:=by simp [whatK,Mch.toSendK]
    have:=Mch.serve_hand val w h hlS hlR rfl
    simpa [Cha.got,Cha.gotE,Cha.serve,Cha.what,hw,headW] using this
   | nil=>
    by_cases hlt:buf.length<m
    ·have hw:whatK false m buf S [] true=3:=by simp [whatK,Mch.toSendK,hlt]
     have:=Mch.serve_put val w h hlS hlR rfl hlt
     simpa [Cha.got,Cha.gotE,Cha.serve,Cha.what,hw,headW] using this
    ·have hw:whatK false m buf S [] true=6:=by simp [whatK,Mch.toSendK,hlt]
     have:=Mch.serve_none true val w h hlS hlR 6 hw (.inr rfl)
     simpa [Cha.got,Cha.gotE,Cha.serve,Cha.what,hw] using this
 | false=>
  cases S with
  | cons x r=>
   by_cases hm:m=0
   ·have hw:whatK cl m buf (x::r) R false=2:=by simp [whatK,Mch.toRecvK,hm]
    have:=Mch.serve_fetch val w h hlS hlR hm
    simpa [Cha.got,Cha.gotE,Cha.serve,Cha.what,hw,headW] using this
   ·have hw:whatK cl m buf (x::r) R false=4:=by simp [whatK,Mch.toRecvK,hm]
    have:=Mch.serve_refill val w h hlS hlR hm (y:=buf.head?.getD 0) rfl
    simpa [Cha.got,Cha.gotE,Cha.serve,Cha.what,hw,headW] using this
  | nil=>
   cases buf with
   | cons y b=>
    have hw:whatK cl m (y::b) [] R false=3:=by simp [whatK,Mch.toRecvK]
    have:=Mch.serve_get val w h hlS hlR (by simp) (y:=y) rfl
    simpa [Cha.got,Cha.gotE,Cha.serve,Cha.what,hw,headW] using this
   | nil=>
    cases cl with
    | true=>
     have hw:whatK true m [] [] R false=5:=by simp [whatK,Mch.toRecvK]
     have:=Mch.serve_zero val w h hlS hlR rfl rfl
     simpa [Cha.got,Cha.gotE,Cha.serve,Cha.what,hw,headW] using this
    | false=>
     have hw:whatK false m [] [] R false=6:=by simp [whatK,Mch.toRecvK]
     have:=Mch.serve_none false val w h hlS hlR 6 hw (.inr rfl)
     simpa [Cha.got,Cha.gotE,Cha.serve,Cha.what,hw] using this
theorem likeB_iff (x:Wt) (l:List Wt):(∃ y ∈ l,likeW x y=true) ↔ l.any (likeB x)=true:=by
 simp [likeW,likeB,List.any_eq_true]
theorem await_any {F:Nat->Prop} {C:Nat} (c:Cha) (s:Bool) (x:Wt) (w:World) (h:Chn w F C c.m c.cl c.buf c.S c.R) (hl:(sel s c.S c.R).length<=900) :
  Calls Tryz.prog 105 #[.pointer (some ⟨C,0,none⟩),.bool s,x.val] w fun e w'=>∃ v,e=.returned (.int .i64 v) /\
   Chn w' (Fw F w) C (c.wait s x).m (c.wait s x).cl (c.wait s x).buf (c.wait s x).S (c.wait s x).R/\Frm F w w':=by
 by_cases hy:∃ y ∈ sel s c.S c.R,likeW x y=true
 ·refine (Mch.wait_have s x w h hy hl).mono ?_
  rintro e w' ⟨rfl,h1,h2⟩
  refine ⟨9,rfl,?_,h2⟩
  rw [likeB_iff] at hy
  cases s <;> simp [sel] at hy <;> simpa [Cha.wait,waitL,hy] using h1
 ·have hno:∀ y ∈ sel s c.S c.R,likeW x y=false:=fun y hm=>by
   cases e:likeW x y with
   | false=>rfl
   | true=>exact absurd ⟨y,hm,e⟩ hy
  refine (Mch.wait_any s x w h hno hl).mono ?_
  rintro e w' ⟨rfl,h1,h2⟩
  refine ⟨0,rfl,?_,h2⟩
  rw [likeB_iff] at hy
  have hy':=Bool.eq_false_iff.2 hy
  cases s
  ·have e:c.wait false x = { c with R:=c.R ++ [x] }:=by simp only [Cha.wait,waitL,show c.R.any (likeB x)=false from hy'];rfl
   rw [e];exact h1
  ·have e:c.wait true x = { c with S:=c.S ++ [x] }:=by simp only [Cha.wait,waitL,show c.S.any (likeB x)=false from hy'];rfl
   rw [e];exact h1
end Go.Proofs.YtnfbncgfpmcpnaaGreat.Mdl
namespace Go.Proofs.YtnfbncgfpmcpnaaGreat
open Go.RowKit
theorem drew_below' (wf:World):Below wf.heap.size wf wf.drew:=(Below.refl _ wf).drew
theorem But.after {B:Nat} {a b c:World} (k:But [B] b c) (h:Below a.heap.size a b):But [B] a c:=(But.of_below h _).next k
theorem noRec_any (w:World):Calls Tryz.prog 178 #[] w fun e w'=>e=.returned (.agg #[.bool true,.int .i64 0,.int .i64 0,.int .i64 0])/\Below w.heap.size w w':=by
 have hb:Below w.heap.size w (w.alloc (.cells #[.bool true,.int .i64 0,.int .i64 0,.int .i64 0] 169)):=(Below.refl _ w).alloc (Nat.le_refl _) _
 have hX:=blk_new w 169 #[.bool true,.int .i64 0,.int .i64 0,.int .i64 0]
 obtain ⟨q0,q1,q2,q3⟩:=cas_cells (x:=noRec) hX
 go_enter Tryz.func178,Tryz.ntmps178
 go_wp2_with fail
 refine bodyPost_ret (v:=.agg #[.bool true,.int .i64 0,.int .i64 0,.int .i64 0]) (by simp [results,Tryz.f178,go_sem,noRec] at q0 q1 q2 q3 ⊢) rfl ?_
 exact ⟨rfl,hb⟩
theorem chosen_0 {lo hi:Nat} {v1 v2 v3:Value} {p:Prg} (w:World) (h:PrgAt lo hi w v1 v2 v3 p) {n:Nat} {s:Sit} (hst:p.sites[n]?=some s) {m:Nat} {y:Cas} (hym:s.cs[m]?=some y) :
  Calls Tryz.prog 177 #[.agg #[v1,v2,v3],.int .i64 (n:Int),.int .i64 (m:Int)] w fun e w'=>e=.returned (.tuple #[.agg #[.bool y.s,.int .i64 y.c,.int .i64 y.v,.int .i64 y.o],.bool true])/\Below w.heap.size w w':=by
 have hlt:n<p.sites.length:=(List.getElem?_eq_some_iff.1 hst).1
 have n0:(0:Int)<=(n:Int):=by omega
 have n1 : ¬ (n:Int)<0:=by omega
 have n1d:decide ((n:Int)<0)=false:=decide_eq_false n1
 have n2:(n:Int)<(p.sites.length:Int):=by omega
 have n3 : ¬ (p.sites.length:Int)<=(n:Int):=by omega
 have n3d:decide ((p.sites.length:Int)<=(n:Int))=false:=decide_eq_false n3
 obtain ⟨a3,c0,rfl⟩:=h.sites.slice
 obtain ⟨b,off,ra,rc,x,rfl,hlb,hbh,hx,hcw,hdw,hr⟩:=h.sites.at hlt
 obtain rfl:x=s:=by rw [hst] at hx;exact (Option.some.inj hx).symm
 obtain ⟨w1,hw1⟩:∃ w1,w1=((w.alloc (.cells #[v1,v2,.slice (some ⟨b,off,none⟩) p.sites.length c0] 26)).alloc (.cells #[.bool false,.int .i64 0,.int .i64 0,.int .i64 0] 169)).alloc (.cells #[.slice ra x.cs.length rc,.bool x.d] 117):=⟨_,rfl⟩
 have hB1:Below w.heap.size w w1:=by rw [hw1];exact below3 w _ _ _
 have hB0:Below w.heap.size w ((w.alloc (.cells #[v1,v2,.slice (some ⟨b,off,none⟩) p.sites.length c0] 26)).alloc (.cells #[.bool false,.int .i64 0,.int .i64 0,.int .i64 0] 169)):=below2 w _ _
 have hZ1:Blk w1 (w.heap.size+1) 169 #[.bool false,.int .i64 0,.int .i64 0,.int .i64 0]:=by rw [hw1];exact (blk_at (by simp)).alloc _
 have hS1:Blk w1 (w.heap.size+1+1) 117 #[.slice ra x.cs.length rc,.bool x.d]:=by rw [hw1];exact blk_at (by simp)
 have hc:=cell_stay hcw (hB0.block b (Nat.lt_of_lt_of_le hbh h.top))
 have hd:=cell_stay hdw (hB0.block b (Nat.lt_of_lt_of_le hbh h.top))
 have s0:=hS1.cell (k:=0) (v:=.slice ra x.cs.length rc) rfl
 have s1:=hS1.cell (k:=1) (v:=.bool x.d) rfl
 have HR:=Lib.hid hst
 clear hst hcw hdw hlb hB0
 have hm:m<x.cs.length:=(List.getElem?_eq_some_iff.1 hym).1
 have m0:(0:Int)<=(m:Int):=by omega
 have m1:(m:Int)<(x.cs.length:Int):=by omega
 have m1d:decide ((m:Int)<(x.cs.length:Int))=true:=decide_eq_true m1
 obtain ⟨b2,off2,y',rfl,-, -, hy,-, d0,d1,d2,d3⟩:=(hr.stay (stay_below' hB1 h.top)).at hm
 obtain rfl:y'=y:=by rw [hym] at hy;exact (Option.some.inj hy).symm
 clear hy hym hr hx
 have hB5:Below w.heap.size w (((w.alloc (.cells #[v1,v2,.slice (some ⟨b,off,none⟩) p.sites.length c0] 26)).alloc (.cells #[.bool y'.s,.int .i64 y'.c,.int .i64 y'.v,.int .i64 y'.o] 169)).alloc (.cells #[.slice (some ⟨b2,off2,none⟩) x.cs.length rc,.bool x.d] 117)):=below3 w _ _ _
 have hX5:Blk (((w.alloc (.cells #[v1,v2,.slice (some ⟨b,off,none⟩) p.sites.length c0] 26)).alloc (.cells #[.bool y'.s,.int .i64 y'.c,.int .i64 y'.v,.int .i64 y'.o] 169)).alloc (.cells #[.slice (some ⟨b2,off2,none⟩) x.cs.length rc,.bool x.d] 117)) (w.heap.size+1) 169 #[.bool y'.s,.int .i64 y'.c,.int .i64 y'.v,.int .i64 y'.o]:=(blk_at (by simp)).alloc _
 obtain ⟨q0,q1,q2,q3⟩:=cas_cells (x:=y') hX5
 clear hB1 hZ1 hS1 hX5
 rw [hw1] at s0 s1 d0 d1 d2 d3
 go_enter Tryz.func177,Tryz.ntmps177
 go_wp2_with fail
 refine bodyPost_ret (v:=.tuple #[.agg #[.bool y'.s,.int .i64 y'.c,.int .i64 y'.v,.int .i64 y'.o],.bool true]) (by simp [results,Tryz.f177,go_sem,q0,q1,q2,q3]) rfl ?_
 exact ⟨rfl,hB5⟩
theorem chosen_1 {lo hi:Nat} {v1 v2 v3:Value} {p:Prg} (w:World) (h:PrgAt lo hi w v1 v2 v3 p) {n:Nat} {s:Sit} (hst:p.sites[n]?=some s)  :
  Calls Tryz.prog 177 #[.agg #[v1,v2,v3],.int .i64 (n:Int),.int .i64 (s.cs.length:Int)] w fun e w'=>e=.returned (.tuple #[.agg #[.bool true,.int .i64 0,.int .i64 0,.int .i64 0],.bool s.d])/\Below w.heap.size w w':=by
 have hlt:n<p.sites.length:=(List.getElem?_eq_some_iff.1 hst).1
 have n0:(0:Int)<=(n:Int):=by omega
 have n1 : ¬ (n:Int)<0:=by omega
 have n1d:decide ((n:Int)<0)=false:=decide_eq_false n1
 have n2:(n:Int)<(p.sites.length:Int):=by omega
 have n3 : ¬ (p.sites.length:Int)<=(n:Int):=by omega
 have n3d:decide ((p.sites.length:Int)<=(n:Int))=false:=decide_eq_false n3
 obtain ⟨a3,c0,rfl⟩:=h.sites.slice
 obtain ⟨b,off,ra,rc,x,rfl,hlb,hbh,hx,hcw,hdw,hr⟩:=h.sites.at hlt
 obtain rfl:x=s:=by rw [hst] at hx;exact (Option.some.inj hx).symm
 obtain ⟨w1,hw1⟩:∃ w1,w1=((w.alloc (.cells #[v1,v2,.slice (some ⟨b,off,none⟩) p.sites.length c0] 26)).alloc (.cells #[.bool false,.int .i64 0,.int .i64 0,.int .i64 0] 169)).alloc (.cells #[.slice ra x.cs.length rc,.bool x.d] 117):=⟨_,rfl⟩
 have hB1:Below w.heap.size w w1:=by rw [hw1];exact below3 w _ _ _
 have hB0:Below w.heap.size w ((w.alloc (.cells #[v1,v2,.slice (some ⟨b,off,none⟩) p.sites.length c0] 26)).alloc (.cells #[.bool false,.int .i64 0,.int .i64 0,.int .i64 0] 169)):=below2 w _ _
 have hZ1:Blk w1 (w.heap.size+1) 169 #[.bool false,.int .i64 0,.int .i64 0,.int .i64 0]:=by rw [hw1];exact (blk_at (by simp)).alloc _
 have hS1:Blk w1 (w.heap.size+1+1) 117 #[.slice ra x.cs.length rc,.bool x.d]:=by rw [hw1];exact blk_at (by simp)
 have hc:=cell_stay hcw (hB0.block b (Nat.lt_of_lt_of_le hbh h.top))
 have hd:=cell_stay hdw (hB0.block b (Nat.lt_of_lt_of_le hbh h.top))
 have s0:=hS1.cell (k:=0) (v:=.slice ra x.cs.length rc) rfl
 have s1:=hS1.cell (k:=1) (v:=.bool x.d) rfl
 have HR:=Lib.hid hst
 clear hst hcw hdw hlb hB0
 have m0:(0:Int)<=(x.cs.length:Int):=by omega
 have m1 : ¬ (x.cs.length:Int)<(x.cs.length:Int):=by omega
 have m1d:decide ((x.cs.length:Int)<(x.cs.length:Int))=false:=decide_eq_false m1
 have cN:∀ W,Below w1.heap.size w1 W->Calls Tryz.prog 178 #[] W fun e w'=>e=.returned (.agg #[.bool true,.int .i64 0,.int .i64 0,.int .i64 0])/\Below w1.heap.size w1 w':=fun W hW=>(noRec_any W).mono fun e w' ⟨h1,h2⟩=>⟨h1,below_next hW h2 (Nat.le_refl _)⟩
 have hkS:∀ W,But [w.heap.size+1] w1 W->W.cell? ⟨w.heap.size+1+1,1,none⟩=some (.bool x.d)/\But [w.heap.size+1] w1 W:=fun W hW=>⟨(but_on hS1 hW (by omega)).cell rfl,hW⟩
 have hkZ:∀ W,Below w1.heap.size w1 W->Blk W (w.heap.size+1) 169 #[.bool false,.int .i64 0,.int .i64 0,.int .i64 0]:=fun W hW=>hZ1.later hW hZ1.lt
 have hkb:∀ W,Below w1.heap.size w1 W->But [w.heap.size+1] w1 W:=fun W hW=>.of_below hW _
 clear hr hx hZ1
 rw [hw1] at s0 s1
 go_enter Tryz.func177,Tryz.ntmps177
 go_wp2_with fail
 rw [<- hw1]
 clear hw1 s0 s1
 go_region_held3 (fun w'=>w'.cell? ⟨w.heap.size+1+1,1,none⟩=some (.bool x.d)/\But [w.heap.size+1] w1 w')
  (refine hkS _ ?_ <;> with_reducible first | exact hkb _ hb2 | exact (sto4 hZ2 _ _ _ _).2.after hb2 | exact hkb _ (drew_below' _))
  ((first
   | (go_at_call 178;refine (cN _ (by with_reducible first | exact drew_below' _)).mono ?_;rintro e w2 ⟨rfl,hb2⟩;have hZ2:=hkZ _ hb2;obtain ⟨z0,z1,z2,z3⟩:=cas_cells (x:=⟨false,0,0,0⟩) hZ2;have zf:=hZ2.frozen)))
 all_goals obtain ⟨w9,hw9,hX9,hb9⟩:∃ w9,w9=((((w2.setCell ⟨w.heap.size+1,0,none⟩ (.bool true)).setCell ⟨w.heap.size+1,1,none⟩ (.int .i64 0)).setCell ⟨w.heap.size+1,2,none⟩ (.int .i64 0)).setCell ⟨w.heap.size+1,3,none⟩ (.int .i64 0))/\Blk w9 (w.heap.size+1) 169 #[.bool true,.int .i64 0,.int .i64 0,.int .i64 0]/\But [w.heap.size+1] w2 w9:=⟨_,rfl,sto4 hZ2 (.bool true) (.int .i64 0) (.int .i64 0) (.int .i64 0)⟩
 all_goals have hB9:=below_but (below_next hB1 hb2 (Nat.le_refl _)) hb9 (Nat.le_refl _) (by omega)
 all_goals rw [<- hw9]
 all_goals obtain ⟨q0,q1,q2,q3⟩:=cas_cells (x:=noRec) hX9
 all_goals go_wp2_with fail
 all_goals refine bodyPost_ret (v:=.tuple #[.agg #[.bool true,.int .i64 0,.int .i64 0,.int .i64 0],.bool x.d]) (by simp [results,Tryz.f177,go_sem,noRec] at q0 q1 q2 q3 ⊢;simp [q0,q1,q2,q3]) rfl ?_
 all_goals exact ⟨rfl,hB9⟩
theorem chosen_2 {lo hi:Nat} {v1 v2 v3:Value} {p:Prg} (w:World) (h:PrgAt lo hi w v1 v2 v3 p) {n:Nat} {s:Sit} (hst:p.sites[n]?=some s) (k:Int) (hk : ¬ (0<=k/\k<(s.cs.length:Int))) (hk2:k ≠ (s.cs.length:Int)) :
  Calls Tryz.prog 177 #[.agg #[v1,v2,v3],.int .i64 (n:Int),.int .i64 k] w fun e w'=>e=.returned (.tuple #[.agg #[.bool false,.int .i64 0,.int .i64 0,.int .i64 0],.bool false])/\Below w.heap.size w w':=by
 have hlt:n<p.sites.length:=(List.getElem?_eq_some_iff.1 hst).1
 have n0:(0:Int)<=(n:Int):=by omega
 have n1 : ¬ (n:Int)<0:=by omega
 have n1d:decide ((n:Int)<0)=false:=decide_eq_false n1
 have n2:(n:Int)<(p.sites.length:Int):=by omega
 have n3 : ¬ (p.sites.length:Int)<=(n:Int):=by omega
 have n3d:decide ((p.sites.length:Int)<=(n:Int))=false:=decide_eq_false n3
 obtain ⟨a3,c0,rfl⟩:=h.sites.slice
 obtain ⟨b,off,ra,rc,x,rfl,hlb,hbh,hx,hcw,hdw,hr⟩:=h.sites.at hlt
 obtain rfl:x=s:=by rw [hst] at hx;exact (Option.some.inj hx).symm
 obtain ⟨w1,hw1⟩:∃ w1,w1=((w.alloc (.cells #[v1,v2,.slice (some ⟨b,off,none⟩) p.sites.length c0] 26)).alloc (.cells #[.bool false,.int .i64 0,.int .i64 0,.int .i64 0] 169)).alloc (.cells #[.slice ra x.cs.length rc,.bool x.d] 117):=⟨_,rfl⟩
 have hB1:Below w.heap.size w w1:=by rw [hw1];exact below3 w _ _ _
 have hB0:Below w.heap.size w ((w.alloc (.cells #[v1,v2,.slice (some ⟨b,off,none⟩) p.sites.length c0] 26)).alloc (.cells #[.bool false,.int .i64 0,.int .i64 0,.int .i64 0] 169)):=below2 w _ _
 have hZ1:Blk w1 (w.heap.size+1) 169 #[.bool false,.int .i64 0,.int .i64 0,.int .i64 0]:=by rw [hw1];exact (blk_at (by simp)).alloc _
 have hS1:Blk w1 (w.heap.size+1+1) 117 #[.slice ra x.cs.length rc,.bool x.d]:=by rw [hw1];exact blk_at (by simp)
 have hc:=cell_stay hcw (hB0.block b (Nat.lt_of_lt_of_le hbh h.top))
 have hd:=cell_stay hdw (hB0.block b (Nat.lt_of_lt_of_le hbh h.top))
 have s0:=hS1.cell (k:=0) (v:=.slice ra x.cs.length rc) rfl
 have s1:=hS1.cell (k:=1) (v:=.bool x.d) rfl
 have HR:=Lib.hid hst
 clear hst hcw hdw hlb hB0
 have ks:0<=k->¬ k<(x.cs.length:Int):=fun h0 h1=>hk ⟨h0,h1⟩
 have kd2:(k == (x.cs.length:Int))=false:=by simpa using hk2
 clear hr hx hk hk2
 have hB5:Below w.heap.size w (((w.alloc (.cells #[v1,v2,.slice (some ⟨b,off,none⟩) p.sites.length c0] 26)).alloc (.cells #[.bool false,.int .i64 0,.int .i64 0,.int .i64 0] 169)).alloc (.cells #[.slice ra x.cs.length rc,.bool x.d] 117)):=below3 w _ _ _
 have hX5:Blk (((w.alloc (.cells #[v1,v2,.slice (some ⟨b,off,none⟩) p.sites.length c0] 26)).alloc (.cells #[.bool false,.int .i64 0,.int .i64 0,.int .i64 0] 169)).alloc (.cells #[.slice ra x.cs.length rc,.bool x.d] 117)) (w.heap.size+1) 169 #[.bool false,.int .i64 0,.int .i64 0,.int .i64 0]:=(blk_at (by simp)).alloc _
 obtain ⟨q0,q1,q2,q3⟩:=cas_cells (x:=⟨false,0,0,0⟩) hX5
 clear hB1 hZ1 hS1 hX5
 rw [hw1] at s0 s1
 go_enter Tryz.func177,Tryz.ntmps177
 by_cases k0:0<=k
 ·have k1:=ks k0
  have k0d:decide (0<=k)=true:=decide_eq_true k0
  have k1d:decide (k<(x.cs.length:Int))=false:=decide_eq_false k1
  go_wp2_with fail
  refine bodyPost_ret (v:=.tuple #[.agg #[.bool false,.int .i64 0,.int .i64 0,.int .i64 0],.bool false]) (by simp [results,Tryz.f177,go_sem,q0,q1,q2,q3]) rfl ?_
  exact ⟨rfl,hB5⟩
 ·have k0d:decide (0<=k)=false:=decide_eq_false k0
  clear ks
  go_wp2_with fail
  refine bodyPost_ret (v:=.tuple #[.agg #[.bool false,.int .i64 0,.int .i64 0,.int .i64 0],.bool false]) (by simp [results,Tryz.f177,go_sem,q0,q1,q2,q3]) rfl ?_
  exact ⟨rfl,hB5⟩
theorem served_8 {v1 v2 v3:Value} (w:World) {xa xb xc:Int} {n:Nat} (k:Int) (y:Cas) (b:Bool) (hch:∀ W,Below w.heap.size w W->Calls Tryz.prog 177 #[.agg #[v1,v2,v3],.int .i64 (n:Int),.int .i64 k] W fun e w'=>e=.returned (.tuple #[.agg #[.bool y.s,.int .i64 y.c,.int .i64 y.v,.int .i64 y.o],.bool b])/\Below W.heap.size W w') :
  Calls Tryz.prog 163 #[.agg #[v1,v2,v3],.agg #[.int .u8 8,.int .i64 xa,.int .i64 xb,.int .i64 xc,.int .i64 (n:Int)],.int .i64 k] w fun e w'=>e=.returned (.tuple #[.agg #[.bool y.s,.int .i64 y.c,.int .i64 y.v,.int .i64 y.o],.bool b])/\Below w.heap.size w w':=by
 obtain ⟨wf,hwf⟩:∃ wf,wf=((w.alloc (.cells #[v1,v2,v3] 26)).alloc (.cells #[.int .u8 8,.int .i64 xa,.int .i64 xb,.int .i64 xc,.int .i64 (n:Int)] 95)).alloc (.cells #[.bool false,.int .i64 0,.int .i64 0,.int .i64 0] 169):=⟨_,rfl⟩
 have hB:Below w.heap.size w wf:=by rw [hwf];exact below3 w _ _ _
 have hZ:Blk wf (w.heap.size+1+1) 169 #[.bool false,.int .i64 0,.int .i64 0,.int .i64 0]:=by rw [hwf];exact blk_at (by simp)
 have hc:=hch wf hB
 clear hch
 go_enter Tryz.func163,Tryz.ntmps163
 go_wp2_with fail
 rw [<- hwf]
 clear hwf
 refine hc.mono ?_
 rintro e w1 ⟨rfl,hb⟩
 have hB1:=below_next hB hb (Nat.le_refl _)
 have hZ1:=hZ.later hb hZ.lt
 clear hc hB hb hZ
 obtain ⟨z0,z1,z2,z3⟩:=cas_cells (x:=⟨false,0,0,0⟩) hZ1
 have zf:=hZ1.frozen
 obtain ⟨w5,hw5,hX5,hb5⟩:∃ w5,w5=((((w1.setCell ⟨w.heap.size+1+1,0,none⟩ (.bool y.s)).setCell ⟨w.heap.size+1+1,1,none⟩ (.int .i64 y.c)).setCell ⟨w.heap.size+1+1,2,none⟩ (.int .i64 y.v)).setCell ⟨w.heap.size+1+1,3,none⟩ (.int .i64 y.o))/\Blk w5 (w.heap.size+1+1) 169 #[.bool y.s,.int .i64 y.c,.int .i64 y.v,.int .i64 y.o]/\But [w.heap.size+1+1] w1 w5:=⟨_,rfl,sto4 hZ1 (.bool y.s) (.int .i64 y.c) (.int .i64 y.v) (.int .i64 y.o)⟩
 have hB5:=below_but hB1 hb5 (Nat.le_refl _) (by omega)
 go_wp2_with fail
 rw [<- hw5]
 obtain ⟨q0,q1,q2,q3⟩:=cas_cells (x:=y) hX5
 refine bodyPost_ret (v:=.tuple #[.agg #[.bool y.s,.int .i64 y.c,.int .i64 y.v,.int .i64 y.o],.bool b]) (by simp [results,Tryz.f163,go_sem] at q0 q1 q2 q3 ⊢;simp [q0,q1,q2,q3]) rfl ?_
 exact ⟨rfl,hB5⟩
theorem served_6 {v1 v2 v3:Value} (w:World) {xa xb xc xk:Int} (k:Int) (b:Bool) (hkb:(k == -1)=b) :
  Calls Tryz.prog 163 #[.agg #[v1,v2,v3],.agg #[.int .u8 6,.int .i64 xa,.int .i64 xb,.int .i64 xc,.int .i64 xk],.int .i64 k] w fun e w'=>e=.returned (.tuple #[.agg #[.bool false,.int .i64 xc,.int .i64 xa,.int .i64 xb],.bool b])/\Below w.heap.size w w':=by
 obtain ⟨wf,hwf⟩:∃ wf,wf=((w.alloc (.cells #[v1,v2,v3] 26)).alloc (.cells #[.int .u8 6,.int .i64 xa,.int .i64 xb,.int .i64 xc,.int .i64 xk] 95)).alloc (.cells #[.bool false,.int .i64 0,.int .i64 0,.int .i64 0] 169):=⟨_,rfl⟩
 have hB:Below w.heap.size w wf:=by rw [hwf];exact below3 w _ _ _
 have hZ:Blk wf (w.heap.size+1+1) 169 #[.bool false,.int .i64 0,.int .i64 0,.int .i64 0]:=by rw [hwf];exact blk_at (by simp)
 go_enter Tryz.func163,Tryz.ntmps163
 go_wp2_with fail
 clear hwf hZ hB
 have hX:Blk (((w.alloc (.cells #[v1,v2,v3] 26)).alloc (.cells #[.int .u8 6,.int .i64 xa,.int .i64 xb,.int .i64 xc,.int .i64 xk] 95)).alloc (.cells #[.bool false,.int .i64 xc,.int .i64 xa,.int .i64 xb] 169)) (w.heap.size+1+1) 169 #[.bool false,.int .i64 xc,.int .i64 xa,.int .i64 xb]:=blk_at (by simp)
 obtain ⟨q0,q1,q2,q3⟩:=cas_cells (x:=⟨false,xc,xa,xb⟩) hX
 refine bodyPost_ret (v:=.tuple #[.agg #[.bool false,.int .i64 xc,.int .i64 xa,.int .i64 xb],.bool b]) (by simp [results,Tryz.f163,go_sem,q0,q1,q2,q3]) rfl ?_
 exact ⟨rfl,below3 w _ _ _⟩
theorem served_0 {v1 v2 v3:Value} (w:World) {o:Nat} {xa xb xc xk:Int} (ho6:o ≠ 6) (ho8:o ≠ 8) (k:Int) (b:Bool) (hkb:(k == -1)=b) :
  Calls Tryz.prog 163 #[.agg #[v1,v2,v3],.agg #[.int .u8 (o:Int),.int .i64 xa,.int .i64 xb,.int .i64 xc,.int .i64 xk],.int .i64 k] w fun e w'=>e=.returned (.tuple #[.agg #[.bool true,.int .i64 0,.int .i64 0,.int .i64 0],.bool b])/\Below w.heap.size w w':=by
 obtain ⟨wf,hwf⟩:∃ wf,wf=((w.alloc (.cells #[v1,v2,v3] 26)).alloc (.cells #[.int .u8 (o:Int),.int .i64 xa,.int .i64 xb,.int .i64 xc,.int .i64 xk] 95)).alloc (.cells #[.bool false,.int .i64 0,.int .i64 0,.int .i64 0] 169):=⟨_,rfl⟩
 have hB:Below w.heap.size w wf:=by rw [hwf];exact below3 w _ _ _
 have hZ:Blk wf (w.heap.size+1+1) 169 #[.bool false,.int .i64 0,.int .i64 0,.int .i64 0]:=by rw [hwf];exact blk_at (by simp)
 have d8:((o:Int) == 8)=false:=by simp;omega
 have d6:((o:Int) == 6)=false:=by simp;omega
 clear ho6 ho8
 have hc:=noRec_any wf
 go_enter Tryz.func163,Tryz.ntmps163
 go_wp2_with fail
 rw [<- hwf]
 clear hwf
 refine hc.mono ?_
 rintro e w1 ⟨rfl,hb⟩
 have hB1:=below_next hB hb (Nat.le_refl _)
 have hZ1:=hZ.later hb hZ.lt
 clear hc hB hb hZ
 obtain ⟨z0,z1,z2,z3⟩:=cas_cells (x:=⟨false,0,0,0⟩) hZ1
 have zf:=hZ1.frozen
 obtain ⟨w5,hw5,hX5,hb5⟩:∃ w5,w5=((((w1.setCell ⟨w.heap.size+1+1,0,none⟩ (.bool true)).setCell ⟨w.heap.size+1+1,1,none⟩ (.int .i64 0)).setCell ⟨w.heap.size+1+1,2,none⟩ (.int .i64 0)).setCell ⟨w.heap.size+1+1,3,none⟩ (.int .i64 0))/\Blk w5 (w.heap.size+1+1) 169 #[.bool true,.int .i64 0,.int .i64 0,.int .i64 0]/\But [w.heap.size+1+1] w1 w5:=⟨_,rfl,sto4 hZ1 (.bool true) (.int .i64 0) (.int .i64 0) (.int .i64 0)⟩
 have hB5:=below_but hB1 hb5 (Nat.le_refl _) (by omega)
 go_wp2_with fail
 rw [<- hw5]
 obtain ⟨q0,q1,q2,q3⟩:=cas_cells (x:=noRec) hX5
 refine bodyPost_ret (v:=.tuple #[.agg #[.bool true,.int .i64 0,.int .i64 0,.int .i64 0],.bool b]) (by simp [results,Tryz.f163,go_sem,noRec] at q0 q1 q2 q3 ⊢;simp [q0,q1,q2,q3]) rfl ?_
 exact ⟨rfl,hB5⟩
theorem served_any {lo hi:Nat} {v1 v2 v3:Value} {p:Prg} (w:World) (h:PrgAt lo hi w v1 v2 v3 p) (hm:checkW p=none) {f:Fra} {x:In} (hx:atF p f=some x) (k:Int) :
  ∃ y:Cas,(∀ c,servedF p x k=some c->y=c)/\∀ W,Below w.heap.size w W->Calls Tryz.prog 163 #[.agg #[v1,v2,v3],.agg #[.int .u8 (x.o:Int),.int .i64 x.a,.int .i64 x.b,.int .i64 x.c,.int .i64 x.k],.int .i64 k] W fun e w'=>e=.returned (.tuple #[.agg #[.bool y.s,.int .i64 y.c,.int .i64 y.v,.int .i64 y.o],.bool (servedF p x k).isSome])/\Below W.heap.size W w':=by
 have hko:=at_kind hm hx
 have hsite:=fun ho=>at_site hm hx ho
 obtain ⟨o,xa,xb,xc,xk⟩:=x
 simp only at hko hsite ⊢
 by_cases h8:o=8
 ·subst h8
  obtain ⟨hs1,hs2⟩:=hsite rfl
  obtain ⟨n,rfl⟩:∃ n:Nat,xk=(n:Int):=⟨xk.toNat,by omega⟩
  obtain ⟨s,hst⟩:∃ s,p.sites[n]?=some s:=⟨_,List.getElem?_eq_getElem (by omega)⟩
  have e:servedF p ⟨8,xa,xb,xc,(n:Int)⟩ k=chosenF s k:=by unfold servedF;simp [hst]
  rw [e]
  by_cases hk:0<=k/\k<(s.cs.length:Int)
  ·obtain ⟨m,rfl⟩:∃ m:Nat,k=(m:Int):=⟨k.toNat,by omega⟩
   obtain ⟨y,hy⟩:∃ y,s.cs[m]?=some y:=⟨_,List.getElem?_eq_getElem (by omega)⟩
   have e2:chosenF s (m:Int)=some y:=by unfold chosenF;rw [if_pos hk];simpa using hy
   rw [e2]
   exact ⟨y,fun c hc=>Option.some.inj hc,fun W hW=>served_8 W _ y true fun W' hW'=>chosen_0 W' (h.later (below_next hW hW' (Nat.le_refl _))) hst hy⟩
  ·by_cases hk2:k=(s.cs.length:Int)
   ·subst hk2
    have e2:chosenF s (s.cs.length:Int)=if s.d=true then some noRec else none:=by unfold chosenF;rw [if_neg hk];simp
    have e3:(chosenF s (s.cs.length:Int)).isSome=s.d:=by rw [e2];cases s.d <;> rfl
    rw [e3]
    refine ⟨noRec,fun c hc=>?_,fun W hW=>served_8 W _ noRec s.d fun W' hW'=>chosen_1 W' (h.later (below_next hW hW' (Nat.le_refl _))) hst⟩
    rw [e2] at hc
    split at hc
    ·exact Option.some.inj hc
    ·cases hc
   ·have e2:chosenF s k=none:=by unfold chosenF;rw [if_neg hk,if_neg (fun e=>hk2 e.1)]
    rw [e2]
    exact ⟨⟨false,0,0,0⟩,fun c hc=>(by cases hc),fun W hW=>served_8 W _ ⟨false,0,0,0⟩ false fun W' hW'=>chosen_2 W' (h.later (below_next hW hW' (Nat.le_refl _))) hst k hk hk2⟩
 ·obtain ⟨b,hb⟩:∃ b,(k == -1)=b:=⟨_,rfl⟩
  by_cases h6:o=6
  ·subst h6
   have e:servedF p ⟨6,xa,xb,xc,xk⟩ k=if k = -1 then some ⟨false,xc,xa,xb⟩ else none:=by unfold servedF;simp
   have e3:(servedF p ⟨6,xa,xb,xc,xk⟩ k).isSome=b:=by rw [e, <- hb];by_cases hk:k = -1 <;> simp [hk]
   rw [e3]
   refine ⟨⟨false,xc,xa,xb⟩,fun c hc=>?_,fun W hW=>served_6 W k b hb⟩
   rw [e] at hc
   split at hc
   ·exact Option.some.inj hc
   ·cases hc
  ·have e:servedF p ⟨o,xa,xb,xc,xk⟩ k=if k = -1 then some noRec else none:=by unfold servedF;simp [h8,h6]
   have e3:(servedF p ⟨o,xa,xb,xc,xk⟩ k).isSome=b:=by rw [e, <- hb];by_cases hk:k = -1 <;> simp [hk]
   rw [e3]
   refine ⟨noRec,fun c hc=>?_,fun W hW=>served_0 W h6 h8 k b hb⟩
   rw [e] at hc
   split at hc
   ·exact Option.some.inj hc
   ·cases hc
end Go.Proofs.YtnfbncgfpmcpnaaGreat
