/-
  ReplayNext: its walks, part 27.
-/
import Derived.Test.YtnfbncgfpmcpnaaGreatQ26
set_option maxRecDepth 100000
set_option maxHeartbeats 12800000
namespace Go.Proofs.YtnfbncgfpmcpnaaGreat.Mdl
open Go.RowKit
open Ent (En EnRow EnAt)
open Mch (grown_below below1 below_nx owns_slice' boxed_below)
theorem closes_any {o:Nat->Nat} {B:Nat} {M:Mod} (t:Int) (f:Fra) (x:In) (w:World) (h:Md w o B M) (hc:x.c = -1 \/ (0<=x.c/\x.c<(M.C.length:Int))) :
  Calls Tryz.prog 126 #[stdV B t f x] w fun e w'=>∃ v,e=.returned v/\EnNew w.heap.size w' v [closeE M t x]/\Below w.heap.size w w':=by
 obtain ⟨w1,hw1⟩:∃ w1,w1=w.alloc (.cells (stdA B t f x) 107):=⟨_,rfl⟩
 have hB1:Below w.heap.size w w1:=by rw [hw1];exact below1 w _
 have hS1:StAt w1 w.heap.size B t f x:=by rw [hw1];exact blk_new w _ _
 have h1:=h.below hB1
 have sc:=std_cells (show StAt w1 w.heap.size B t f x from hS1)
 obtain ⟨s0,s1,s2,s3,s4,s5,s6,s7,s8,s9,s10,s11,s12,s13,s14,s15,s16⟩:=sc
 by_cases hn:x.c = -1
 ·have HC:Hid (closeE M t x=faultE t (-1) 142):=Lib.hid (by unfold closeE;rw [if_pos hn])
  have hf:=fun W=>fault_any t (-1) 142 W
  rw [hn] at s15
  clear h h1 hc hS1 hn
  go_enter Tryz.func126,Tryz.ntmps126
  go_upto_region 1 with fail
  rw [<- hw1]
  clear hw1
  go_wp2_with fail
  refine (hf _).mono ?_
  clear s0 s1 s2 s3 s4 s5 s6 s7 s8 s9 s10 s11 s12 s13 s14 s15 s16
  rintro e w2 ⟨rfl,hb2⟩
  have hB2:=below_nx hB1 hb2 (Nat.le_refl _)
  have hR:=EnNew.one w2 (faultE t (-1) 142)
  have hB3:=Mch.Below.al hB2 hB2.size (.cells (enA (faultE t (-1) 142)) 39)
  go_wp2_with fail
  go_ret
  rw [HC.out]
  exact ⟨_,rfl,hR.mono hB2.size,hB3⟩
 ·have hc2:0<=x.c/\x.c<(M.C.length:Int):=hc.resolve_left hn
  obtain ⟨n,hxc⟩:∃ n:Nat,x.c=(n:Int):=⟨x.c.toNat,by omega⟩
  have hnl:n<M.C.length:=by omega
  obtain ⟨lo,hi,v1,v2,v3,vT,vC,Cs,h1⟩:=h1
  obtain ⟨C,g,cap,hC,hvC,hcell,hch⟩:=h1.chan hnl
  have p3:=h1.cn
  rw [hvC,h1.len] at p3
  have hd:((n:Int) == -1)=false:=by simp
  have q0:(0:Int)<=(n:Int):=by omega
  have q1:(n:Int)<(M.C.length:Int):=by omega
  obtain ⟨B',u0,u1,hcA,-⟩:=hch.at
  have hcl:=Mch.closed_any w1 hcA
  have hmc:M.ch (n:Int)=M.ch x.c:=by rw [hxc]
  cases hcc:(M.ch (n:Int)).cl with
  | true=>
   have HC:Hid (closeE M t x=faultE t (-1) 141):=Lib.hid (by unfold closeE;rw [if_neg hn, <- hmc,hcc];rfl)
   have hf:=fun W=>fault_any t (-1) 141 W
   rw [hcc] at hcl
   rw [hxc] at s15
   clear h hc hS1 h1 hch hcA hn hc2 hcc hmc hxc
   go_enter Tryz.func126,Tryz.ntmps126
   go_upto_region 1 with fail
   rw [<- hw1]
   clear hw1
   go_wp2_with fail
   refine hcl.mono ?_
   rintro e w1' ⟨rfl,rfl⟩
   go_wp2_with fail
   refine (hf _).mono ?_
   clear s0 s1 s2 s3 s4 s5 s6 s7 s8 s9 s10 s11 s12 s13 s14 s15 s16 p3 hcell hcl
   rintro e w2 ⟨rfl,hb2⟩
   have hB2:=below_nx hB1 hb2 (Nat.le_refl _)
   have hR:=EnNew.one w2 (faultE t (-1) 141)
   have hB3:=Mch.Below.al hB2 hB2.size (.cells (enA (faultE t (-1) 141)) 39)
   go_wp2_with fail
   go_ret
   rw [HC.out]
   exact ⟨_,rfl,hR.mono hB2.size,hB3⟩
  | false=>
   have HC:Hid (closeE M t x=⟨0,5,0,t,0,n,0,0,0,0,false,0,0⟩):=Lib.hid (by unfold closeE;rw [if_neg hn, <- hmc,hcc,hxc];rfl)
   rw [hcc] at hcl
   rw [hxc] at s15
   have hR:=EnNew.one w1 ⟨0,5,0,t,0,n,0,0,0,0,false,0,0⟩
   have hB3:=Mch.Below.al hB1 hB1.size (.cells (enA ⟨0,5,0,t,0,n,0,0,0,0,false,0,0⟩) 39)
   clear h hc hS1 h1 hch hcA hn hc2 hcc hmc hxc
   go_enter Tryz.func126,Tryz.ntmps126
   go_upto_region 1 with fail
   rw [<- hw1]
   clear hw1
   go_wp2_with fail
   refine hcl.mono ?_
   rintro e w1' ⟨rfl,rfl⟩
   go_wp2_with fail
   go_ret
   rw [HC.out]
   exact ⟨_,rfl,hR.mono hB1.size,hB3⟩
theorem spawns_any {o:Nat->Nat} {B:Nat} {M:Mod} (t:Int) (f:Fra) (x:In) (w:World) (h:Md w o B M) (hT:M.T.length<=1000) :
  Calls Tryz.prog 127 #[stdV B t f x] w fun e w'=>∃ v,e=.returned v/\EnNew w.heap.size w' v [spawnE M t x]/\Below w.heap.size w w':=by
 obtain ⟨w1,hw1⟩:∃ w1,w1=w.alloc (.cells (stdA B t f x) 107):=⟨_,rfl⟩
 have hB1:Below w.heap.size w w1:=by rw [hw1];exact below1 w _
 have hS1:StAt w1 w.heap.size B t f x:=by rw [hw1];exact blk_new w _ _
 have h1:=h.below hB1
 have hta:=tasks_any w1 h1 hT
 obtain ⟨s0,s1,s2,s3,s4,s5,s6,s7,s8,s9,s10,s11,s12,s13,s14,s15,s16⟩:=std_cells (show StAt w1 w.heap.size B t f x from hS1)
 go_enter Tryz.func127,Tryz.ntmps127
 go_upto_region 1 with fail
 rw [<- hw1]
 clear hw1
 go_wp2_with fail
 refine hta.mono ?_
 clear s0 s1 s2 s3 s4 s5 s6 s7 s8 s9 s10 s11 s12 s13 s14 s15 s16 hta
 rintro e w2 ⟨rfl,hb2⟩
 have hB2:=below_nx hB1 hb2 (Nat.le_refl _)
 have hS2:=Blk.later hS1 hb2 hS1.lt
 have h2:=h.below hB2
 obtain ⟨s0,s1,s2,s3,s4,s5,s6,s7,s8,s9,s10,s11,s12,s13,s14,s15,s16⟩:=std_cells (show StAt w2 w.heap.size B t f x from hS2)
 obtain ⟨lo,hi,v1,v2,v3,vT,vC,Cs,h3⟩:=h2
 have p3:=h3.mst
 by_cases hm:M.most<=M.T.length
 ·have HC:Hid (spawnE M t x=faultE t (-1) 143):=Lib.hid (by unfold spawnE;rw [if_pos hm])
  have hf:=fun W=>fault_any t (-1) 143 W
  have hd:(M.most:Int)<=(M.T.length:Int):=by omega
  clear h h1 h3 hS1 hS2 hm
  go_wp2_with fail
  refine (hf _).mono ?_
  clear s0 s1 s2 s3 s4 s5 s6 s7 s8 s9 s10 s11 s12 s13 s14 s15 s16 p3
  rintro e w3 ⟨rfl,hb3⟩
  have hB3:=below_nx hB2 hb3 (Nat.le_refl _)
  have hR:=EnNew.one w3 (faultE t (-1) 143)
  have hB4:=Mch.Below.al hB3 hB3.size (.cells (enA (faultE t (-1) 143)) 39)
  go_wp2_with fail
  go_ret
  rw [HC.out]
  exact ⟨_,rfl,hR.mono hB3.size,hB4⟩
 ·have HC:Hid (spawnE M t x=⟨0,9,0,t,M.T.length,0,x.k,0,0,0,false,0,0⟩):=Lib.hid (by unfold spawnE;rw [if_neg hm])
  have hd : ¬ (M.most:Int)<=(M.T.length:Int):=by omega
  have hR:=EnNew.one w2 ⟨0,9,0,t,M.T.length,0,x.k,0,0,0,false,0,0⟩
  have hB3:=Mch.Below.al hB2 hB2.size (.cells (enA ⟨0,9,0,t,M.T.length,0,x.k,0,0,0,false,0,0⟩) 39)
  clear h h1 h3 hS1 hS2 hm
  go_wp2_with fail
  go_ret
  rw [HC.out]
  exact ⟨_,rfl,hR.mono hB2.size,hB3⟩
open Go.RowKit
open Ent (En EnRow EnAt)
open Mch (Wt Gt whatK putL Chn Frm Fw Fl grown_below below1 below_nx owns_slice' boxed_below)
theorem frm_below {w w':World} {n:Nat} (h:Frm (fun k=>n<=k) w w') (hn:n<=w.heap.size):Below n w w':=
 ⟨h.os,h.tape,h.output,h.size,fun k hk=>h.block k (by omega) (by omega)⟩
abbrev gotA (gk:Nat) (pt pc pv gv:Int) (gok:Bool) (gu:Int):Array Value:=#[.int .u8 (gk:Int),.int .i64 pt,.int .i64 pc,.int .i64 pv,.int .i64 gv,.bool gok,.int .i64 gu]
theorem rows7 (x0 x1 x2 x3 x4 x5 x6 a0 a1 a2 a3 a4 a5 a6:Value):(((((((#[x0,x1,x2,x3,x4,x5,x6]:Array Value).setIfInBounds 0 a0).setIfInBounds 1 a1).setIfInBounds 2 a2).setIfInBounds 3 a3).setIfInBounds 4 a4).setIfInBounds 5 a5).setIfInBounds 6 a6=#[a0,a1,a2,a3,a4,a5,a6]:=by simp
theorem sto7 {W:World} {B:Nat} {t:TypeId} {x0 x1 x2 x3 x4 x5 x6:Value} (h:Blk W B t #[x0,x1,x2,x3,x4,x5,x6]) (a0 a1 a2 a3 a4 a5 a6:Value) :
  Blk (((((((W.setCell ⟨B,0,none⟩ a0).setCell ⟨B,1,none⟩ a1).setCell ⟨B,2,none⟩ a2).setCell ⟨B,3,none⟩ a3).setCell ⟨B,4,none⟩ a4).setCell ⟨B,5,none⟩ a5).setCell ⟨B,6,none⟩ a6) B t #[a0,a1,a2,a3,a4,a5,a6] /\
  But [B] W (((((((W.setCell ⟨B,0,none⟩ a0).setCell ⟨B,1,none⟩ a1).setCell ⟨B,2,none⟩ a2).setCell ⟨B,3,none⟩ a3).setCell ⟨B,4,none⟩ a4).setCell ⟨B,5,none⟩ a5).setCell ⟨B,6,none⟩ a6):=by
 have hm:B ∈ [B]:=by simp
 refine ⟨?_,((((((((But.refl [B] W).set (.inl hm) _).set (.inl hm) _).set (.inl hm) _).set (.inl hm) _).set (.inl hm) _).set (.inl hm) _).set (.inl hm) _)⟩
 rw [<- rows7 x0 x1 x2 x3 x4 x5 x6 a0 a1 a2 a3 a4 a5 a6]
 exact ((((((h.set 0 a0).set 1 a1).set 2 a2).set 3 a3).set 4 a4).set 5 a5).set 6 a6
theorem move_any {o:Nat->Nat} {B:Nat} {M:Mod} (t:Int) (f:Fra) (x:In) (op:Opn) (w:World) (h:Md w o B M) (hc:0<=op.c/\op.c<(M.C.length:Int)) (hS:(M.ch op.c).S.length<=900) (hR:(M.ch op.c).R.length<=900) :
  Calls Tryz.prog 171 #[stdV B t f x,opV op] w fun e w'=>e=.returned (enV (moveE t op (M.ch op.c)))/\Below w.heap.size w w':=by
 obtain ⟨wa,hwa⟩:∃ wa,wa=((w.alloc (.cells (stdA B t f x) 107)).alloc (.cells (opA op) 193)).alloc (.cells #[.int .i64 0,.int .u8 0,.int .i64 0,.int .i64 0,.int .i64 0,.int .i64 0,.int .i64 0,.int .i64 0,.int .i64 0,.int .i64 0,.bool false,.int .i64 0,.int .u64 0] 39):=⟨_,rfl⟩
 have hBa:Below w.heap.size w wa:=by rw [hwa];exact Mch.Below.al (below2 w _ _) (by simp;omega) _
 have hSt:StAt wa w.heap.size B t f x:=by rw [hwa];exact ((blk_new w _ _).alloc _).alloc _
 have hOp:Blk wa (w.heap.size+1) 193 (opA op):=by rw [hwa];exact (show Blk _ _ _ _ from blk_at (by simp)).alloc _
 have hX:Blk wa (w.heap.size+1+1) 39 #[.int .i64 0,.int .u8 0,.int .i64 0,.int .i64 0,.int .i64 0,.int .i64 0,.int .i64 0,.int .i64 0,.int .i64 0,.int .i64 0,.bool false,.int .i64 0,.int .u64 0]:=by rw [hwa];exact blk_at (by simp)
 obtain ⟨n,hn⟩:∃ n:Nat,op.c=(n:Int):=⟨op.c.toNat,by omega⟩
 obtain ⟨ob,os,oc,ov⟩:=op
 simp only at hn hc hS hR
 subst hn
 have hnC:n<M.C.length:=by omega
 obtain ⟨c,hcc⟩:∃ c,c=M.ch (n:Int):=⟨_,rfl⟩
 rw [<- hcc] at hS hR ⊢
 have hha:=h.below hBa
 have hcC:∀ W,Below wa.heap.size wa W->Calls Tryz.prog 10 #[ptrV B,.int .i64 (n:Int)] W fun e w'=>∃ D,e=.returned (ptrV D)/\Chn w' (fun k=>W.heap.size<=k) D c.m c.cl c.buf c.S c.R/\Below W.heap.size W w':=fun W hW=>by
  have:=chan_any n W (hha.below hW) hnC (by rw [<- hcc];exact hS) (by rw [<- hcc];exact hR)
  rw [<- hcc] at this
  exact this
 obtain ⟨g,hg⟩:∃ g,g=c.got os ov:=⟨_,rfl⟩
 obtain ⟨ge,hge⟩:∃ ge,ge=c.gotE os:=⟨_,rfl⟩
 have hSv:∀ W D F,Chn W F D c.m c.cl c.buf c.S c.R->Calls Tryz.prog 100 #[ptrV D,.bool os,.int .i64 ov] W fun e w'=>e=.returned (.tuple #[Gt.val g,.int .i64 ge])/\Frm F W w':=fun W D F hD=>by
  rw [hg,hge]
  refine (serve_any c os ov W hD (by omega) (by omega)).mono ?_
  rintro e w' ⟨e1,-, h3⟩
  exact ⟨e1,h3⟩
 have HM:Hid (moveE t ⟨ob,os,n,ov⟩ c=if ge ≠ 0 then faultE t (-1) 140 else if g.k=2 then ⟨0,3,0,t,g.p.t,n,ob,g.p.c,g.v,0,os,0,0⟩ else if g.k=4 then ⟨0,4,0,t,g.p.t,n,ob,g.p.c,g.v,g.u,false,0,0⟩ else if os then ⟨0,1,0,t,0,n,ob,0,g.v,0,false,0,0⟩ else ⟨0,2,0,t,0,n,ob,0,g.v,0,g.ok,0,0⟩):=Lib.hid (by rw [hg,hge];rfl)
 obtain ⟨E,hE⟩:∃ E,E=moveE t ⟨ob,os,n,ov⟩ c:=⟨_,rfl⟩
 rw [<- hE] at HM ⊢
 clear hE hg hge hcc hc hS hR h
 obtain ⟨gk,⟨pt,pc,pv⟩,gv,gok,gu⟩:=g
 have hkS:∀ W,Below wa.heap.size wa W->W.cell? ⟨w.heap.size,0,none⟩=some (ptrV B)/\W.cell? ⟨w.heap.size+1,2,none⟩=some (.int .i64 (n:Int))/\W.cell? ⟨w.heap.size+1,1,none⟩=some (.bool os)/\W.cell? ⟨w.heap.size+1,3,none⟩=some (.int .i64 ov)/\Below wa.heap.size wa W:=fun W hW=>by
  have h1:=Blk.later hSt hW hSt.lt
  have h2:=Blk.later hOp hW hOp.lt
  exact ⟨Blk.cell h1 rfl,Blk.cell h2 rfl,Blk.cell h2 rfl,Blk.cell h2 rfl,hW⟩
 have r0:Below wa.heap.size wa wa.drew:=(Below.refl _ _).drew
 have r1:Below wa.heap.size wa (wa.alloc (.cells #[.int .u8 0,.int .i64 0,.int .i64 0,.int .i64 0,.int .i64 0,.bool false,.int .i64 0] 184)).drew:=(below1 wa _).drew
 have hCA:Calls Tryz.prog 10 #[ptrV B,.int .i64 (n:Int)] wa.drew fun e w'=>∃ D,e=.returned (ptrV D)/\Hid (Chn w' (Fl (fun k=>wa.heap.size<=k) w') D c.m c.cl c.buf c.S c.R)/\Below wa.heap.size wa w'/\True:=(hcC _ r0).mono fun e w' ⟨D,e1,h1,h2⟩=>
  ⟨D,e1,Lib.hid h1.fl,(r0.trans h2),trivial⟩
 have hCB:Calls Tryz.prog 10 #[ptrV B,.int .i64 (n:Int)] (wa.alloc (.cells #[.int .u8 0,.int .i64 0,.int .i64 0,.int .i64 0,.int .i64 0,.bool false,.int .i64 0] 184)).drew fun e w'=>∃ D,e=.returned (ptrV D)/\Hid (Chn w' (fun k=>wa.heap.size+1<=k) D c.m c.cl c.buf c.S c.R)/\Below wa.heap.size wa w'/\Blk w' wa.heap.size 184 #[.int .u8 0,.int .i64 0,.int .i64 0,.int .i64 0,.int .i64 0,.bool false,.int .i64 0]:=(hcC _ r1).mono fun e w' ⟨D,e1,h1,h2⟩=>
  ⟨D,e1,Lib.hid (h1.mono (fun i hi=>by have e9:(wa.alloc (.cells #[.int .u8 0,.int .i64 0,.int .i64 0,.int .i64 0,.int .i64 0,.bool false,.int .i64 0] 184)).drew.heap.size=wa.heap.size+1:=World.size_alloc _ _;omega)),r1.trans (h2.mono (show wa.heap.size<=(wa.alloc (.cells #[.int .u8 0,.int .i64 0,.int .i64 0,.int .i64 0,.int .i64 0,.bool false,.int .i64 0] 184)).heap.size by simp)),Blk.later (show Blk (wa.alloc (.cells #[.int .u8 0,.int .i64 0,.int .i64 0,.int .i64 0,.int .i64 0,.bool false,.int .i64 0] 184)).drew _ _ _ from blk_new wa _ _) h2 (show wa.heap.size<(wa.alloc (.cells #[.int .u8 0,.int .i64 0,.int .i64 0,.int .i64 0,.int .i64 0,.bool false,.int .i64 0] 184)).heap.size by simp)⟩
 have hSA:∀ W D,Hid (Chn W (Fl (fun k=>wa.heap.size<=k) W) D c.m c.cl c.buf c.S c.R)->Below wa.heap.size wa W->Calls Tryz.prog 100 #[ptrV D,.bool os,.int .i64 ov] W fun e w'=>e=.returned (.tuple #[Gt.val ⟨gk,⟨pt,pc,pv⟩,gv,gok,gu⟩,.int .i64 ge])/\Below wa.heap.size wa w'/\True:=fun W D hD hW=>
  (hSv W D _ hD.out).mono fun e w' ⟨e1,h1⟩=>⟨e1,hW.trans (frm_below (h1.mono (fun k hk=>hk.1)) hW.size),trivial⟩
 have hSB:∀ W D,Hid (Chn W (fun k=>wa.heap.size+1<=k) D c.m c.cl c.buf c.S c.R)->Below wa.heap.size wa W->Blk W wa.heap.size 184 #[.int .u8 0,.int .i64 0,.int .i64 0,.int .i64 0,.int .i64 0,.bool false,.int .i64 0]->Calls Tryz.prog 100 #[ptrV D,.bool os,.int .i64 ov] W fun e w'=>e=.returned (.tuple #[Gt.val ⟨gk,⟨pt,pc,pv⟩,gv,gok,gu⟩,.int .i64 ge])/\Below wa.heap.size wa w'/\Blk w' wa.heap.size 184 #[.int .u8 0,.int .i64 0,.int .i64 0,.int .i64 0,.int .i64 0,.bool false,.int .i64 0]:=fun W D hD hW hG=>
  (hSv W D _ hD.out).mono fun e w' ⟨e1,h1⟩=>⟨e1,hW.trans (frm_below (h1.mono (fun k (hk:wa.heap.size+1<=k)=>by omega)) hW.size),(h1.block _ hG.lt (by omega)).trans hG⟩
 have hSC:∀ W D,Hid (Chn W (Fl (fun k=>wa.heap.size<=k) W) D c.m c.cl c.buf c.S c.R)->Below wa.heap.size wa W->Calls Tryz.prog 100 #[ptrV D,.bool os,.int .i64 ov] (W.alloc (.cells #[.int .u8 0,.int .i64 0,.int .i64 0,.int .i64 0,.int .i64 0,.bool false,.int .i64 0] 184)) fun e w'=>e=.returned (.tuple #[Gt.val ⟨gk,⟨pt,pc,pv⟩,gv,gok,gu⟩,.int .i64 ge])/\Below wa.heap.size wa w'/\Blk w' W.heap.size 184 #[.int .u8 0,.int .i64 0,.int .i64 0,.int .i64 0,.int .i64 0,.bool false,.int .i64 0]:=fun W D hD hW=>
  (hSv _ D _ (hD.out.below (below1 W _))).mono fun e w' ⟨e1,h1⟩=>⟨e1,(Mch.Below.al hW hW.size _).trans (frm_below (h1.mono (fun k hk=>hk.1)) (Nat.le_trans hW.size (by simp))),(h1.block _ (by simp) (fun hk=>by have:=hk.2;omega)).trans (blk_new W _ _)⟩
 have hcl:∀ (W:World) (G:Nat),Blk W G 184 #[.int .u8 0,.int .i64 0,.int .i64 0,.int .i64 0,.int .i64 0,.bool false,.int .i64 0]->W.cell? ⟨G,0,none⟩=some (.int .u8 0)/\W.cell? ⟨G,1,none⟩=some (.int .i64 0)/\W.cell? ⟨G,2,none⟩=some (.int .i64 0)/\W.cell? ⟨G,3,none⟩=some (.int .i64 0)/\W.cell? ⟨G,4,none⟩=some (.int .i64 0)/\W.cell? ⟨G,5,none⟩=some (.bool false)/\W.cell? ⟨G,6,none⟩=some (.int .i64 0)/\(∀ k,W.frozen? ⟨G,k,none⟩=false):=
  fun W G h=>⟨h.cell rfl,h.cell rfl,h.cell rfl,h.cell rfl,h.cell rfl,h.cell rfl,h.cell rfl,h.frozen⟩
 obtain ⟨k0,k1,k2,k3,-⟩:=hkS _ r0
 obtain ⟨l0,l1,l2,l3,-⟩:=hkS _ r1
 clear hcC hSv
 go_enter Tryz.func171,Tryz.ntmps171
 go_upto_region 1 with fail
 rw [<- hwa]
 clear hwa
 go_cut [5,6] from 5 to 20 (fun gv' ev W=>∃ G,gv'=ptrV G/\ev=.int .i64 ge/\Blk W G 184 (gotA gk pt pc pv gv gok gu)/\Below wa.heap.size wa W)
 case first=>
  unfold Gt.val at hSA hSB hSC
  go_region_held3 (fun W=>W.cell? ⟨w.heap.size,0,none⟩=some (ptrV B)/\W.cell? ⟨w.heap.size+1,2,none⟩=some (.int .i64 (n:Int))/\W.cell? ⟨w.heap.size+1,1,none⟩=some (.bool os)/\W.cell? ⟨w.heap.size+1,3,none⟩=some (.int .i64 ov)/\Below wa.heap.size wa W)
   ((refine hkS _ ?_;with_reducible first | exact r0 | exact r1 | exact hb3 | exact hb2 | exact Mch.Below.al hb3 hb3.size _ | exact Mch.Below.al hb2 hb2.size _ | exact hb3.trans ((sto7 hG3 _ _ _ _ _ _ _).2.below hb3.size (by first | (simp;done) | (simp;exact hb2.size)))))
   ((first
   | (go_at_call 10;with_reducible refine hCA.mono ?_;rintro e w2 ⟨D,rfl,hch,hb2,-⟩;obtain ⟨m0,m1,m2,m3,-⟩:=hkS _ hb2;obtain ⟨n0,n1,n2,n3,-⟩:=hkS _ (Mch.Below.al hb2 hb2.size (.cells #[.int .u8 0,.int .i64 0,.int .i64 0,.int .i64 0,.int .i64 0,.bool false,.int .i64 0] 184)))
   | (go_at_call 10;with_reducible refine hCB.mono ?_;rintro e w2 ⟨D,rfl,hch,hb2,hG2⟩;obtain ⟨m0,m1,m2,m3,-⟩:=hkS _ hb2)
   | (go_at_call 100;with_reducible refine (hSB _ _ hch hb2 hG2).mono ?_;rintro e w3 ⟨rfl,hb3,hG3⟩;obtain ⟨g0,g1,g2,g3,g4,g5,g6,gf⟩:=hcl _ _ hG3)
   | (go_at_call 100;with_reducible refine (hSA _ _ hch hb2).mono ?_;rintro e w3 ⟨rfl,hb3,-⟩)
   | (go_at_call 100;with_reducible refine (hSC _ _ hch hb2).mono ?_;rintro e w3 ⟨rfl,hb3,hG3⟩;obtain ⟨g0,g1,g2,g3,g4,g5,g6,gf⟩:=hcl _ _ hG3)))
  all_goals go_wp2_with fail
  all_goals go_meet
  all_goals first
   | exact ⟨_,rfl,rfl,(sto7 hG3 _ _ _ _ _ _ _).1,hb3.trans ((sto7 hG3 _ _ _ _ _ _ _).2.below hb3.size (by first | (simp;done) | (simp;exact hb2.size)))⟩
   | exact ⟨_,rfl,rfl,blk_new w3 _ _,Mch.Below.al hb3 hb3.size _⟩
 case rest=>
  obtain ⟨G,rfl,rfl,hG,hB⟩:=hcut
  have hB0:=hBa.trans (hB.mono hBa.size)
  have hS2:=Blk.later hSt hB hSt.lt
  have hO2:=Blk.later hOp hB hOp.lt
  have hX2:=Blk.later hX hB hX.lt
  have s1:wc.cell? ⟨w.heap.size,1,none⟩=some (.int .i64 t):=Blk.cell (show StAt wc w.heap.size B t f x from hS2) rfl
  clear hCA hCB hSA hSB hSC hcl hkS k0 k1 k2 k3 l0 l1 l2 l3 hB hSt hOp hX
  by_cases hge:ge=0
  ·rw [hge] at HM ⊢
   have HM':Hid (E=if gk=2 then ⟨0,3,0,t,pt,n,ob,pc,gv,0,os,0,0⟩ else if gk=4 then ⟨0,4,0,t,pt,n,ob,pc,gv,gu,false,0,0⟩ else if os then ⟨0,1,0,t,0,n,ob,0,gv,0,false,0,0⟩ else ⟨0,2,0,t,0,n,ob,0,gv,0,gok,0,0⟩):=Lib.hid (by have:=HM.out;rw [if_neg (by simp)] at this;exact this)
   clear HM hge
   have o0:wc.cell? ⟨w.heap.size+1,0,none⟩=some (.int .i64 ob):=Blk.cell hO2 rfl
   have o2:wc.cell? ⟨w.heap.size+1,2,none⟩=some (.int .i64 (n:Int)):=Blk.cell hO2 rfl
   have g4:wc.cell? ⟨G,4,none⟩=some (.int .i64 gv):=Blk.cell hG rfl
   obtain ⟨wy,hwy⟩:∃ wy,wy=wc.alloc (.cells #[.int .i64 0,.int .u8 0,.int .i64 0,.int .i64 t,.int .i64 0,.int .i64 (n:Int),.int .i64 ob,.int .i64 0,.int .i64 gv,.int .i64 0,.bool false,.int .i64 0,.int .u64 0] 39):=⟨_,rfl⟩
   have hBy:Below w.heap.size w wy:=by rw [hwy];exact Mch.Below.al hB0 hB0.size _
   have hY:Blk wy wc.heap.size 39 #[.int .i64 0,.int .u8 0,.int .i64 0,.int .i64 t,.int .i64 0,.int .i64 (n:Int),.int .i64 ob,.int .i64 0,.int .i64 gv,.int .i64 0,.bool false,.int .i64 0,.int .u64 0]:=by rw [hwy];exact blk_new wc _ _
   have hGy:Blk wy G 184 (gotA gk pt pc pv gv gok gu):=by rw [hwy];exact Blk.alloc hG _
   have hOy:Blk wy (w.heap.size+1) 193 (opA ⟨ob,os,n,ov⟩):=by rw [hwy];exact Blk.alloc hO2 _
   have hXy:Blk wy (w.heap.size+1+1) 39 #[.int .i64 0,.int .u8 0,.int .i64 0,.int .i64 0,.int .i64 0,.int .i64 0,.int .i64 0,.int .i64 0,.int .i64 0,.int .i64 0,.bool false,.int .i64 0,.int .u64 0]:=by rw [hwy];exact Blk.alloc hX2 _
   obtain ⟨Y,hYY⟩:∃ Y,Y=wc.heap.size:=⟨_,rfl⟩
   have hne:Y ≠ w.heap.size+1+1:=by have:=hX2.lt;omega
   have hneO:w.heap.size+1 ≠ Y:=by have:=hO2.lt;omega
   have hneG:G ≠ Y:=by have:=hG.lt;omega
   have hneO':=hneO.symm
   have hneG':=hneG.symm
   rw [<- hYY] at hY
   have hyl:w.heap.size<=Y:=by rw [hYY];exact hB0.size
   go_upto_region 6 with fail
   rw [<- hwy, <- hYY]
   clear hwy hYY s1 o0 o2 g4 hS2 hO2 hX2 hG hB0
   have g0:wy.cell? ⟨G,0,none⟩=some (.int .u8 (gk:Int)):=Blk.cell hGy rfl
   have o1:wy.cell? ⟨w.heap.size+1,1,none⟩=some (.bool os):=Blk.cell hOy rfl
   have fY:∀ k,wy.frozen? ⟨Y,k,none⟩=false:=hY.frozen
   by_cases h2:gk=2
   ·subst h2
    have HC:Hid (E=⟨0,3,0,t,pt,n,ob,pc,gv,0,os,0,0⟩):=Lib.hid (by have:=HM'.out;rw [if_pos rfl] at this;exact this)
    have g0:wy.cell? ⟨G,0,none⟩=some (.int .u8 2):=g0
    obtain ⟨v1,z1⟩:∃ u,wy.cell? ⟨Y,1,none⟩=some u:=⟨_,Blk.cell hY rfl⟩
    have zd1:wy.drew.cell? ⟨Y,1,none⟩=some v1:=z1
    obtain ⟨v4,z4⟩:∃ u,wy.cell? ⟨Y,4,none⟩=some u:=⟨_,Blk.cell hY rfl⟩
    have zd4:wy.drew.cell? ⟨Y,4,none⟩=some v4:=z4
    obtain ⟨v7,z7⟩:∃ u,wy.cell? ⟨Y,7,none⟩=some u:=⟨_,Blk.cell hY rfl⟩
    have zd7:wy.drew.cell? ⟨Y,7,none⟩=some v7:=z7
    obtain ⟨v10,z10⟩:∃ u,wy.cell? ⟨Y,10,none⟩=some u:=⟨_,Blk.cell hY rfl⟩
    have zd10:wy.drew.cell? ⟨Y,10,none⟩=some v10:=z10
    have g1:wy.cell? ⟨G,1,none⟩=some (.int .i64 pt):=Blk.cell hGy rfl
    have gd1:wy.drew.cell? ⟨G,1,none⟩=some (.int .i64 pt):=g1
    have g2:wy.cell? ⟨G,2,none⟩=some (.int .i64 pc):=Blk.cell hGy rfl
    have gd2:wy.drew.cell? ⟨G,2,none⟩=some (.int .i64 pc):=g2
    have od1:=(show wy.drew.cell? ⟨w.heap.size+1,1,none⟩=_ from o1)
    have fYd:∀ k,wy.drew.frozen? ⟨Y,k,none⟩=false:=fY
    have E0:Blk ((((wy.setCell ⟨Y,1,none⟩ (.int .u8 3)).setCell ⟨Y,4,none⟩ (.int .i64 pt)).setCell ⟨Y,7,none⟩ (.int .i64 pc)).setCell ⟨Y,10,none⟩ (.bool os)).drew Y 39 (enA ⟨0,3,0,t,pt,n,ob,pc,gv,0,os,0,0⟩):=by have:=(Blk.set (Blk.set (Blk.set (Blk.set hY 1 (.int .u8 3)) 4 (.int .i64 pt)) 7 (.int .i64 pc)) 10 (.bool os));simp only [List.setIfInBounds_toArray,List.set_cons_succ,List.set_cons_zero] at this;exact this
    have B0:Below w.heap.size w ((((wy.setCell ⟨Y,1,none⟩ (.int .u8 3)).setCell ⟨Y,4,none⟩ (.int .i64 pt)).setCell ⟨Y,7,none⟩ (.int .i64 pc)).setCell ⟨Y,10,none⟩ (.bool os)).drew:=(Below.setCell (p:=⟨Y,10,none⟩) (Below.setCell (p:=⟨Y,7,none⟩) (Below.setCell (p:=⟨Y,4,none⟩) (Below.setCell (p:=⟨Y,1,none⟩) hBy hyl (.int .u8 3)) hyl (.int .i64 pt)) hyl (.int .i64 pc)) hyl (.bool os)).drew
    have X0:Blk ((((wy.setCell ⟨Y,1,none⟩ (.int .u8 3)).setCell ⟨Y,4,none⟩ (.int .i64 pt)).setCell ⟨Y,7,none⟩ (.int .i64 pc)).setCell ⟨Y,10,none⟩ (.bool os)).drew (w.heap.size+1+1) 39 #[.int .i64 0,.int .u8 0,.int .i64 0,.int .i64 0,.int .i64 0,.int .i64 0,.int .i64 0,.int .i64 0,.int .i64 0,.int .i64 0,.bool false,.int .i64 0,.int .u64 0]:=(Blk.beside (p:=⟨Y,10,none⟩) (Blk.beside (p:=⟨Y,7,none⟩) (Blk.beside (p:=⟨Y,4,none⟩) (Blk.beside (p:=⟨Y,1,none⟩) hXy hne.symm (.int .u8 3)) hne.symm (.int .i64 pt)) hne.symm (.int .i64 pc)) hne.symm (.bool os))
    obtain ⟨w6,hw6⟩:∃ w6,w6=((((wy.setCell ⟨Y,1,none⟩ (.int .u8 3)).setCell ⟨Y,4,none⟩ (.int .i64 pt)).setCell ⟨Y,7,none⟩ (.int .i64 pc)).setCell ⟨Y,10,none⟩ (.bool os)).drew:=⟨_,rfl⟩
    rw [<- hw6] at E0 B0 X0
    clear HM' hY hXy hBy hGy hOy
    go_upto_region 7 with fail
    go_region
    rw [<- hw6]
    clear hw6
    obtain ⟨y0,y1,y2,y3,y4,y5,y6,y7,y8,y9,y10,y11,y12⟩:w6.cell? ⟨Y,0,none⟩=some (enA ⟨0,3,0,t,pt,n,ob,pc,gv,0,os,0,0⟩)[0]!/\w6.cell? ⟨Y,1,none⟩=some (enA ⟨0,3,0,t,pt,n,ob,pc,gv,0,os,0,0⟩)[1]!/\w6.cell? ⟨Y,2,none⟩=some (enA ⟨0,3,0,t,pt,n,ob,pc,gv,0,os,0,0⟩)[2]!/\w6.cell? ⟨Y,3,none⟩=some (enA ⟨0,3,0,t,pt,n,ob,pc,gv,0,os,0,0⟩)[3]!/\w6.cell? ⟨Y,4,none⟩=some (enA ⟨0,3,0,t,pt,n,ob,pc,gv,0,os,0,0⟩)[4]!/\w6.cell? ⟨Y,5,none⟩=some (enA ⟨0,3,0,t,pt,n,ob,pc,gv,0,os,0,0⟩)[5]!/\w6.cell? ⟨Y,6,none⟩=some (enA ⟨0,3,0,t,pt,n,ob,pc,gv,0,os,0,0⟩)[6]!/\w6.cell? ⟨Y,7,none⟩=some (enA ⟨0,3,0,t,pt,n,ob,pc,gv,0,os,0,0⟩)[7]!/\w6.cell? ⟨Y,8,none⟩=some (enA ⟨0,3,0,t,pt,n,ob,pc,gv,0,os,0,0⟩)[8]!/\w6.cell? ⟨Y,9,none⟩=some (enA ⟨0,3,0,t,pt,n,ob,pc,gv,0,os,0,0⟩)[9]!/\w6.cell? ⟨Y,10,none⟩=some (enA ⟨0,3,0,t,pt,n,ob,pc,gv,0,os,0,0⟩)[10]!/\w6.cell? ⟨Y,11,none⟩=some (enA ⟨0,3,0,t,pt,n,ob,pc,gv,0,os,0,0⟩)[11]!/\w6.cell? ⟨Y,12,none⟩=some (enA ⟨0,3,0,t,pt,n,ob,pc,gv,0,os,0,0⟩)[12]!:=⟨Blk.cell E0 rfl,Blk.cell E0 rfl,Blk.cell E0 rfl,Blk.cell E0 rfl,Blk.cell E0 rfl,Blk.cell E0 rfl,Blk.cell E0 rfl,Blk.cell E0 rfl,Blk.cell E0 rfl,Blk.cell E0 rfl,Blk.cell E0 rfl,Blk.cell E0 rfl,Blk.cell E0 rfl⟩
    go_wp2_with (refine wpList_put rfl _ _ _ rfl (w.heap.size+1+1) (enA ⟨0,3,0,t,pt,n,ob,pc,gv,0,os,0,0⟩) rfl rfl X0 szEn rfl (by simp [Value.oneCell']) ?_;intro w5 E1 E2;go_frame)
    rw [HC.out]
    exact bodyPost_ret (v:=enV ⟨0,3,0,t,pt,n,ob,pc,gv,0,os,0,0⟩) (results_cell_row rfl _ _ (w.heap.size+1+1) 39 _ (0,0) _ rfl E1 Tryz.underlying39 rfl szEn) rfl ⟨rfl,B0.trans (E2.below B0.size (by simp;omega))⟩
   ·have n2:((gk:Int) == 2)=false:=by simp;omega
    by_cases h4:gk=4
    ·subst h4
     have HC:Hid (E=⟨0,4,0,t,pt,n,ob,pc,gv,gu,false,0,0⟩):=Lib.hid (by have:=HM'.out;rw [if_neg (by decide),if_pos rfl] at this;exact this)
     have g0:wy.cell? ⟨G,0,none⟩=some (.int .u8 4):=g0
     clear n2
     obtain ⟨v1,z1⟩:∃ u,wy.cell? ⟨Y,1,none⟩=some u:=⟨_,Blk.cell hY rfl⟩
     have zd1:wy.drew.cell? ⟨Y,1,none⟩=some v1:=z1
     obtain ⟨v4,z4⟩:∃ u,wy.cell? ⟨Y,4,none⟩=some u:=⟨_,Blk.cell hY rfl⟩
     have zd4:wy.drew.cell? ⟨Y,4,none⟩=some v4:=z4
     obtain ⟨v7,z7⟩:∃ u,wy.cell? ⟨Y,7,none⟩=some u:=⟨_,Blk.cell hY rfl⟩
     have zd7:wy.drew.cell? ⟨Y,7,none⟩=some v7:=z7
     obtain ⟨v9,z9⟩:∃ u,wy.cell? ⟨Y,9,none⟩=some u:=⟨_,Blk.cell hY rfl⟩
     have zd9:wy.drew.cell? ⟨Y,9,none⟩=some v9:=z9
     have g1:wy.cell? ⟨G,1,none⟩=some (.int .i64 pt):=Blk.cell hGy rfl
     have gd1:wy.drew.cell? ⟨G,1,none⟩=some (.int .i64 pt):=g1
     have g2:wy.cell? ⟨G,2,none⟩=some (.int .i64 pc):=Blk.cell hGy rfl
     have gd2:wy.drew.cell? ⟨G,2,none⟩=some (.int .i64 pc):=g2
     have g6:wy.cell? ⟨G,6,none⟩=some (.int .i64 gu):=Blk.cell hGy rfl
     have gd6:wy.drew.cell? ⟨G,6,none⟩=some (.int .i64 gu):=g6
     have od1:=(show wy.drew.cell? ⟨w.heap.size+1,1,none⟩=_ from o1)
     have fYd:∀ k,wy.drew.frozen? ⟨Y,k,none⟩=false:=fY
     have E0:Blk ((((wy.setCell ⟨Y,1,none⟩ (.int .u8 4)).setCell ⟨Y,4,none⟩ (.int .i64 pt)).setCell ⟨Y,7,none⟩ (.int .i64 pc)).setCell ⟨Y,9,none⟩ (.int .i64 gu)).drew Y 39 (enA ⟨0,4,0,t,pt,n,ob,pc,gv,gu,false,0,0⟩):=by have:=(Blk.set (Blk.set (Blk.set (Blk.set hY 1 (.int .u8 4)) 4 (.int .i64 pt)) 7 (.int .i64 pc)) 9 (.int .i64 gu));simp only [List.setIfInBounds_toArray,List.set_cons_succ,List.set_cons_zero] at this;exact this
     have B0:Below w.heap.size w ((((wy.setCell ⟨Y,1,none⟩ (.int .u8 4)).setCell ⟨Y,4,none⟩ (.int .i64 pt)).setCell ⟨Y,7,none⟩ (.int .i64 pc)).setCell ⟨Y,9,none⟩ (.int .i64 gu)).drew:=(Below.setCell (p:=⟨Y,9,none⟩) (Below.setCell (p:=⟨Y,7,none⟩) (Below.setCell (p:=⟨Y,4,none⟩) (Below.setCell (p:=⟨Y,1,none⟩) hBy hyl (.int .u8 4)) hyl (.int .i64 pt)) hyl (.int .i64 pc)) hyl (.int .i64 gu)).drew
     have X0:Blk ((((wy.setCell ⟨Y,1,none⟩ (.int .u8 4)).setCell ⟨Y,4,none⟩ (.int .i64 pt)).setCell ⟨Y,7,none⟩ (.int .i64 pc)).setCell ⟨Y,9,none⟩ (.int .i64 gu)).drew (w.heap.size+1+1) 39 #[.int .i64 0,.int .u8 0,.int .i64 0,.int .i64 0,.int .i64 0,.int .i64 0,.int .i64 0,.int .i64 0,.int .i64 0,.int .i64 0,.bool false,.int .i64 0,.int .u64 0]:=(Blk.beside (p:=⟨Y,9,none⟩) (Blk.beside (p:=⟨Y,7,none⟩) (Blk.beside (p:=⟨Y,4,none⟩) (Blk.beside (p:=⟨Y,1,none⟩) hXy hne.symm (.int .u8 4)) hne.symm (.int .i64 pt)) hne.symm (.int .i64 pc)) hne.symm (.int .i64 gu))
     obtain ⟨w6,hw6⟩:∃ w6,w6=((((wy.setCell ⟨Y,1,none⟩ (.int .u8 4)).setCell ⟨Y,4,none⟩ (.int .i64 pt)).setCell ⟨Y,7,none⟩ (.int .i64 pc)).setCell ⟨Y,9,none⟩ (.int .i64 gu)).drew:=⟨_,rfl⟩
     rw [<- hw6] at E0 B0 X0
     clear HM' hY hXy hBy hGy hOy
     go_upto_region 9 with fail
     go_region
     rw [<- hw6]
     clear hw6
     obtain ⟨y0,y1,y2,y3,y4,y5,y6,y7,y8,y9,y10,y11,y12⟩:w6.cell? ⟨Y,0,none⟩=some (enA ⟨0,4,0,t,pt,n,ob,pc,gv,gu,false,0,0⟩)[0]!/\w6.cell? ⟨Y,1,none⟩=some (enA ⟨0,4,0,t,pt,n,ob,pc,gv,gu,false,0,0⟩)[1]!/\w6.cell? ⟨Y,2,none⟩=some (enA ⟨0,4,0,t,pt,n,ob,pc,gv,gu,false,0,0⟩)[2]!/\w6.cell? ⟨Y,3,none⟩=some (enA ⟨0,4,0,t,pt,n,ob,pc,gv,gu,false,0,0⟩)[3]!/\w6.cell? ⟨Y,4,none⟩=some (enA ⟨0,4,0,t,pt,n,ob,pc,gv,gu,false,0,0⟩)[4]!/\w6.cell? ⟨Y,5,none⟩=some (enA ⟨0,4,0,t,pt,n,ob,pc,gv,gu,false,0,0⟩)[5]!/\w6.cell? ⟨Y,6,none⟩=some (enA ⟨0,4,0,t,pt,n,ob,pc,gv,gu,false,0,0⟩)[6]!/\w6.cell? ⟨Y,7,none⟩=some (enA ⟨0,4,0,t,pt,n,ob,pc,gv,gu,false,0,0⟩)[7]!/\w6.cell? ⟨Y,8,none⟩=some (enA ⟨0,4,0,t,pt,n,ob,pc,gv,gu,false,0,0⟩)[8]!/\w6.cell? ⟨Y,9,none⟩=some (enA ⟨0,4,0,t,pt,n,ob,pc,gv,gu,false,0,0⟩)[9]!/\w6.cell? ⟨Y,10,none⟩=some (enA ⟨0,4,0,t,pt,n,ob,pc,gv,gu,false,0,0⟩)[10]!/\w6.cell? ⟨Y,11,none⟩=some (enA ⟨0,4,0,t,pt,n,ob,pc,gv,gu,false,0,0⟩)[11]!/\w6.cell? ⟨Y,12,none⟩=some (enA ⟨0,4,0,t,pt,n,ob,pc,gv,gu,false,0,0⟩)[12]!:=⟨Blk.cell E0 rfl,Blk.cell E0 rfl,Blk.cell E0 rfl,Blk.cell E0 rfl,Blk.cell E0 rfl,Blk.cell E0 rfl,Blk.cell E0 rfl,Blk.cell E0 rfl,Blk.cell E0 rfl,Blk.cell E0 rfl,Blk.cell E0 rfl,Blk.cell E0 rfl,Blk.cell E0 rfl⟩
     go_wp2_with (refine wpList_put rfl _ _ _ rfl (w.heap.size+1+1) (enA ⟨0,4,0,t,pt,n,ob,pc,gv,gu,false,0,0⟩) rfl rfl X0 szEn rfl (by simp [Value.oneCell']) ?_;intro w5 E1 E2;go_frame)
     rw [HC.out]
     exact bodyPost_ret (v:=enV ⟨0,4,0,t,pt,n,ob,pc,gv,gu,false,0,0⟩) (results_cell_row rfl _ _ (w.heap.size+1+1) 39 _ (0,0) _ rfl E1 Tryz.underlying39 rfl szEn) rfl ⟨rfl,B0.trans (E2.below B0.size (by simp;omega))⟩
    ·have n4:((gk:Int) == 4)=false:=by simp;omega
     cases os with
     | true=>
      have HC:Hid (E=⟨0,1,0,t,0,n,ob,0,gv,0,false,0,0⟩):=Lib.hid (by have:=HM'.out;rw [if_neg h2,if_neg h4] at this;exact this)
      clear h2 h4
      obtain ⟨v1,z1⟩:∃ u,wy.cell? ⟨Y,1,none⟩=some u:=⟨_,Blk.cell hY rfl⟩
      have zd1:wy.drew.cell? ⟨Y,1,none⟩=some v1:=z1
      have od1:=(show wy.drew.cell? ⟨w.heap.size+1,1,none⟩=_ from o1)
      have fYd:∀ k,wy.drew.frozen? ⟨Y,k,none⟩=false:=fY
      have E0:Blk (wy.setCell ⟨Y,1,none⟩ (.int .u8 1)) Y 39 (enA ⟨0,1,0,t,0,n,ob,0,gv,0,false,0,0⟩):=by have:=(Blk.set hY 1 (.int .u8 1));simp only [List.setIfInBounds_toArray,List.set_cons_succ,List.set_cons_zero] at this;exact this
      have B0:Below w.heap.size w (wy.setCell ⟨Y,1,none⟩ (.int .u8 1)):=(Below.setCell (p:=⟨Y,1,none⟩) hBy hyl (.int .u8 1))
      have X0:Blk (wy.setCell ⟨Y,1,none⟩ (.int .u8 1)) (w.heap.size+1+1) 39 #[.int .i64 0,.int .u8 0,.int .i64 0,.int .i64 0,.int .i64 0,.int .i64 0,.int .i64 0,.int .i64 0,.int .i64 0,.int .i64 0,.bool false,.int .i64 0,.int .u64 0]:=(Blk.beside (p:=⟨Y,1,none⟩) hXy hne.symm (.int .u8 1))
      obtain ⟨w6,hw6⟩:∃ w6,w6=(wy.setCell ⟨Y,1,none⟩ (.int .u8 1)):=⟨_,rfl⟩
      rw [<- hw6] at E0 B0 X0
      clear HM' hY hXy hBy hGy hOy
      go_upto_region 12 with fail
      rw [<- hw6]
      clear hw6
      obtain ⟨y0,y1,y2,y3,y4,y5,y6,y7,y8,y9,y10,y11,y12⟩:w6.cell? ⟨Y,0,none⟩=some (enA ⟨0,1,0,t,0,n,ob,0,gv,0,false,0,0⟩)[0]!/\w6.cell? ⟨Y,1,none⟩=some (enA ⟨0,1,0,t,0,n,ob,0,gv,0,false,0,0⟩)[1]!/\w6.cell? ⟨Y,2,none⟩=some (enA ⟨0,1,0,t,0,n,ob,0,gv,0,false,0,0⟩)[2]!/\w6.cell? ⟨Y,3,none⟩=some (enA ⟨0,1,0,t,0,n,ob,0,gv,0,false,0,0⟩)[3]!/\w6.cell? ⟨Y,4,none⟩=some (enA ⟨0,1,0,t,0,n,ob,0,gv,0,false,0,0⟩)[4]!/\w6.cell? ⟨Y,5,none⟩=some (enA ⟨0,1,0,t,0,n,ob,0,gv,0,false,0,0⟩)[5]!/\w6.cell? ⟨Y,6,none⟩=some (enA ⟨0,1,0,t,0,n,ob,0,gv,0,false,0,0⟩)[6]!/\w6.cell? ⟨Y,7,none⟩=some (enA ⟨0,1,0,t,0,n,ob,0,gv,0,false,0,0⟩)[7]!/\w6.cell? ⟨Y,8,none⟩=some (enA ⟨0,1,0,t,0,n,ob,0,gv,0,false,0,0⟩)[8]!/\w6.cell? ⟨Y,9,none⟩=some (enA ⟨0,1,0,t,0,n,ob,0,gv,0,false,0,0⟩)[9]!/\w6.cell? ⟨Y,10,none⟩=some (enA ⟨0,1,0,t,0,n,ob,0,gv,0,false,0,0⟩)[10]!/\w6.cell? ⟨Y,11,none⟩=some (enA ⟨0,1,0,t,0,n,ob,0,gv,0,false,0,0⟩)[11]!/\w6.cell? ⟨Y,12,none⟩=some (enA ⟨0,1,0,t,0,n,ob,0,gv,0,false,0,0⟩)[12]!:=⟨Blk.cell E0 rfl,Blk.cell E0 rfl,Blk.cell E0 rfl,Blk.cell E0 rfl,Blk.cell E0 rfl,Blk.cell E0 rfl,Blk.cell E0 rfl,Blk.cell E0 rfl,Blk.cell E0 rfl,Blk.cell E0 rfl,Blk.cell E0 rfl,Blk.cell E0 rfl,Blk.cell E0 rfl⟩
      go_wp2_with (refine wpList_put rfl _ _ _ rfl (w.heap.size+1+1) (enA ⟨0,1,0,t,0,n,ob,0,gv,0,false,0,0⟩) rfl rfl X0 szEn rfl (by simp [Value.oneCell']) ?_;intro w5 E1 E2;go_frame)
      rw [HC.out]
      exact bodyPost_ret (v:=enV ⟨0,1,0,t,0,n,ob,0,gv,0,false,0,0⟩) (results_cell_row rfl _ _ (w.heap.size+1+1) 39 _ (0,0) _ rfl E1 Tryz.underlying39 rfl szEn) rfl ⟨rfl,B0.trans (E2.below B0.size (by simp;omega))⟩
     | false=>
      have HC:Hid (E=⟨0,2,0,t,0,n,ob,0,gv,0,gok,0,0⟩):=Lib.hid (by have:=HM'.out;rw [if_neg h2,if_neg h4] at this;exact this)
      clear h2 h4
      obtain ⟨v1,z1⟩:∃ u,wy.cell? ⟨Y,1,none⟩=some u:=⟨_,Blk.cell hY rfl⟩
      have zd1:wy.drew.cell? ⟨Y,1,none⟩=some v1:=z1
      obtain ⟨v10,z10⟩:∃ u,wy.cell? ⟨Y,10,none⟩=some u:=⟨_,Blk.cell hY rfl⟩
      have zd10:wy.drew.cell? ⟨Y,10,none⟩=some v10:=z10
      have g5:wy.cell? ⟨G,5,none⟩=some (.bool gok):=Blk.cell hGy rfl
      have gd5:wy.drew.cell? ⟨G,5,none⟩=some (.bool gok):=g5
      have od1:=(show wy.drew.cell? ⟨w.heap.size+1,1,none⟩=_ from o1)
      have fYd:∀ k,wy.drew.frozen? ⟨Y,k,none⟩=false:=fY
      have E0:Blk ((wy.setCell ⟨Y,1,none⟩ (.int .u8 2)).setCell ⟨Y,10,none⟩ (.bool gok)).drew Y 39 (enA ⟨0,2,0,t,0,n,ob,0,gv,0,gok,0,0⟩):=by have:=(Blk.set (Blk.set hY 1 (.int .u8 2)) 10 (.bool gok));simp only [List.setIfInBounds_toArray,List.set_cons_succ,List.set_cons_zero] at this;exact this
      have B0:Below w.heap.size w ((wy.setCell ⟨Y,1,none⟩ (.int .u8 2)).setCell ⟨Y,10,none⟩ (.bool gok)).drew:=(Below.setCell (p:=⟨Y,10,none⟩) (Below.setCell (p:=⟨Y,1,none⟩) hBy hyl (.int .u8 2)) hyl (.bool gok)).drew
      have X0:Blk ((wy.setCell ⟨Y,1,none⟩ (.int .u8 2)).setCell ⟨Y,10,none⟩ (.bool gok)).drew (w.heap.size+1+1) 39 #[.int .i64 0,.int .u8 0,.int .i64 0,.int .i64 0,.int .i64 0,.int .i64 0,.int .i64 0,.int .i64 0,.int .i64 0,.int .i64 0,.bool false,.int .i64 0,.int .u64 0]:=(Blk.beside (p:=⟨Y,10,none⟩) (Blk.beside (p:=⟨Y,1,none⟩) hXy hne.symm (.int .u8 2)) hne.symm (.bool gok))
      obtain ⟨w6,hw6⟩:∃ w6,w6=((wy.setCell ⟨Y,1,none⟩ (.int .u8 2)).setCell ⟨Y,10,none⟩ (.bool gok)).drew:=⟨_,rfl⟩
      rw [<- hw6] at E0 B0 X0
      clear HM' hY hXy hBy hGy hOy
      go_upto_region 5 with fail
      go_region
      rw [<- hw6]
      clear hw6
      obtain ⟨y0,y1,y2,y3,y4,y5,y6,y7,y8,y9,y10,y11,y12⟩:w6.cell? ⟨Y,0,none⟩=some (enA ⟨0,2,0,t,0,n,ob,0,gv,0,gok,0,0⟩)[0]!/\w6.cell? ⟨Y,1,none⟩=some (enA ⟨0,2,0,t,0,n,ob,0,gv,0,gok,0,0⟩)[1]!/\w6.cell? ⟨Y,2,none⟩=some (enA ⟨0,2,0,t,0,n,ob,0,gv,0,gok,0,0⟩)[2]!/\w6.cell? ⟨Y,3,none⟩=some (enA ⟨0,2,0,t,0,n,ob,0,gv,0,gok,0,0⟩)[3]!/\w6.cell? ⟨Y,4,none⟩=some (enA ⟨0,2,0,t,0,n,ob,0,gv,0,gok,0,0⟩)[4]!/\w6.cell? ⟨Y,5,none⟩=some (enA ⟨0,2,0,t,0,n,ob,0,gv,0,gok,0,0⟩)[5]!/\w6.cell? ⟨Y,6,none⟩=some (enA ⟨0,2,0,t,0,n,ob,0,gv,0,gok,0,0⟩)[6]!/\w6.cell? ⟨Y,7,none⟩=some (enA ⟨0,2,0,t,0,n,ob,0,gv,0,gok,0,0⟩)[7]!/\w6.cell? ⟨Y,8,none⟩=some (enA ⟨0,2,0,t,0,n,ob,0,gv,0,gok,0,0⟩)[8]!/\w6.cell? ⟨Y,9,none⟩=some (enA ⟨0,2,0,t,0,n,ob,0,gv,0,gok,0,0⟩)[9]!/\w6.cell? ⟨Y,10,none⟩=some (enA ⟨0,2,0,t,0,n,ob,0,gv,0,gok,0,0⟩)[10]!/\w6.cell? ⟨Y,11,none⟩=some (enA ⟨0,2,0,t,0,n,ob,0,gv,0,gok,0,0⟩)[11]!/\w6.cell? ⟨Y,12,none⟩=some (enA ⟨0,2,0,t,0,n,ob,0,gv,0,gok,0,0⟩)[12]!:=⟨Blk.cell E0 rfl,Blk.cell E0 rfl,Blk.cell E0 rfl,Blk.cell E0 rfl,Blk.cell E0 rfl,Blk.cell E0 rfl,Blk.cell E0 rfl,Blk.cell E0 rfl,Blk.cell E0 rfl,Blk.cell E0 rfl,Blk.cell E0 rfl,Blk.cell E0 rfl,Blk.cell E0 rfl⟩
      go_wp2_with (refine wpList_put rfl _ _ _ rfl (w.heap.size+1+1) (enA ⟨0,2,0,t,0,n,ob,0,gv,0,gok,0,0⟩) rfl rfl X0 szEn rfl (by simp [Value.oneCell']) ?_;intro w5 E1 E2;go_frame)
      rw [HC.out]
      exact bodyPost_ret (v:=enV ⟨0,2,0,t,0,n,ob,0,gv,0,gok,0,0⟩) (results_cell_row rfl _ _ (w.heap.size+1+1) 39 _ (0,0) _ rfl E1 Tryz.underlying39 rfl szEn) rfl ⟨rfl,B0.trans (E2.below B0.size (by simp;omega))⟩
  ·have HC:Hid (E=faultE t (-1) 140):=Lib.hid (by have:=HM.out;rw [if_pos hge] at this;exact this)
   have hf:=fun W=>fault_any t (-1) 140 W
   have hd:(ge == 0)=false:=by simpa using hge
   clear HM hge
   go_wp2_with (first
    | (go_at_call 84;refine (hf _).mono ?_;rintro e w3 ⟨rfl,hb3⟩;have hX3:=Blk.later hX2 hb3 hX2.lt)
    | (refine wpList_put rfl _ _ _ rfl (w.heap.size+1+1) (enA (faultE t (-1) 140)) rfl rfl hX3 szEn rfl (by simp [Value.oneCell']) ?_;intro w5 E1 E2;go_frame))
   have hB3:=below_nx hB0 hb3 (Nat.le_refl _)
   rw [HC.out]
   exact bodyPost_ret (v:=enV (faultE t (-1) 140)) (results_cell_row rfl _ _ (w.heap.size+1+1) 39 _ (0,0) _ rfl E1 Tryz.underlying39 rfl szEn) rfl ⟨rfl,hB3.trans (E2.below hB3.size (by simp;omega))⟩
end Go.Proofs.YtnfbncgfpmcpnaaGreat.Mdl
