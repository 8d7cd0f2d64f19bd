/-
  ReplayNext: its walks, part 20.
-/
import Derived.Test.YtnfbncgfpmcpnaaGreatQ19
set_option maxRecDepth 100000
set_option maxHeartbeats 12800000
namespace Go.Proofs.YtnfbncgfpmcpnaaGreat.Mch
open Go.RowKit
theorem GtAt.kind {W:World} {B:Nat} {g:Gt} (h:GtAt W B g) (k:Nat):GtAt (W.setCell ⟨B,0,none⟩ (.int .u8 (k:Int))) B ⟨k,g.p,g.v,g.ok,g.u⟩:=by
 have h0:=heap_setCell_same (k:=0) (.int .u8 (k:Int)) h
 simpa [GtAt] using h0
theorem serve_end {w w3 w4:World} {F:Nat->Prop} {C m:Nat} {cl:Bool} {buf:List Int} {S R:List Wt} (hs:w.heap.size<w3.heap.size) (hb:Below w.heap.size w w3)
  (hc:Chn w4 (Fw (Fl F w) w3) C m cl buf S R) (hF:Frm (Fl F w) w3 w4) (g0 g:Gt) (k:Nat) :
  Chn (put7 ((put7 w4 w.heap.size g0).setCell ⟨w.heap.size,0,none⟩ (.int .u8 (k:Int))) w.heap.size g) (Fw F w) C m cl buf S R/\Frm F w (put7 ((put7 w4 w.heap.size g0).setCell ⟨w.heap.size,0,none⟩ (.int .u8 (k:Int))) w.heap.size g):=by
 have hn : ¬ Fw (Fl F w) w3 w.heap.size:=fun h=>h.elim (fun h=>by have:=h.2;omega) (fun h=>by omega)
 refine ⟨(((hc.put7 hn g0).off hn 0 _).put7 hn g).mono ?_,((((Frm.old hb (hF.mono (fun k e=>e.1))).put7 (Nat.le_refl _) g0).next (Frm.set _ _ (.inr (Nat.le_refl _)))).put7 (Nat.le_refl _) g)⟩
 rintro k (h | h)
 ·exact .inl h.1
 ·exact .inr (by omega)
theorem serve_hand {F:Nat->Prop} {C m:Nat} {cl:Bool} {buf:List Int} {S t:List Wt} {x:Wt} (val:Int) (w:World) (h:Chn w F C m cl buf S (x::t)) (hlS:(S:List Wt).length<=1000) (hlR:((x::t):List Wt).length<=1000) (hcl:cl=false) :
  Calls Tryz.prog 100 #[.pointer (some ⟨C,0,none⟩),.bool true,.int .i64 val] w fun e w'=>e=.returned (.tuple #[Gt.val ⟨2,x,val,true,0⟩,.int .i64 0])/\Chn w' (Fw F w) C m cl buf S t/\Frm F w w':=by
 obtain ⟨wa,hwa⟩:∃ wa,wa=w.alloc (.cells #[.int .u8 0,.int .i64 0,.int .i64 0,.int .i64 0,.int .i64 0,.bool false,.int .i64 0] 184):=⟨_,rfl⟩
 have hba:Below w.heap.size w wa:=by rw [hwa];exact below1 w _
 have hg:GtAt wa w.heap.size .zero:=by rw [hwa];exact gtAt_new w .zero
 have hs:=hg.lt
 have ha:=h.fl.below hba
 have hw:Calls Tryz.prog 140 #[.pointer (some ⟨C,0,none⟩),.bool true] wa fun e w'=>e=.returned (.int .u8 2)/\Below wa.heap.size wa w':=by
  obtain ⟨B,v0,v1,hat,-⟩:=ha.at
  have:=what_any true wa hat hlS hlR
  rwa [show whatK cl m buf S (x::t) true=2 from by simp [whatK,toSendK,hcl]] at this
 clear hcl
 go_enter Tryz.func100,Tryz.ntmps100
 go_wp2_with fail
 rw [<- hwa]
 clear hwa
 refine hw.mono ?_
 clear hw
 rintro e w1 ⟨rfl,hb1⟩
 go_wp2_with fail
 refine (deeds_any C w1).mono ?_
 rintro e w2 ⟨rfl,hM,hb2⟩
 have hlook:(Instr.lookup 233 (.map (some w1.heap.size)) (.int .u8 2) true).run Tryz.prog w2=.ok (.tuple #[.agg #[(.func (.func 156) #[.pointer (some ⟨C,0,none⟩)] #[]),(.func (.func 157) #[.pointer (some ⟨C,0,none⟩)] #[])],.bool true]) w2:=hM.look (k:=2) (by omega)
 obtain ⟨w3,hw3⟩:∃ w3,w3=w2.alloc (.cells #[(.func (.func 156) #[.pointer (some ⟨C,0,none⟩)] #[]),(.func (.func 157) #[.pointer (some ⟨C,0,none⟩)] #[])] 231):=⟨_,rfl⟩
 have hb3:Below wa.heap.size wa w3:=by rw [hw3];exact Below.al (below_nx hb1 hb2 (Nat.le_refl _)) (below_nx hb1 hb2 (Nat.le_refl _)).size _
 have h3:=ha.below hb3
 have hg3:=hg.below hb3
 have hbw:=below_nx hba hb3 (Nat.le_refl _)
 have hs3:w.heap.size<w3.heap.size:=hg3.lt
 clear hb1 hb2 hM
 have hd:=hand_any val w3 h3 hlR
 have HQ:∀ (e:Ending) (w':World),(e=.returned (Gt.val ⟨0,x,val,true,0⟩)/\Chn w' (Fw (Fl F w) w3) C m cl buf S t/\Frm (Fl F w) w3 w')->e=.returned (.agg #[.int .u8 0,.int .i64 x.t,.int .i64 x.c,.int .i64 x.v,.int .i64 val,.bool true,.int .i64 0])/\Hid (Chn w' (Fw (Fl F w) w3) C m cl buf S t)/\Frm (Fl F w) w3 w':=fun _ _ ⟨h1,h2,h3⟩=>⟨h1,Lib.hid h2,h3⟩
 have hd2:=hd.mono HQ
 rw [hw3] at hg3
 clear hd HQ h ha h3
 go_wp2_with fail
 rw [<- hw3] at hg3 ⊢
 refine hd2.mono ?_
 clear hd2
 rintro e w4 ⟨rfl,hc4,hF4⟩
 have k2:GtAt w4 w.heap.size .zero:=hg3.of_block (hF4.block _ hg3.lt (fun e=>by have:=e.2;omega))
 have HE:=Lib.hid (serve_end hs3 hbw hc4.out hF4 ⟨0,x,val,true,0⟩ ⟨2,x,val,true,0⟩ 2)
 have z0:=k2.frozen 0
 have y0:=k2.c0
 have z1:=k2.frozen 1
 have y1:=k2.c1
 have z2:=k2.frozen 2
 have y2:=k2.c2
 have z3:=k2.frozen 3
 have y3:=k2.c3
 have z4:=k2.frozen 4
 have y4:=k2.c4
 have z5:=k2.frozen 5
 have y5:=k2.c5
 have z6:=k2.frozen 6
 have y6:=k2.c6
 have k5:=k2.put7 ⟨0,x,val,true,0⟩
 clear k2 hc4 hF4 hg3 hw3 hlook
 go_upto_region 10 with fail
 change Code.wp _ _ _ _ (put7 w4 w.heap.size ⟨0,x,val,true,0⟩)
 generalize put7 w4 w.heap.size ⟨0,x,val,true,0⟩=W5 at k5 HE ⊢
 clear z0 z1 z2 z3 z4 z5 z6 y0 y1 y2 y3 y4 y5 y6
 have e0:W5.cell? ⟨w.heap.size,0,none⟩=some (.int .u8 0):=k5.c0
 have e1:W5.cell? ⟨w.heap.size,1,none⟩=some (.int .i64 x.t):=k5.c1
 have e2:W5.cell? ⟨w.heap.size,2,none⟩=some (.int .i64 x.c):=k5.c2
 have e3:W5.cell? ⟨w.heap.size,3,none⟩=some (.int .i64 x.v):=k5.c3
 have e4:W5.cell? ⟨w.heap.size,4,none⟩=some (.int .i64 val):=k5.c4
 have e5:W5.cell? ⟨w.heap.size,5,none⟩=some (.bool true):=k5.c5
 have e6:W5.cell? ⟨w.heap.size,6,none⟩=some (.int .i64 0):=k5.c6
 have f0:W5.frozen? ⟨w.heap.size,0,none⟩=false:=k5.frozen 0
 have f1:W5.frozen? ⟨w.heap.size,1,none⟩=false:=k5.frozen 1
 have f2:W5.frozen? ⟨w.heap.size,2,none⟩=false:=k5.frozen 2
 have f3:W5.frozen? ⟨w.heap.size,3,none⟩=false:=k5.frozen 3
 have f4:W5.frozen? ⟨w.heap.size,4,none⟩=false:=k5.frozen 4
 have f5:W5.frozen? ⟨w.heap.size,5,none⟩=false:=k5.frozen 5
 have f6:W5.frozen? ⟨w.heap.size,6,none⟩=false:=k5.frozen 6
 have k6:=k5.kind 2
 go_upto_region 11 with fail
 change Code.wp _ _ _ _ (W5.setCell ⟨w.heap.size,0,none⟩ (.int .u8 ((2:Nat):Int)))
 generalize W5.setCell ⟨w.heap.size,0,none⟩ (.int .u8 ((2:Nat):Int))=W6 at k6 HE ⊢
 clear k5 e0 e1 e2 e3 e4 e5 e6 f0 f1 f2 f3 f4 f5 f6
 have e0:W6.cell? ⟨w.heap.size,0,none⟩=some (.int .u8 2):=k6.c0
 have e1:W6.cell? ⟨w.heap.size,1,none⟩=some (.int .i64 x.t):=k6.c1
 have e2:W6.cell? ⟨w.heap.size,2,none⟩=some (.int .i64 x.c):=k6.c2
 have e3:W6.cell? ⟨w.heap.size,3,none⟩=some (.int .i64 x.v):=k6.c3
 have e4:W6.cell? ⟨w.heap.size,4,none⟩=some (.int .i64 val):=k6.c4
 have e5:W6.cell? ⟨w.heap.size,5,none⟩=some (.bool true):=k6.c5
 have e6:W6.cell? ⟨w.heap.size,6,none⟩=some (.int .i64 0):=k6.c6
 have f0:W6.frozen? ⟨w.heap.size,0,none⟩=false:=k6.frozen 0
 have f1:W6.frozen? ⟨w.heap.size,1,none⟩=false:=k6.frozen 1
 have f2:W6.frozen? ⟨w.heap.size,2,none⟩=false:=k6.frozen 2
 have f3:W6.frozen? ⟨w.heap.size,3,none⟩=false:=k6.frozen 3
 have f4:W6.frozen? ⟨w.heap.size,4,none⟩=false:=k6.frozen 4
 have f5:W6.frozen? ⟨w.heap.size,5,none⟩=false:=k6.frozen 5
 have f6:W6.frozen? ⟨w.heap.size,6,none⟩=false:=k6.frozen 6
 have k7:=k6.put7 ⟨2,x,val,true,0⟩
 go_wp2_with fail
 change bodyPost _ _ _ _ _ (put7 W6 w.heap.size ⟨2,x,val,true,0⟩)
 generalize put7 W6 w.heap.size ⟨2,x,val,true,0⟩=W7 at k7 HE ⊢
 clear k6 e0 e1 e2 e3 e4 e5 e6 f0 f1 f2 f3 f4 f5 f6
 have e0:W7.cell? ⟨w.heap.size,0,none⟩=some (.int .u8 2):=k7.c0
 have e1:W7.cell? ⟨w.heap.size,1,none⟩=some (.int .i64 x.t):=k7.c1
 have e2:W7.cell? ⟨w.heap.size,2,none⟩=some (.int .i64 x.c):=k7.c2
 have e3:W7.cell? ⟨w.heap.size,3,none⟩=some (.int .i64 x.v):=k7.c3
 have e4:W7.cell? ⟨w.heap.size,4,none⟩=some (.int .i64 val):=k7.c4
 have e5:W7.cell? ⟨w.heap.size,5,none⟩=some (.bool true):=k7.c5
 have e6:W7.cell? ⟨w.heap.size,6,none⟩=some (.int .i64 0):=k7.c6
 refine bodyPost_ret (v:=.tuple #[Gt.val ⟨2,x,val,true,0⟩,.int .i64 0]) (by simp [results,Gt.val,Tryz.f100,go_sem,e0,e1,e2,e3,e4,e5,e6]) rfl ?_
 exact ⟨rfl,HE.out.1,HE.out.2⟩
theorem serve_put {F:Nat->Prop} {C m:Nat} {cl:Bool} {buf:List Int} {S:List Wt} (val:Int) (w:World) (h:Chn w F C m cl buf S []) (hlS:(S:List Wt).length<=1000) (hlR:([]:List Wt).length<=1000) (hcl:cl=false) (hlt:buf.length<m) :
  Calls Tryz.prog 100 #[.pointer (some ⟨C,0,none⟩),.bool true,.int .i64 val] w fun e w'=>e=.returned (.tuple #[Gt.val ⟨3,.zero,val,true,0⟩,.int .i64 0])/\Chn w' (Fw F w) C m cl (putL m buf val) S []/\Frm F w w':=by
 obtain ⟨wa,hwa⟩:∃ wa,wa=w.alloc (.cells #[.int .u8 0,.int .i64 0,.int .i64 0,.int .i64 0,.int .i64 0,.bool false,.int .i64 0] 184):=⟨_,rfl⟩
 have hba:Below w.heap.size w wa:=by rw [hwa];exact below1 w _
 have hg:GtAt wa w.heap.size .zero:=by rw [hwa];exact gtAt_new w .zero
 have hs:=hg.lt
 have ha:=h.fl.below hba
 have hw:Calls Tryz.prog 140 #[.pointer (some ⟨C,0,none⟩),.bool true] wa fun e w'=>e=.returned (.int .u8 3)/\Below wa.heap.size wa w':=by
  obtain ⟨B,v0,v1,hat,-⟩:=ha.at
  have:=what_any true wa hat hlS hlR
  rwa [show whatK cl m buf S [] true=3 from by simp [whatK,toSendK,hcl,hlt]] at this
 clear hcl hlt
 go_enter Tryz.func100,Tryz.ntmps100
 go_wp2_with fail
 rw [<- hwa]
 clear hwa
 refine hw.mono ?_
 clear hw
 rintro e w1 ⟨rfl,hb1⟩
 go_wp2_with fail
 refine (deeds_any C w1).mono ?_
 rintro e w2 ⟨rfl,hM,hb2⟩
 have hlook:(Instr.lookup 233 (.map (some w1.heap.size)) (.int .u8 3) true).run Tryz.prog w2=.ok (.tuple #[.agg #[(.func (.func 158) #[.pointer (some ⟨C,0,none⟩)] #[]),(.func (.func 159) #[.pointer (some ⟨C,0,none⟩)] #[])],.bool true]) w2:=hM.look (k:=3) (by omega)
 obtain ⟨w3,hw3⟩:∃ w3,w3=w2.alloc (.cells #[(.func (.func 158) #[.pointer (some ⟨C,0,none⟩)] #[]),(.func (.func 159) #[.pointer (some ⟨C,0,none⟩)] #[])] 231):=⟨_,rfl⟩
 have hb3:Below wa.heap.size wa w3:=by rw [hw3];exact Below.al (below_nx hb1 hb2 (Nat.le_refl _)) (below_nx hb1 hb2 (Nat.le_refl _)).size _
 have h3:=ha.below hb3
 have hg3:=hg.below hb3
 have hbw:=below_nx hba hb3 (Nat.le_refl _)
 have hs3:w.heap.size<w3.heap.size:=hg3.lt
 clear hb1 hb2 hM
 have hd:=put_deed val w3 h3
 have HQ:∀ (e:Ending) (w':World),(e=.returned (Gt.val ⟨0,.zero,val,true,0⟩)/\Chn w' (Fw (Fl F w) w3) C m cl (putL m buf val) S []/\Frm (Fl F w) w3 w')->e=.returned (.agg #[.int .u8 0,.int .i64 0,.int .i64 0,.int .i64 0,.int .i64 val,.bool true,.int .i64 0])/\Hid (Chn w' (Fw (Fl F w) w3) C m cl (putL m buf val) S [])/\Frm (Fl F w) w3 w':=fun _ _ ⟨h1,h2,h3⟩=>⟨h1,Lib.hid h2,h3⟩
 have hd2:=hd.mono HQ
 rw [hw3] at hg3
 clear hd HQ h ha h3
 go_wp2_with fail
 rw [<- hw3] at hg3 ⊢
 refine hd2.mono ?_
 clear hd2
 rintro e w4 ⟨rfl,hc4,hF4⟩
 have k2:GtAt w4 w.heap.size .zero:=hg3.of_block (hF4.block _ hg3.lt (fun e=>by have:=e.2;omega))
 have HE:=Lib.hid (serve_end hs3 hbw hc4.out hF4 ⟨0,.zero,val,true,0⟩ ⟨3,.zero,val,true,0⟩ 3)
 have z0:=k2.frozen 0
 have y0:=k2.c0
 have z1:=k2.frozen 1
 have y1:=k2.c1
 have z2:=k2.frozen 2
 have y2:=k2.c2
 have z3:=k2.frozen 3
 have y3:=k2.c3
 have z4:=k2.frozen 4
 have y4:=k2.c4
 have z5:=k2.frozen 5
 have y5:=k2.c5
 have z6:=k2.frozen 6
 have y6:=k2.c6
 have k5:=k2.put7 ⟨0,.zero,val,true,0⟩
 clear k2 hc4 hF4 hg3 hw3 hlook
 go_upto_region 10 with fail
 change Code.wp _ _ _ _ (put7 w4 w.heap.size ⟨0,.zero,val,true,0⟩)
 generalize put7 w4 w.heap.size ⟨0,.zero,val,true,0⟩=W5 at k5 HE ⊢
 clear z0 z1 z2 z3 z4 z5 z6 y0 y1 y2 y3 y4 y5 y6
 have e0:W5.cell? ⟨w.heap.size,0,none⟩=some (.int .u8 0):=k5.c0
 have e1:W5.cell? ⟨w.heap.size,1,none⟩=some (.int .i64 0):=k5.c1
 have e2:W5.cell? ⟨w.heap.size,2,none⟩=some (.int .i64 0):=k5.c2
 have e3:W5.cell? ⟨w.heap.size,3,none⟩=some (.int .i64 0):=k5.c3
 have e4:W5.cell? ⟨w.heap.size,4,none⟩=some (.int .i64 val):=k5.c4
 have e5:W5.cell? ⟨w.heap.size,5,none⟩=some (.bool true):=k5.c5
 have e6:W5.cell? ⟨w.heap.size,6,none⟩=some (.int .i64 0):=k5.c6
 have f0:W5.frozen? ⟨w.heap.size,0,none⟩=false:=k5.frozen 0
 have f1:W5.frozen? ⟨w.heap.size,1,none⟩=false:=k5.frozen 1
 have f2:W5.frozen? ⟨w.heap.size,2,none⟩=false:=k5.frozen 2
 have f3:W5.frozen? ⟨w.heap.size,3,none⟩=false:=k5.frozen 3
 have f4:W5.frozen? ⟨w.heap.size,4,none⟩=false:=k5.frozen 4
 have f5:W5.frozen? ⟨w.heap.size,5,none⟩=false:=k5.frozen 5
 have f6:W5.frozen? ⟨w.heap.size,6,none⟩=false:=k5.frozen 6
 have k6:=k5.kind 3
 go_upto_region 11 with fail
 change Code.wp _ _ _ _ (W5.setCell ⟨w.heap.size,0,none⟩ (.int .u8 ((3:Nat):Int)))
 generalize W5.setCell ⟨w.heap.size,0,none⟩ (.int .u8 ((3:Nat):Int))=W6 at k6 HE ⊢
 clear k5 e0 e1 e2 e3 e4 e5 e6 f0 f1 f2 f3 f4 f5 f6
 have e0:W6.cell? ⟨w.heap.size,0,none⟩=some (.int .u8 3):=k6.c0
 have e1:W6.cell? ⟨w.heap.size,1,none⟩=some (.int .i64 0):=k6.c1
 have e2:W6.cell? ⟨w.heap.size,2,none⟩=some (.int .i64 0):=k6.c2
 have e3:W6.cell? ⟨w.heap.size,3,none⟩=some (.int .i64 0):=k6.c3
 have e4:W6.cell? ⟨w.heap.size,4,none⟩=some (.int .i64 val):=k6.c4
 have e5:W6.cell? ⟨w.heap.size,5,none⟩=some (.bool true):=k6.c5
 have e6:W6.cell? ⟨w.heap.size,6,none⟩=some (.int .i64 0):=k6.c6
 have f0:W6.frozen? ⟨w.heap.size,0,none⟩=false:=k6.frozen 0
 have f1:W6.frozen? ⟨w.heap.size,1,none⟩=false:=k6.frozen 1
 have f2:W6.frozen? ⟨w.heap.size,2,none⟩=false:=k6.frozen 2
 have f3:W6.frozen? ⟨w.heap.size,3,none⟩=false:=k6.frozen 3
 have f4:W6.frozen? ⟨w.heap.size,4,none⟩=false:=k6.frozen 4
 have f5:W6.frozen? ⟨w.heap.size,5,none⟩=false:=k6.frozen 5
 have f6:W6.frozen? ⟨w.heap.size,6,none⟩=false:=k6.frozen 6
 have k7:=k6.put7 ⟨3,.zero,val,true,0⟩
 go_wp2_with fail
 change bodyPost _ _ _ _ _ (put7 W6 w.heap.size ⟨3,.zero,val,true,0⟩)
 generalize put7 W6 w.heap.size ⟨3,.zero,val,true,0⟩=W7 at k7 HE ⊢
 clear k6 e0 e1 e2 e3 e4 e5 e6 f0 f1 f2 f3 f4 f5 f6
 have e0:W7.cell? ⟨w.heap.size,0,none⟩=some (.int .u8 3):=k7.c0
 have e1:W7.cell? ⟨w.heap.size,1,none⟩=some (.int .i64 0):=k7.c1
 have e2:W7.cell? ⟨w.heap.size,2,none⟩=some (.int .i64 0):=k7.c2
 have e3:W7.cell? ⟨w.heap.size,3,none⟩=some (.int .i64 0):=k7.c3
 have e4:W7.cell? ⟨w.heap.size,4,none⟩=some (.int .i64 val):=k7.c4
 have e5:W7.cell? ⟨w.heap.size,5,none⟩=some (.bool true):=k7.c5
 have e6:W7.cell? ⟨w.heap.size,6,none⟩=some (.int .i64 0):=k7.c6
 refine bodyPost_ret (v:=.tuple #[Gt.val ⟨3,.zero,val,true,0⟩,.int .i64 0]) (by simp [results,Gt.val,Wt.zero,Tryz.f100,go_sem,e0,e1,e2,e3,e4,e5,e6]) rfl ?_
 exact ⟨rfl,HE.out.1,HE.out.2⟩
theorem serve_fetch {F:Nat->Prop} {C m:Nat} {cl:Bool} {buf:List Int} {t R:List Wt} {x:Wt} (val:Int) (w:World) (h:Chn w F C m cl buf (x::t) R) (hlS:((x::t):List Wt).length<=1000) (hlR:(R:List Wt).length<=1000) (hm:m=0) :
  Calls Tryz.prog 100 #[.pointer (some ⟨C,0,none⟩),.bool false,.int .i64 val] w fun e w'=>e=.returned (.tuple #[Gt.val ⟨2,x,x.v,true,0⟩,.int .i64 0])/\Chn w' (Fw F w) C m cl buf t R/\Frm F w w':=by
 obtain ⟨wa,hwa⟩:∃ wa,wa=w.alloc (.cells #[.int .u8 0,.int .i64 0,.int .i64 0,.int .i64 0,.int .i64 0,.bool false,.int .i64 0] 184):=⟨_,rfl⟩
 have hba:Below w.heap.size w wa:=by rw [hwa];exact below1 w _
 have hg:GtAt wa w.heap.size .zero:=by rw [hwa];exact gtAt_new w .zero
 have hs:=hg.lt
 have ha:=h.fl.below hba
 have hw:Calls Tryz.prog 140 #[.pointer (some ⟨C,0,none⟩),.bool false] wa fun e w'=>e=.returned (.int .u8 2)/\Below wa.heap.size wa w':=by
  obtain ⟨B,v0,v1,hat,-⟩:=ha.at
  have:=what_any false wa hat hlS hlR
  rwa [show whatK cl m buf (x::t) R false=2 from by simp [whatK,toRecvK,hm]] at this
 clear hm
 go_enter Tryz.func100,Tryz.ntmps100
 go_wp2_with fail
 rw [<- hwa]
 clear hwa
 refine hw.mono ?_
 clear hw
 rintro e w1 ⟨rfl,hb1⟩
 go_wp2_with fail
 refine (deeds_any C w1).mono ?_
 rintro e w2 ⟨rfl,hM,hb2⟩
 have hlook:(Instr.lookup 233 (.map (some w1.heap.size)) (.int .u8 2) true).run Tryz.prog w2=.ok (.tuple #[.agg #[(.func (.func 156) #[.pointer (some ⟨C,0,none⟩)] #[]),(.func (.func 157) #[.pointer (some ⟨C,0,none⟩)] #[])],.bool true]) w2:=hM.look (k:=2) (by omega)
 obtain ⟨w3,hw3⟩:∃ w3,w3=w2.alloc (.cells #[(.func (.func 156) #[.pointer (some ⟨C,0,none⟩)] #[]),(.func (.func 157) #[.pointer (some ⟨C,0,none⟩)] #[])] 231):=⟨_,rfl⟩
 have hb3:Below wa.heap.size wa w3:=by rw [hw3];exact Below.al (below_nx hb1 hb2 (Nat.le_refl _)) (below_nx hb1 hb2 (Nat.le_refl _)).size _
 have h3:=ha.below hb3
 have hg3:=hg.below hb3
 have hbw:=below_nx hba hb3 (Nat.le_refl _)
 have hs3:w.heap.size<w3.heap.size:=hg3.lt
 clear hb1 hb2 hM
 have hd:=fetch_any w3 h3 hlS
 have HQ:∀ (e:Ending) (w':World),(e=.returned (Gt.val ⟨0,x,x.v,true,0⟩)/\Chn w' (Fw (Fl F w) w3) C m cl buf t R/\Frm (Fl F w) w3 w')->e=.returned (.agg #[.int .u8 0,.int .i64 x.t,.int .i64 x.c,.int .i64 x.v,.int .i64 x.v,.bool true,.int .i64 0])/\Hid (Chn w' (Fw (Fl F w) w3) C m cl buf t R)/\Frm (Fl F w) w3 w':=fun _ _ ⟨h1,h2,h3⟩=>⟨h1,Lib.hid h2,h3⟩
 have hd2:=hd.mono HQ
 rw [hw3] at hg3
 clear hd HQ h ha h3
 go_wp2_with fail
 rw [<- hw3] at hg3 ⊢
 refine hd2.mono ?_
 clear hd2
 rintro e w4 ⟨rfl,hc4,hF4⟩
 have k2:GtAt w4 w.heap.size .zero:=hg3.of_block (hF4.block _ hg3.lt (fun e=>by have:=e.2;omega))
 have HE:=Lib.hid (serve_end hs3 hbw hc4.out hF4 ⟨0,x,x.v,true,0⟩ ⟨2,x,x.v,true,0⟩ 2)
 have z0:=k2.frozen 0
 have y0:=k2.c0
 have z1:=k2.frozen 1
 have y1:=k2.c1
 have z2:=k2.frozen 2
 have y2:=k2.c2
 have z3:=k2.frozen 3
 have y3:=k2.c3
 have z4:=k2.frozen 4
 have y4:=k2.c4
 have z5:=k2.frozen 5
 have y5:=k2.c5
 have z6:=k2.frozen 6
 have y6:=k2.c6
 have k5:=k2.put7 ⟨0,x,x.v,true,0⟩
 clear k2 hc4 hF4 hg3 hw3 hlook
 go_upto_region 10 with fail
 change Code.wp _ _ _ _ (put7 w4 w.heap.size ⟨0,x,x.v,true,0⟩)
 generalize put7 w4 w.heap.size ⟨0,x,x.v,true,0⟩=W5 at k5 HE ⊢
 clear z0 z1 z2 z3 z4 z5 z6 y0 y1 y2 y3 y4 y5 y6
 have e0:W5.cell? ⟨w.heap.size,0,none⟩=some (.int .u8 0):=k5.c0
 have e1:W5.cell? ⟨w.heap.size,1,none⟩=some (.int .i64 x.t):=k5.c1
 have e2:W5.cell? ⟨w.heap.size,2,none⟩=some (.int .i64 x.c):=k5.c2
 have e3:W5.cell? ⟨w.heap.size,3,none⟩=some (.int .i64 x.v):=k5.c3
 have e4:W5.cell? ⟨w.heap.size,4,none⟩=some (.int .i64 x.v):=k5.c4
 have e5:W5.cell? ⟨w.heap.size,5,none⟩=some (.bool true):=k5.c5
 have e6:W5.cell? ⟨w.heap.size,6,none⟩=some (.int .i64 0):=k5.c6
 have f0:W5.frozen? ⟨w.heap.size,0,none⟩=false:=k5.frozen 0
 have f1:W5.frozen? ⟨w.heap.size,1,none⟩=false:=k5.frozen 1
 have f2:W5.frozen? ⟨w.heap.size,2,none⟩=false:=k5.frozen 2
 have f3:W5.frozen? ⟨w.heap.size,3,none⟩=false:=k5.frozen 3
 have f4:W5.frozen? ⟨w.heap.size,4,none⟩=false:=k5.frozen 4
 have f5:W5.frozen? ⟨w.heap.size,5,none⟩=false:=k5.frozen 5
 have f6:W5.frozen? ⟨w.heap.size,6,none⟩=false:=k5.frozen 6
 have k6:=k5.kind 2
 go_upto_region 11 with fail
 change Code.wp _ _ _ _ (W5.setCell ⟨w.heap.size,0,none⟩ (.int .u8 ((2:Nat):Int)))
 generalize W5.setCell ⟨w.heap.size,0,none⟩ (.int .u8 ((2:Nat):Int))=W6 at k6 HE ⊢
 clear k5 e0 e1 e2 e3 e4 e5 e6 f0 f1 f2 f3 f4 f5 f6
 have e0:W6.cell? ⟨w.heap.size,0,none⟩=some (.int .u8 2):=k6.c0
 have e1:W6.cell? ⟨w.heap.size,1,none⟩=some (.int .i64 x.t):=k6.c1
 have e2:W6.cell? ⟨w.heap.size,2,none⟩=some (.int .i64 x.c):=k6.c2
 have e3:W6.cell? ⟨w.heap.size,3,none⟩=some (.int .i64 x.v):=k6.c3
 have e4:W6.cell? ⟨w.heap.size,4,none⟩=some (.int .i64 x.v):=k6.c4
 have e5:W6.cell? ⟨w.heap.size,5,none⟩=some (.bool true):=k6.c5
 have e6:W6.cell? ⟨w.heap.size,6,none⟩=some (.int .i64 0):=k6.c6
 have f0:W6.frozen? ⟨w.heap.size,0,none⟩=false:=k6.frozen 0
 have f1:W6.frozen? ⟨w.heap.size,1,none⟩=false:=k6.frozen 1
 have f2:W6.frozen? ⟨w.heap.size,2,none⟩=false:=k6.frozen 2
 have f3:W6.frozen? ⟨w.heap.size,3,none⟩=false:=k6.frozen 3
 have f4:W6.frozen? ⟨w.heap.size,4,none⟩=false:=k6.frozen 4
 have f5:W6.frozen? ⟨w.heap.size,5,none⟩=false:=k6.frozen 5
 have f6:W6.frozen? ⟨w.heap.size,6,none⟩=false:=k6.frozen 6
 have k7:=k6.put7 ⟨2,x,x.v,true,0⟩
 go_wp2_with fail
 change bodyPost _ _ _ _ _ (put7 W6 w.heap.size ⟨2,x,x.v,true,0⟩)
 generalize put7 W6 w.heap.size ⟨2,x,x.v,true,0⟩=W7 at k7 HE ⊢
 clear k6 e0 e1 e2 e3 e4 e5 e6 f0 f1 f2 f3 f4 f5 f6
 have e0:W7.cell? ⟨w.heap.size,0,none⟩=some (.int .u8 2):=k7.c0
 have e1:W7.cell? ⟨w.heap.size,1,none⟩=some (.int .i64 x.t):=k7.c1
 have e2:W7.cell? ⟨w.heap.size,2,none⟩=some (.int .i64 x.c):=k7.c2
 have e3:W7.cell? ⟨w.heap.size,3,none⟩=some (.int .i64 x.v):=k7.c3
 have e4:W7.cell? ⟨w.heap.size,4,none⟩=some (.int .i64 x.v):=k7.c4
 have e5:W7.cell? ⟨w.heap.size,5,none⟩=some (.bool true):=k7.c5
 have e6:W7.cell? ⟨w.heap.size,6,none⟩=some (.int .i64 0):=k7.c6
 refine bodyPost_ret (v:=.tuple #[Gt.val ⟨2,x,x.v,true,0⟩,.int .i64 0]) (by simp [results,Gt.val,Tryz.f100,go_sem,e0,e1,e2,e3,e4,e5,e6]) rfl ?_
 exact ⟨rfl,HE.out.1,HE.out.2⟩
theorem serve_refill {F:Nat->Prop} {C m:Nat} {cl:Bool} {buf:List Int} {t R:List Wt} {x:Wt} (val:Int) (w:World) (h:Chn w F C m cl buf (x::t) R) (hlS:((x::t):List Wt).length<=1000) (hlR:(R:List Wt).length<=1000) (hm:m ≠ 0) {y:Int} (hy:buf.head?.getD 0=y) :
  Calls Tryz.prog 100 #[.pointer (some ⟨C,0,none⟩),.bool false,.int .i64 val] w fun e w'=>e=.returned (.tuple #[Gt.val ⟨4,x,y,true,x.v⟩,.int .i64 0])/\Chn w' (Fw F w) C m cl (putL m buf.tail x.v) t R/\Frm F w w':=by
 obtain ⟨wa,hwa⟩:∃ wa,wa=w.alloc (.cells #[.int .u8 0,.int .i64 0,.int .i64 0,.int .i64 0,.int .i64 0,.bool false,.int .i64 0] 184):=⟨_,rfl⟩
 have hba:Below w.heap.size w wa:=by rw [hwa];exact below1 w _
 have hg:GtAt wa w.heap.size .zero:=by rw [hwa];exact gtAt_new w .zero
 have hs:=hg.lt
 have ha:=h.fl.below hba
 have hw:Calls Tryz.prog 140 #[.pointer (some ⟨C,0,none⟩),.bool false] wa fun e w'=>e=.returned (.int .u8 4)/\Below wa.heap.size wa w':=by
  obtain ⟨B,v0,v1,hat,-⟩:=ha.at
  have:=what_any false wa hat hlS hlR
  rwa [show whatK cl m buf (x::t) R false=4 from by simp [whatK,toRecvK,hm]] at this
 have HY:=Lib.hid hy
 clear hm hy
 go_enter Tryz.func100,Tryz.ntmps100
 go_wp2_with fail
 rw [<- hwa]
 clear hwa
 refine hw.mono ?_
 clear hw
 rintro e w1 ⟨rfl,hb1⟩
 go_wp2_with fail
 refine (deeds_any C w1).mono ?_
 rintro e w2 ⟨rfl,hM,hb2⟩
 have hlook:(Instr.lookup 233 (.map (some w1.heap.size)) (.int .u8 4) true).run Tryz.prog w2=.ok (.tuple #[.agg #[.nilFunc,(.func (.func 160) #[.pointer (some ⟨C,0,none⟩)] #[])],.bool true]) w2:=hM.look (k:=4) (by omega)
 obtain ⟨w3,hw3⟩:∃ w3,w3=w2.alloc (.cells #[.nilFunc,(.func (.func 160) #[.pointer (some ⟨C,0,none⟩)] #[])] 231):=⟨_,rfl⟩
 have hb3:Below wa.heap.size wa w3:=by rw [hw3];exact Below.al (below_nx hb1 hb2 (Nat.le_refl _)) (below_nx hb1 hb2 (Nat.le_refl _)).size _
 have h3:=ha.below hb3
 have hg3:=hg.below hb3
 have hbw:=below_nx hba hb3 (Nat.le_refl _)
 have hs3:w.heap.size<w3.heap.size:=hg3.lt
 clear hb1 hb2 hM
 have hd:=refill_deed w3 h3 hlS
 have HQ:∀ (e:Ending) (w':World),(e=.returned (Gt.val ⟨0,x,buf.head?.getD 0,true,x.v⟩)/\Chn w' (Fw (Fl F w) w3) C m cl (putL m buf.tail x.v) t R/\Frm (Fl F w) w3 w')->e=.returned (.agg #[.int .u8 0,.int .i64 x.t,.int .i64 x.c,.int .i64 x.v,.int .i64 y,.bool true,.int .i64 x.v])/\Hid (Chn w' (Fw (Fl F w) w3) C m cl (putL m buf.tail x.v) t R)/\Frm (Fl F w) w3 w':=fun _ _ ⟨h1,h2,h3⟩=>⟨by rw [h1,HY.out];rfl,Lib.hid h2,h3⟩
 have hd2:=hd.mono HQ
 rw [hw3] at hg3
 clear hd HQ h ha h3
 go_wp2_with fail
 rw [<- hw3] at hg3 ⊢
 refine hd2.mono ?_
 clear hd2
 rintro e w4 ⟨rfl,hc4,hF4⟩
 have k2:GtAt w4 w.heap.size .zero:=hg3.of_block (hF4.block _ hg3.lt (fun e=>by have:=e.2;omega))
 have HE:=Lib.hid (serve_end hs3 hbw hc4.out hF4 ⟨0,x,y,true,x.v⟩ ⟨4,x,y,true,x.v⟩ 4)
 have z0:=k2.frozen 0
 have y0:=k2.c0
 have z1:=k2.frozen 1
 have y1:=k2.c1
 have z2:=k2.frozen 2
 have y2:=k2.c2
 have z3:=k2.frozen 3
 have y3:=k2.c3
 have z4:=k2.frozen 4
 have y4:=k2.c4
 have z5:=k2.frozen 5
 have y5:=k2.c5
 have z6:=k2.frozen 6
 have y6:=k2.c6
 have k5:=k2.put7 ⟨0,x,y,true,x.v⟩
 clear k2 hc4 hF4 hg3 hw3 hlook
 go_upto_region 10 with fail
 change Code.wp _ _ _ _ (put7 w4 w.heap.size ⟨0,x,y,true,x.v⟩)
 generalize put7 w4 w.heap.size ⟨0,x,y,true,x.v⟩=W5 at k5 HE ⊢
 clear z0 z1 z2 z3 z4 z5 z6 y0 y1 y2 y3 y4 y5 y6
 have e0:W5.cell? ⟨w.heap.size,0,none⟩=some (.int .u8 0):=k5.c0
 have e1:W5.cell? ⟨w.heap.size,1,none⟩=some (.int .i64 x.t):=k5.c1
 have e2:W5.cell? ⟨w.heap.size,2,none⟩=some (.int .i64 x.c):=k5.c2
 have e3:W5.cell? ⟨w.heap.size,3,none⟩=some (.int .i64 x.v):=k5.c3
 have e4:W5.cell? ⟨w.heap.size,4,none⟩=some (.int .i64 y):=k5.c4
 have e5:W5.cell? ⟨w.heap.size,5,none⟩=some (.bool true):=k5.c5
 have e6:W5.cell? ⟨w.heap.size,6,none⟩=some (.int .i64 x.v):=k5.c6
 have f0:W5.frozen? ⟨w.heap.size,0,none⟩=false:=k5.frozen 0
 have f1:W5.frozen? ⟨w.heap.size,1,none⟩=false:=k5.frozen 1
 have f2:W5.frozen? ⟨w.heap.size,2,none⟩=false:=k5.frozen 2
 have f3:W5.frozen? ⟨w.heap.size,3,none⟩=false:=k5.frozen 3
 have f4:W5.frozen? ⟨w.heap.size,4,none⟩=false:=k5.frozen 4
 have f5:W5.frozen? ⟨w.heap.size,5,none⟩=false:=k5.frozen 5
 have f6:W5.frozen? ⟨w.heap.size,6,none⟩=false:=k5.frozen 6
 have k6:=k5.kind 4
 go_upto_region 11 with fail
 change Code.wp _ _ _ _ (W5.setCell ⟨w.heap.size,0,none⟩ (.int .u8 ((4:Nat):Int)))
 generalize W5.setCell ⟨w.heap.size,0,none⟩ (.int .u8 ((4:Nat):Int))=W6 at k6 HE ⊢
 clear k5 e0 e1 e2 e3 e4 e5 e6 f0 f1 f2 f3 f4 f5 f6
 have e0:W6.cell? ⟨w.heap.size,0,none⟩=some (.int .u8 4):=k6.c0
 have e1:W6.cell? ⟨w.heap.size,1,none⟩=some (.int .i64 x.t):=k6.c1
 have e2:W6.cell? ⟨w.heap.size,2,none⟩=some (.int .i64 x.c):=k6.c2
 have e3:W6.cell? ⟨w.heap.size,3,none⟩=some (.int .i64 x.v):=k6.c3
 have e4:W6.cell? ⟨w.heap.size,4,none⟩=some (.int .i64 y):=k6.c4
 have e5:W6.cell? ⟨w.heap.size,5,none⟩=some (.bool true):=k6.c5
 have e6:W6.cell? ⟨w.heap.size,6,none⟩=some (.int .i64 x.v):=k6.c6
 have f0:W6.frozen? ⟨w.heap.size,0,none⟩=false:=k6.frozen 0
 have f1:W6.frozen? ⟨w.heap.size,1,none⟩=false:=k6.frozen 1
 have f2:W6.frozen? ⟨w.heap.size,2,none⟩=false:=k6.frozen 2
 have f3:W6.frozen? ⟨w.heap.size,3,none⟩=false:=k6.frozen 3
 have f4:W6.frozen? ⟨w.heap.size,4,none⟩=false:=k6.frozen 4
 have f5:W6.frozen? ⟨w.heap.size,5,none⟩=false:=k6.frozen 5
 have f6:W6.frozen? ⟨w.heap.size,6,none⟩=false:=k6.frozen 6
 have k7:=k6.put7 ⟨4,x,y,true,x.v⟩
 go_wp2_with fail
 change bodyPost _ _ _ _ _ (put7 W6 w.heap.size ⟨4,x,y,true,x.v⟩)
 generalize put7 W6 w.heap.size ⟨4,x,y,true,x.v⟩=W7 at k7 HE ⊢
 clear k6 e0 e1 e2 e3 e4 e5 e6 f0 f1 f2 f3 f4 f5 f6
 have e0:W7.cell? ⟨w.heap.size,0,none⟩=some (.int .u8 4):=k7.c0
 have e1:W7.cell? ⟨w.heap.size,1,none⟩=some (.int .i64 x.t):=k7.c1
 have e2:W7.cell? ⟨w.heap.size,2,none⟩=some (.int .i64 x.c):=k7.c2
 have e3:W7.cell? ⟨w.heap.size,3,none⟩=some (.int .i64 x.v):=k7.c3
 have e4:W7.cell? ⟨w.heap.size,4,none⟩=some (.int .i64 y):=k7.c4
 have e5:W7.cell? ⟨w.heap.size,5,none⟩=some (.bool true):=k7.c5
 have e6:W7.cell? ⟨w.heap.size,6,none⟩=some (.int .i64 x.v):=k7.c6
 refine bodyPost_ret (v:=.tuple #[Gt.val ⟨4,x,y,true,x.v⟩,.int .i64 0]) (by simp [results,Gt.val,Tryz.f100,go_sem,e0,e1,e2,e3,e4,e5,e6]) rfl ?_
 exact ⟨rfl,HE.out.1,HE.out.2⟩
theorem serve_get {F:Nat->Prop} {C m:Nat} {cl:Bool} {buf:List Int} {R:List Wt} (val:Int) (w:World) (h:Chn w F C m cl buf [] R) (hlS:([]:List Wt).length<=1000) (hlR:(R:List Wt).length<=1000) (hne:buf ≠ []) {y:Int} (hy:buf.head?.getD 0=y) :
  Calls Tryz.prog 100 #[.pointer (some ⟨C,0,none⟩),.bool false,.int .i64 val] w fun e w'=>e=.returned (.tuple #[Gt.val ⟨3,.zero,y,true,0⟩,.int .i64 0])/\Chn w' (Fw F w) C m cl buf.tail [] R/\Frm F w w':=by
 obtain ⟨wa,hwa⟩:∃ wa,wa=w.alloc (.cells #[.int .u8 0,.int .i64 0,.int .i64 0,.int .i64 0,.int .i64 0,.bool false,.int .i64 0] 184):=⟨_,rfl⟩
 have hba:Below w.heap.size w wa:=by rw [hwa];exact below1 w _
 have hg:GtAt wa w.heap.size .zero:=by rw [hwa];exact gtAt_new w .zero
 have hs:=hg.lt
 have ha:=h.fl.below hba
 have hw:Calls Tryz.prog 140 #[.pointer (some ⟨C,0,none⟩),.bool false] wa fun e w'=>e=.returned (.int .u8 3)/\Below wa.heap.size wa w':=by
  obtain ⟨B,v0,v1,hat,-⟩:=ha.at
  have:=what_any false wa hat hlS hlR
  rwa [show whatK cl m buf [] R false=3 from by simp [whatK,toRecvK,hne]] at this
 have HY:=Lib.hid hy
 clear hne hy
 go_enter Tryz.func100,Tryz.ntmps100
 go_wp2_with fail
 rw [<- hwa]
 clear hwa
 refine hw.mono ?_
 clear hw
 rintro e w1 ⟨rfl,hb1⟩
 go_wp2_with fail
 refine (deeds_any C w1).mono ?_
 rintro e w2 ⟨rfl,hM,hb2⟩
 have hlook:(Instr.lookup 233 (.map (some w1.heap.size)) (.int .u8 3) true).run Tryz.prog w2=.ok (.tuple #[.agg #[(.func (.func 158) #[.pointer (some ⟨C,0,none⟩)] #[]),(.func (.func 159) #[.pointer (some ⟨C,0,none⟩)] #[])],.bool true]) w2:=hM.look (k:=3) (by omega)
 obtain ⟨w3,hw3⟩:∃ w3,w3=w2.alloc (.cells #[(.func (.func 158) #[.pointer (some ⟨C,0,none⟩)] #[]),(.func (.func 159) #[.pointer (some ⟨C,0,none⟩)] #[])] 231):=⟨_,rfl⟩
 have hb3:Below wa.heap.size wa w3:=by rw [hw3];exact Below.al (below_nx hb1 hb2 (Nat.le_refl _)) (below_nx hb1 hb2 (Nat.le_refl _)).size _
 have h3:=ha.below hb3
 have hg3:=hg.below hb3
 have hbw:=below_nx hba hb3 (Nat.le_refl _)
 have hs3:w.heap.size<w3.heap.size:=hg3.lt
 clear hb1 hb2 hM
 have hd:=get_deed w3 h3
 have HQ:∀ (e:Ending) (w':World),(e=.returned (Gt.val ⟨0,.zero,buf.head?.getD 0,true,0⟩)/\Chn w' (Fw (Fl F w) w3) C m cl buf.tail [] R/\Frm (Fl F w) w3 w')->e=.returned (.agg #[.int .u8 0,.int .i64 0,.int .i64 0,.int .i64 0,.int .i64 y,.bool true,.int .i64 0])/\Hid (Chn w' (Fw (Fl F w) w3) C m cl buf.tail [] R)/\Frm (Fl F w) w3 w':=fun _ _ ⟨h1,h2,h3⟩=>⟨by rw [h1,HY.out];rfl,Lib.hid h2,h3⟩
 have hd2:=hd.mono HQ
 rw [hw3] at hg3
 clear hd HQ h ha h3
 go_wp2_with fail
 rw [<- hw3] at hg3 ⊢
 refine hd2.mono ?_
 clear hd2
 rintro e w4 ⟨rfl,hc4,hF4⟩
 have k2:GtAt w4 w.heap.size .zero:=hg3.of_block (hF4.block _ hg3.lt (fun e=>by have:=e.2;omega))
 have HE:=Lib.hid (serve_end hs3 hbw hc4.out hF4 ⟨0,.zero,y,true,0⟩ ⟨3,.zero,y,true,0⟩ 3)
 have z0:=k2.frozen 0
 have y0:=k2.c0
 have z1:=k2.frozen 1
 have y1:=k2.c1
 have z2:=k2.frozen 2
 have y2:=k2.c2
 have z3:=k2.frozen 3
 have y3:=k2.c3
 have z4:=k2.frozen 4
 have y4:=k2.c4
 have z5:=k2.frozen 5
 have y5:=k2.c5
 have z6:=k2.frozen 6
 have y6:=k2.c6
 have k5:=k2.put7 ⟨0,.zero,y,true,0⟩
 clear k2 hc4 hF4 hg3 hw3 hlook
 go_upto_region 10 with fail
 change Code.wp _ _ _ _ (put7 w4 w.heap.size ⟨0,.zero,y,true,0⟩)
 generalize put7 w4 w.heap.size ⟨0,.zero,y,true,0⟩=W5 at k5 HE ⊢
 clear z0 z1 z2 z3 z4 z5 z6 y0 y1 y2 y3 y4 y5 y6
 have e0:W5.cell? ⟨w.heap.size,0,none⟩=some (.int .u8 0):=k5.c0
 have e1:W5.cell? ⟨w.heap.size,1,none⟩=some (.int .i64 0):=k5.c1
 have e2:W5.cell? ⟨w.heap.size,2,none⟩=some (.int .i64 0):=k5.c2
 have e3:W5.cell? ⟨w.heap.size,3,none⟩=some (.int .i64 0):=k5.c3
 have e4:W5.cell? ⟨w.heap.size,4,none⟩=some (.int .i64 y):=k5.c4
 have e5:W5.cell? ⟨w.heap.size,5,none⟩=some (.bool true):=k5.c5
 have e6:W5.cell? ⟨w.heap.size,6,none⟩=some (.int .i64 0):=k5.c6
 have f0:W5.frozen? ⟨w.heap.size,0,none⟩=false:=k5.frozen 0
 have f1:W5.frozen? ⟨w.heap.size,1,none⟩=false:=k5.frozen 1
 have f2:W5.frozen? ⟨w.heap.size,2,none⟩=false:=k5.frozen 2
 have f3:W5.frozen? ⟨w.heap.size,3,none⟩=false:=k5.frozen 3
 have f4:W5.frozen? ⟨w.heap.size,4,none⟩=false:=k5.frozen 4
 have f5:W5.frozen? ⟨w.heap.size,5,none⟩=false:=k5.frozen 5
 have f6:W5.frozen? ⟨w.heap.size,6,none⟩=false:=k5.frozen 6
 have k6:=k5.kind 3
 go_upto_region 11 with fail
 change Code.wp _ _ _ _ (W5.setCell ⟨w.heap.size,0,none⟩ (.int .u8 ((3:Nat):Int)))
 generalize W5.setCell ⟨w.heap.size,0,none⟩ (.int .u8 ((3:Nat):Int))=W6 at k6 HE ⊢
 clear k5 e0 e1 e2 e3 e4 e5 e6 f0 f1 f2 f3 f4 f5 f6
 have e0:W6.cell? ⟨w.heap.size,0,none⟩=some (.int .u8 3):=k6.c0
 have e1:W6.cell? ⟨w.heap.size,1,none⟩=some (.int .i64 0):=k6.c1
 have e2:W6.cell? ⟨w.heap.size,2,none⟩=some (.int .i64 0):=k6.c2
 have e3:W6.cell? ⟨w.heap.size,3,none⟩=some (.int .i64 0):=k6.c3
 have e4:W6.cell? ⟨w.heap.size,4,none⟩=some (.int .i64 y):=k6.c4
 have e5:W6.cell? ⟨w.heap.size,5,none⟩=some (.bool true):=k6.c5
 have e6:W6.cell? ⟨w.heap.size,6,none⟩=some (.int .i64 0):=k6.c6
 have f0:W6.frozen? ⟨w.heap.size,0,none⟩=false:=k6.frozen 0
 have f1:W6.frozen? ⟨w.heap.size,1,none⟩=false:=k6.frozen 1
 have f2:W6.frozen? ⟨w.heap.size,2,none⟩=false:=k6.frozen 2
 have f3:W6.frozen? ⟨w.heap.size,3,none⟩=false:=k6.frozen 3
 have f4:W6.frozen? ⟨w.heap.size,4,none⟩=false:=k6.frozen 4
 have f5:W6.frozen? ⟨w.heap.size,5,none⟩=false:=k6.frozen 5
 have f6:W6.frozen? ⟨w.heap.size,6,none⟩=false:=k6.frozen 6
 have k7:=k6.put7 ⟨3,.zero,y,true,0⟩
 go_wp2_with fail
 change bodyPost _ _ _ _ _ (put7 W6 w.heap.size ⟨3,.zero,y,true,0⟩)
 generalize put7 W6 w.heap.size ⟨3,.zero,y,true,0⟩=W7 at k7 HE ⊢
 clear k6 e0 e1 e2 e3 e4 e5 e6 f0 f1 f2 f3 f4 f5 f6
 have e0:W7.cell? ⟨w.heap.size,0,none⟩=some (.int .u8 3):=k7.c0
 have e1:W7.cell? ⟨w.heap.size,1,none⟩=some (.int .i64 0):=k7.c1
 have e2:W7.cell? ⟨w.heap.size,2,none⟩=some (.int .i64 0):=k7.c2
 have e3:W7.cell? ⟨w.heap.size,3,none⟩=some (.int .i64 0):=k7.c3
 have e4:W7.cell? ⟨w.heap.size,4,none⟩=some (.int .i64 y):=k7.c4
 have e5:W7.cell? ⟨w.heap.size,5,none⟩=some (.bool true):=k7.c5
 have e6:W7.cell? ⟨w.heap.size,6,none⟩=some (.int .i64 0):=k7.c6
 refine bodyPost_ret (v:=.tuple #[Gt.val ⟨3,.zero,y,true,0⟩,.int .i64 0]) (by simp [results,Gt.val,Wt.zero,Tryz.f100,go_sem,e0,e1,e2,e3,e4,e5,e6]) rfl ?_
 exact ⟨rfl,HE.out.1,HE.out.2⟩
theorem serve_zero {F:Nat->Prop} {C m:Nat} {cl:Bool} {buf:List Int} {R:List Wt} (val:Int) (w:World) (h:Chn w F C m cl buf [] R) (hlS:([]:List Wt).length<=1000) (hlR:(R:List Wt).length<=1000) (hcl:cl=true) (hbf:buf = []) :
  Calls Tryz.prog 100 #[.pointer (some ⟨C,0,none⟩),.bool false,.int .i64 val] w fun e w'=>e=.returned (.tuple #[Gt.val ⟨5,.zero,0,false,0⟩,.int .i64 0])/\Chn w' (Fw F w) C m cl buf [] R/\Frm F w w':=by
 obtain ⟨wa,hwa⟩:∃ wa,wa=w.alloc (.cells #[.int .u8 0,.int .i64 0,.int .i64 0,.int .i64 0,.int .i64 0,.bool false,.int .i64 0] 184):=⟨_,rfl⟩
 have hba:Below w.heap.size w wa:=by rw [hwa];exact below1 w _
 have hg:GtAt wa w.heap.size .zero:=by rw [hwa];exact gtAt_new w .zero
 have hs:=hg.lt
 have ha:=h.fl.below hba
 have hw:Calls Tryz.prog 140 #[.pointer (some ⟨C,0,none⟩),.bool false] wa fun e w'=>e=.returned (.int .u8 5)/\Below wa.heap.size wa w':=by
  obtain ⟨B,v0,v1,hat,-⟩:=ha.at
  have:=what_any false wa hat hlS hlR
  rwa [show whatK cl m buf [] R false=5 from by simp [whatK,toRecvK,hcl,hbf]] at this
 clear hcl hbf
 go_enter Tryz.func100,Tryz.ntmps100
 go_wp2_with fail
 rw [<- hwa]
 clear hwa
 refine hw.mono ?_
 clear hw
 rintro e w1 ⟨rfl,hb1⟩
 go_wp2_with fail
 refine (deeds_any C w1).mono ?_
 rintro e w2 ⟨rfl,hM,hb2⟩
 have hlook:(Instr.lookup 233 (.map (some w1.heap.size)) (.int .u8 5) true).run Tryz.prog w2=.ok (.tuple #[.agg #[.nilFunc,(.func (.func 161) #[.pointer (some ⟨C,0,none⟩)] #[])],.bool true]) w2:=hM.look (k:=5) (by omega)
 obtain ⟨w3,hw3⟩:∃ w3,w3=w2.alloc (.cells #[.nilFunc,(.func (.func 161) #[.pointer (some ⟨C,0,none⟩)] #[])] 231):=⟨_,rfl⟩
 have hb3:Below wa.heap.size wa w3:=by rw [hw3];exact Below.al (below_nx hb1 hb2 (Nat.le_refl _)) (below_nx hb1 hb2 (Nat.le_refl _)).size _
 have h3:=ha.below hb3
 have hg3:=hg.below hb3
 have hbw:=below_nx hba hb3 (Nat.le_refl _)
 have hs3:w.heap.size<w3.heap.size:=hg3.lt
 clear hb1 hb2 hM
 have hd:=zero_deed w3 h3
 have HQ:∀ (e:Ending) (w':World),(e=.returned (Gt.val ⟨0,.zero,0,false,0⟩)/\Chn w' (Fw (Fl F w) w3) C m cl buf [] R/\Frm (Fl F w) w3 w')->e=.returned (.agg #[.int .u8 0,.int .i64 0,.int .i64 0,.int .i64 0,.int .i64 0,.bool false,.int .i64 0])/\Hid (Chn w' (Fw (Fl F w) w3) C m cl buf [] R)/\Frm (Fl F w) w3 w':=fun _ _ ⟨h1,h2,h3⟩=>⟨h1,Lib.hid h2,h3⟩
 have hd2:=hd.mono HQ
 rw [hw3] at hg3
 clear hd HQ h ha h3
 go_wp2_with fail
 rw [<- hw3] at hg3 ⊢
 refine hd2.mono ?_
 clear hd2
 rintro e w4 ⟨rfl,hc4,hF4⟩
 have k2:GtAt w4 w.heap.size .zero:=hg3.of_block (hF4.block _ hg3.lt (fun e=>by have:=e.2;omega))
 have HE:=Lib.hid (serve_end hs3 hbw hc4.out hF4 ⟨0,.zero,0,false,0⟩ ⟨5,.zero,0,false,0⟩ 5)
 have z0:=k2.frozen 0
 have y0:=k2.c0
 have z1:=k2.frozen 1
 have y1:=k2.c1
 have z2:=k2.frozen 2
 have y2:=k2.c2
 have z3:=k2.frozen 3
 have y3:=k2.c3
 have z4:=k2.frozen 4
 have y4:=k2.c4
 have z5:=k2.frozen 5
 have y5:=k2.c5
 have z6:=k2.frozen 6
 have y6:=k2.c6
 have k5:=k2.put7 ⟨0,.zero,0,false,0⟩
 clear k2 hc4 hF4 hg3 hw3 hlook
 go_upto_region 10 with fail
 change Code.wp _ _ _ _ (put7 w4 w.heap.size ⟨0,.zero,0,false,0⟩)
 generalize put7 w4 w.heap.size ⟨0,.zero,0,false,0⟩=W5 at k5 HE ⊢
 clear z0 z1 z2 z3 z4 z5 z6 y0 y1 y2 y3 y4 y5 y6
 have e0:W5.cell? ⟨w.heap.size,0,none⟩=some (.int .u8 0):=k5.c0
 have e1:W5.cell? ⟨w.heap.size,1,none⟩=some (.int .i64 0):=k5.c1
 have e2:W5.cell? ⟨w.heap.size,2,none⟩=some (.int .i64 0):=k5.c2
 have e3:W5.cell? ⟨w.heap.size,3,none⟩=some (.int .i64 0):=k5.c3
 have e4:W5.cell? ⟨w.heap.size,4,none⟩=some (.int .i64 0):=k5.c4
 have e5:W5.cell? ⟨w.heap.size,5,none⟩=some (.bool false):=k5.c5
 have e6:W5.cell? ⟨w.heap.size,6,none⟩=some (.int .i64 0):=k5.c6
 have f0:W5.frozen? ⟨w.heap.size,0,none⟩=false:=k5.frozen 0
 have f1:W5.frozen? ⟨w.heap.size,1,none⟩=false:=k5.frozen 1
 have f2:W5.frozen? ⟨w.heap.size,2,none⟩=false:=k5.frozen 2
 have f3:W5.frozen? ⟨w.heap.size,3,none⟩=false:=k5.frozen 3
 have f4:W5.frozen? ⟨w.heap.size,4,none⟩=false:=k5.frozen 4
 have f5:W5.frozen? ⟨w.heap.size,5,none⟩=false:=k5.frozen 5
 have f6:W5.frozen? ⟨w.heap.size,6,none⟩=false:=k5.frozen 6
 have k6:=k5.kind 5
 go_upto_region 11 with fail
 change Code.wp _ _ _ _ (W5.setCell ⟨w.heap.size,0,none⟩ (.int .u8 ((5:Nat):Int)))
 generalize W5.setCell ⟨w.heap.size,0,none⟩ (.int .u8 ((5:Nat):Int))=W6 at k6 HE ⊢
 clear k5 e0 e1 e2 e3 e4 e5 e6 f0 f1 f2 f3 f4 f5 f6
 have e0:W6.cell? ⟨w.heap.size,0,none⟩=some (.int .u8 5):=k6.c0
 have e1:W6.cell? ⟨w.heap.size,1,none⟩=some (.int .i64 0):=k6.c1
 have e2:W6.cell? ⟨w.heap.size,2,none⟩=some (.int .i64 0):=k6.c2
 have e3:W6.cell? ⟨w.heap.size,3,none⟩=some (.int .i64 0):=k6.c3
 have e4:W6.cell? ⟨w.heap.size,4,none⟩=some (.int .i64 0):=k6.c4
 have e5:W6.cell? ⟨w.heap.size,5,none⟩=some (.bool false):=k6.c5
 have e6:W6.cell? ⟨w.heap.size,6,none⟩=some (.int .i64 0):=k6.c6
 have f0:W6.frozen? ⟨w.heap.size,0,none⟩=false:=k6.frozen 0
 have f1:W6.frozen? ⟨w.heap.size,1,none⟩=false:=k6.frozen 1
 have f2:W6.frozen? ⟨w.heap.size,2,none⟩=false:=k6.frozen 2
 have f3:W6.frozen? ⟨w.heap.size,3,none⟩=false:=k6.frozen 3
 have f4:W6.frozen? ⟨w.heap.size,4,none⟩=false:=k6.frozen 4
 have f5:W6.frozen? ⟨w.heap.size,5,none⟩=false:=k6.frozen 5
 have f6:W6.frozen? ⟨w.heap.size,6,none⟩=false:=k6.frozen 6
 have k7:=k6.put7 ⟨5,.zero,0,false,0⟩
 go_wp2_with fail
 change bodyPost _ _ _ _ _ (put7 W6 w.heap.size ⟨5,.zero,0,false,0⟩)
 generalize put7 W6 w.heap.size ⟨5,.zero,0,false,0⟩=W7 at k7 HE ⊢
 clear k6 e0 e1 e2 e3 e4 e5 e6 f0 f1 f2 f3 f4 f5 f6
 have e0:W7.cell? ⟨w.heap.size,0,none⟩=some (.int .u8 5):=k7.c0
 have e1:W7.cell? ⟨w.heap.size,1,none⟩=some (.int .i64 0):=k7.c1
 have e2:W7.cell? ⟨w.heap.size,2,none⟩=some (.int .i64 0):=k7.c2
 have e3:W7.cell? ⟨w.heap.size,3,none⟩=some (.int .i64 0):=k7.c3
 have e4:W7.cell? ⟨w.heap.size,4,none⟩=some (.int .i64 0):=k7.c4
 have e5:W7.cell? ⟨w.heap.size,5,none⟩=some (.bool false):=k7.c5
 have e6:W7.cell? ⟨w.heap.size,6,none⟩=some (.int .i64 0):=k7.c6
 refine bodyPost_ret (v:=.tuple #[Gt.val ⟨5,.zero,0,false,0⟩,.int .i64 0]) (by simp [results,Gt.val,Wt.zero,Tryz.f100,go_sem,e0,e1,e2,e3,e4,e5,e6]) rfl ?_
 exact ⟨rfl,HE.out.1,HE.out.2⟩
end Go.Proofs.YtnfbncgfpmcpnaaGreat.Mch
