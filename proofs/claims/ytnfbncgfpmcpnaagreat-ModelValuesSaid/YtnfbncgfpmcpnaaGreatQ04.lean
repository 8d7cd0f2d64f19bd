/-
  ReplayNext: its walks, part 4.
-/
import Derived.Test.YtnfbncgfpmcpnaaGreatQ03
set_option maxRecDepth 100000
set_option maxHeartbeats 12800000
namespace Go.Proofs.YtnfbncgfpmcpnaaGreat
open Go.RowKit
theorem keepB {w1 w2:World} {p:Addr} {v:Value} (hb:Below w1.heap.size w1 w2) (h:w1.cell? p=some v):w2.cell? p=some v:=(hb.cell (World.block_lt_of_cell? w1 _ h)).trans h
theorem keepK {w1 w2:World} {B:Nat} {t:TypeId} {cs:Array Value} (hb:Below w1.heap.size w1 w2) (h:Blk w1 B t cs):Blk w2 B t cs:=h.later hb h.lt
theorem Blk.drew {W:World} {B:Nat} {t:TypeId} {cs:Array Value} (h:Blk W B t cs):Blk W.drew B t cs:=h
theorem cell_drew {W:World} {p:Addr} {v:Value} (h:W.cell? p=some v):W.drew.cell? p=some v:=h
theorem mem2 (wr:World) (u:Value) (d:Bool) (k:Int) :
  Blk ((wr.alloc (.cells #[u,.bool d] 117)).alloc (.cells #[.int .i64 k,.int .i64 0,.int .i64 111] 122)) (wr.heap.size+1) 122 #[.int .i64 k,.int .i64 0,.int .i64 111] /\
  ((wr.alloc (.cells #[u,.bool d] 117)).alloc (.cells #[.int .i64 k,.int .i64 0,.int .i64 111] 122)).cell? ⟨wr.heap.size,0,none⟩=some u /\
  ((wr.alloc (.cells #[u,.bool d] 117)).alloc (.cells #[.int .i64 k,.int .i64 0,.int .i64 111] 122)).cell? ⟨wr.heap.size+1,0,none⟩=some (.int .i64 k) /\
  ((wr.alloc (.cells #[u,.bool d] 117)).alloc (.cells #[.int .i64 k,.int .i64 0,.int .i64 111] 122)).cell? ⟨wr.heap.size+1,1,none⟩=some (.int .i64 0) /\
  ((wr.alloc (.cells #[u,.bool d] 117)).alloc (.cells #[.int .i64 k,.int .i64 0,.int .i64 111] 122)).cell? ⟨wr.heap.size+1,2,none⟩=some (.int .i64 111):=by
 have h0:=blk_new wr 117 #[u,.bool d]
 have h1:=blk_new (wr.alloc (.cells #[u,.bool d] 117)) 122 #[.int .i64 k,.int .i64 0,.int .i64 111]
 have h0':=h0.later (n:=wr.heap.size+1) (W':=(wr.alloc (.cells #[u,.bool d] 117)).alloc (.cells #[.int .i64 k,.int .i64 0,.int .i64 111] 122)) ((Below.refl _ _).alloc (by simp) _) (by omega)
 rw [World.size_alloc] at h1
 exact ⟨h1,h0'.cell rfl,h1.cell rfl,h1.cell rfl,h1.cell rfl⟩
def PanOnly (R:List PanicEntry->World->Prop) (Q:Exit->Act->World->Prop):Exit->Act->World->Prop
 | .panic c,a,w=>a.defers = []/\R c w
 | e,a,w=>Q e a w
theorem wp_region_pan {P:Program} {id:Nat} {ops:Array Oper} {b:Bool} {Q:Exit->Act->World->Prop} {a:Act} {w:World} {R:List PanicEntry->World->Prop} (hR:∀ c a w,a.defers = []->R c w->Q (.panic c) a w)
  (h:(Code.region id ops b).wp P (PanOnly R Q) a w):(Code.region id ops b).wp P Q a w:=
 Code.wp_mono (fun e a w h=>by cases e <;> first | exact h | exact hR _ _ _ h.1 h.2) h
set_option linter.unusedSimpArgs false in
theorem sites_any {lo hi:Nat} {v1 v2 v3:Value} {p:Prg} (w:World) (h:PrgAt lo hi w v1 v2 v3 p) (hn:p.sites.length<=1000000) (hn1:p.caps.length<=1000000) (hne:∀ x ∈ p.sites,x.cs.length<=1000000) :
  Calls Tryz.prog 48 #[.agg #[v1,v2,v3]] w fun e w'=>e=endW (sitesW p.caps.length p.sites)/\Below w.heap.size w w':=by
 obtain ⟨a1,n1,rfl⟩:=h.caps.slice
 obtain ⟨a,c,rfl⟩:=h.sites.slice
 have hb0:Below w.heap.size w (w.alloc (.cells #[.slice a1 p.caps.length n1,v2,.slice a p.sites.length c] 125)):=(Below.refl _ w).alloc (Nat.le_refl _) _
 go_enter Tryz.func48,Tryz.ntmps48
 by_cases h12:p.sites.length<=12
 rotate_left 1
 ·have h12' : ¬ (p.sites.length:Int)<=12:=by omega
  have HE:Hid (sitesW p.caps.length p.sites=some (0,0,111)):=Lib.hid (by simp [sitesW,wrongIf,h12])
  go_wp2_with (go_at_call 88;refine (need_no _ _ _ _).mono ?_;rintro e w1 ⟨rfl,hb1⟩)
  exact ⟨rfl,by rw [HE.out];rfl,below_next hb0 hb1 (Nat.le_refl _)⟩
 ·have h12':(p.sites.length:Int)<=12:=by omega
  have HE:Hid (sitesW p.caps.length p.sites=firstI (siteW p.caps.length) 0 p.sites):=Lib.hid (by simp [sitesW,wrongIf,h12])
  go_wp2_with fail
  refine (need_ok _ _ _ _).mono ?_
  rintro e w1 ⟨rfl,hb1⟩
  have hB1:=below_next hb0 hb1 (Nat.le_refl _)
  have hk1:=(blk_new w 125 #[.slice a1 p.caps.length n1,v2,.slice a p.sites.length c]).later hb1 (by simp)
  have k1:w1.cell? ⟨w.heap.size,2,none⟩=some (.slice a p.sites.length c):=hk1.cell rfl
  clear hb0 hb1 h12'
  go_wp2_with fail
  clear k1
  go_loopw [18] (fun iv wr=>∃ k:Nat,k<=p.sites.length/\iv=.int .i64 (k:Int)/\Below w.heap.size w wr/\Blk wr w.heap.size 125 #[.slice a1 p.caps.length n1,v2,.slice a p.sites.length c] /\
   Hid (∀ j y,j<k->p.sites[j]?=some y->siteW p.caps.length (0+j) y=none)) (fun iv _=>p.sites.length - (intOf iv).toNat)
  case atStart=>exact ⟨0,Nat.zero_le _,rfl,hB1,hk1,Lib.hid (fun j y hj=>by omega)⟩
  case round=>
   clear hB1 hk1
   obtain ⟨k,hk,rfl,hB,hK,HN⟩:=hrel
   by_cases hlt:k<p.sites.length
   ·have hlt':(k:Int)<(p.sites.length:Int):=by omega
    have k0:(0:Int)<=(k:Int):=by omega
    have hw1:IntKind.i64.wrap ((k:Int)+1)=(k:Int)+1:=by rw [IntKind.wrap_i64];omega
    obtain ⟨b,off,ra,rc,x,rfl,-, hbh,hx,hcw,hdw,hr⟩:=h.sites.at hlt
    have hc:=cell_stay hcw (hB.block b (Nat.lt_of_lt_of_le hbh h.top))
    have hd:=cell_stay hdw (hB.block b (Nat.lt_of_lt_of_le hbh h.top))
    have hxl:=hne x (List.mem_of_getElem? hx)
    have hwx:=fun w=>within_any (x.cs.length:Int) 1 6 w
    have hlt3:=hK.lt
    have hB':Below w.heap.size w ((wr.alloc (.cells #[.slice ra x.cs.length rc,.bool x.d] 117)).alloc (.cells #[.int .i64 (k:Int),.int .i64 0,.int .i64 111] 122)):=(hB.alloc hB.size _).alloc (by have:=hB.size;simp;omega) _
    have hbw:Below wr.heap.size wr ((wr.alloc (.cells #[.slice ra x.cs.length rc,.bool x.d] 117)).alloc (.cells #[.int .i64 (k:Int),.int .i64 0,.int .i64 111] 122)):=((Below.refl _ wr).alloc (Nat.le_refl _) _).alloc (by simp) _
    have hK':=hK.later hbw hlt3
    obtain ⟨hN1,n0,m0,m1,m2⟩:=mem2 wr (.slice ra x.cs.length rc) x.d (k:Int)
    clear hcw hdw hB hK
    cases hv:withinB (x.cs.length:Int) 1 6 with
    | false=>
     rw [hv] at hwx
     have HX:Hid (sitesW p.caps.length p.sites=some ((k:Int),0,111)):=Lib.hid (by
      rw [HE.out]
      refine firstI_some (k:=k) HN.out hx ?_
      simp [siteW,wrongIf,hv])
     clear hx hv
     go_wp2_with fail
     have hcall:=hwx ((wr.alloc (.cells #[.slice ra x.cs.length rc,.bool x.d] 117)).alloc (.cells #[.int .i64 (k:Int),.int .i64 0,.int .i64 111] 122)).drew
     refine wp_region_still_tail 5 (by kernel_rfl) (by kernel_rfl) ?_
     simp only [List.take_succ_cons,List.take_zero,List.drop_succ_cons,List.drop_zero]
     change wpStill _ _ ((wr.alloc (.cells #[.slice ra x.cs.length rc,.bool x.d] 117)).alloc (.cells #[.int .i64 (k:Int),.int .i64 0,.int .i64 111] 122)).drew (fun a'=>wpList _ _ _ _ a' ((wr.alloc (.cells #[.slice ra x.cs.length rc,.bool x.d] 117)).alloc (.cells #[.int .i64 (k:Int),.int .i64 0,.int .i64 111] 122)).drew) _ _
     repeat still_step
     still_call hcall
     repeat still_step
     refine wpStill_nil ?_
     go_wp2_with (go_at_call 88;refine (need_no _ _ _ _).mono ?_;rintro e w2 ⟨rfl,hb2⟩)
     exact ⟨rfl,by rw [HX.out];rfl,below_next hB'.drew hb2 (Nat.le_refl _)⟩
    | true=>
     rw [hv] at hwx
     have HX:=Lib.hid hx
     have HV:Hid (siteW p.caps.length k x=firstI (fun _ y=>wrongIf (mayCaseB p.caps.length y) ((k:Int),0,111)) 0 x.cs):=Lib.hid (by simp [siteW,wrongIf,hv])
     clear hx hv
     have hS0:Below w.heap.size w ((wr.alloc (.cells #[.slice ra x.cs.length rc,.bool x.d] 117)).alloc (.cells #[.int .i64 (k:Int),.int .i64 0,.int .i64 111] 122)).drew:=hB'.drew
     go_wp2_with fail
     go_region_held3 (fun w'=>Below w.heap.size w w'/\Blk w' w.heap.size 125 #[.slice a1 p.caps.length n1,v2,.slice (some ⟨b,off,none⟩) p.sites.length c]/\Blk w' (wr.heap.size+1) 122 #[.int .i64 (k:Int),.int .i64 0,.int .i64 111] /\
       w'.cell? ⟨wr.heap.size,0,none⟩=some (.slice ra x.cs.length rc)/\w'.cell? ⟨wr.heap.size+1,0,none⟩=some (.int .i64 (k:Int))/\w'.cell? ⟨wr.heap.size+1,1,none⟩=some (.int .i64 0)/\w'.cell? ⟨wr.heap.size+1,2,none⟩=some (.int .i64 111))
      (refine ⟨?_,?_,?_,?_,?_,?_,?_⟩ <;> first | assumption | exact Below.drew (by assumption) | exact Blk.drew (by assumption) | exact cell_drew (by assumption) | exact below_next (by assumption) hb2 (Nat.le_refl _) | exact keepB hb2 (by assumption) | exact keepK hb2 (by assumption))
      ((first
       | (go_at_call 89;refine (hwx _).mono ?_;rintro e w' ⟨rfl,rfl⟩)
       | (go_at_call 88;refine (need_ok _ _ _ _).mono ?_;rintro e w2 ⟨rfl,hb2⟩)))
     rename_i hS2
     obtain ⟨hBq,hKq,hWq,n0q,-, -, -⟩:=hS2
     clear hb2 hS0 n0 m0 m1 m2 hN1 hK' hB' hbw hwx hc hd
     go_wp2_with fail
     clear n0q
     obtain ⟨wo,rfl⟩:∃ wo:World,wo=wr:=⟨_,rfl⟩
     have hgo:wo.heap.size+1<w2.heap.size:=hWq.lt
     go_loopw [34] (fun iv wr=>∃ m:Nat,m<=x.cs.length/\iv=.int .i64 (m:Int)/\Below w.heap.size w wr/\Blk wr w.heap.size 125 #[.slice a1 p.caps.length n1,v2,.slice (some ⟨b,off,none⟩) p.sites.length c]/\Blk wr (wo.heap.size+1) 122 #[.int .i64 (k:Int),.int .i64 0,.int .i64 111] /\
      Hid (∀ j y,j<m->x.cs[j]?=some y->wrongIf (mayCaseB p.caps.length y) ((k:Int),0,111)=none)) (fun iv _=>x.cs.length - (intOf iv).toNat)
     case atStart=>exact ⟨0,Nat.zero_le _,rfl,hBq,hKq,hWq,Lib.hid (fun j y hj=>by omega)⟩
     case round=>
      clear hBq hKq hWq hgo
      obtain ⟨m,hm,rfl,hB,hK,hW,HM⟩:=hrel
      by_cases hltm:m<x.cs.length
      ·have hltm':(m:Int)<(x.cs.length:Int):=by omega
       have m0:(0:Int)<=(m:Int):=by omega
       have hwm:IntKind.i64.wrap ((m:Int)+1)=(m:Int)+1:=by rw [IntKind.wrap_i64];omega
       obtain ⟨b2,off2,y,rfl,-, -, hy,-, c0,c1,c2,c3⟩:=(hr.stay (stay_below' hB h.top)).at hltm
       have HY:=Lib.hid hy
       clear hy hr
       have hbx:Below wr.heap.size wr (wr.alloc (.cells #[.bool y.s,.int .i64 y.c,.int .i64 y.v,.int .i64 y.o] 169)):=(Below.refl _ wr).alloc (Nat.le_refl _) _
       have e0:=blk_new wr 169 #[.bool y.s,.int .i64 y.c,.int .i64 y.v,.int .i64 y.o]
       have hBx:=below_next hB hbx (Nat.le_refl _)
       have hKx:=hK.later hbx hK.lt
       have hWx:=hW.later hbx hW.lt
       have hmc:=fun w=>mayCase_any (.slice a1 p.caps.length n1) v2 (.slice (some ⟨b,off,none⟩) p.sites.length c) a1 p.caps.length n1 rfl hn1 y w
       have hS0:(fun w'=>Below w.heap.size w w'/\Blk w' w.heap.size 125 #[.slice a1 p.caps.length n1,v2,.slice (some ⟨b,off,none⟩) p.sites.length c]/\Blk w' (wo.heap.size+1) 122 #[.int .i64 (k:Int),.int .i64 0,.int .i64 111] /\
        w'.cell? ⟨w.heap.size,0,none⟩=some (.slice a1 p.caps.length n1)/\w'.cell? ⟨w.heap.size,1,none⟩=some v2/\w'.cell? ⟨w.heap.size,2,none⟩=some (.slice (some ⟨b,off,none⟩) p.sites.length c) /\
        w'.cell? ⟨wo.heap.size+1,0,none⟩=some (.int .i64 (k:Int))/\w'.cell? ⟨wo.heap.size+1,1,none⟩=some (.int .i64 0)/\w'.cell? ⟨wo.heap.size+1,2,none⟩=some (.int .i64 111) /\
        w'.cell? ⟨wr.heap.size,0,none⟩=some (.bool y.s)/\w'.cell? ⟨wr.heap.size,1,none⟩=some (.int .i64 y.c)/\w'.cell? ⟨wr.heap.size,2,none⟩=some (.int .i64 y.v)/\w'.cell? ⟨wr.heap.size,3,none⟩=some (.int .i64 y.o)) (wr.alloc (.cells #[.bool y.s,.int .i64 y.c,.int .i64 y.v,.int .i64 y.o] 169)).drew:=⟨hBx.drew,hKx,hWx,hKx.cell rfl,hKx.cell rfl,hKx.cell rfl,hWx.cell rfl,hWx.cell rfl,hWx.cell rfl,e0.cell rfl,e0.cell rfl,e0.cell rfl,e0.cell rfl⟩
       simp only at hS0
       obtain ⟨s0,s1,s2,s3,s4,s5,s6,s7,s8,s9,s10,s11,s12⟩:=hS0
       clear hbx e0 hBx hKx hWx hB hK hW
       cases hcb:mayCaseB p.caps.length y with
       | true=>
        rw [hcb] at hmc
        have HC:=Lib.hid hcb
        clear hcb
        go_wp2_with fail
        clear c0 c1 c2 c3
        refine wp_region_pan (R:=fun _ _=>False) (fun _ _ _ _ h=>h.elim) ?_
        refine wp_region_held_drew (S:=(fun w'=>Below w.heap.size w w'/\Blk w' w.heap.size 125 #[.slice a1 p.caps.length n1,v2,.slice (some ⟨b,off,none⟩) p.sites.length c]/\Blk w' (wo.heap.size+1) 122 #[.int .i64 (k:Int),.int .i64 0,.int .i64 111] /\
        w'.cell? ⟨w.heap.size,0,none⟩=some (.slice a1 p.caps.length n1)/\w'.cell? ⟨w.heap.size,1,none⟩=some v2/\w'.cell? ⟨w.heap.size,2,none⟩=some (.slice (some ⟨b,off,none⟩) p.sites.length c) /\
        w'.cell? ⟨wo.heap.size+1,0,none⟩=some (.int .i64 (k:Int))/\w'.cell? ⟨wo.heap.size+1,1,none⟩=some (.int .i64 0)/\w'.cell? ⟨wo.heap.size+1,2,none⟩=some (.int .i64 111) /\
        w'.cell? ⟨wr.heap.size,0,none⟩=some (.bool y.s)/\w'.cell? ⟨wr.heap.size,1,none⟩=some (.int .i64 y.c)/\w'.cell? ⟨wr.heap.size,2,none⟩=some (.int .i64 y.v)/\w'.cell? ⟨wr.heap.size,3,none⟩=some (.int .i64 y.o))) (by kernel_rfl) ⟨s0,s1,s2,s3,s4,s5,s6,s7,s8,s9,s10,s11,s12⟩ (fun hHeld=>?_)
        refine wpAnyH_take (i:=0) (v:=.agg #[.slice a1 p.caps.length n1,v2,.slice (some ⟨b,off,none⟩) p.sites.length c]) rfl (by kernel_rfl) (by kernel_rfl) (by kernel_rfl) (fun _ _ _ h=>h) (Or.inl ⟨by rfl,?_⟩) hHeld ?_
        ·intro w' hSw
         obtain ⟨-, -, -, x0,x1,x2,x3,x4,x5,x6,x7,x8,x9⟩:=hSw
         go_simp
        simp only [Act.put,tA,tZ,tS]
        refine wpAnyH_take (i:=1) (v:=.agg #[.bool y.s,.int .i64 y.c,.int .i64 y.v,.int .i64 y.o]) rfl (by kernel_rfl) (by kernel_rfl) (by kernel_rfl) (fun _ _ _ h=>h) (Or.inl ⟨by rfl,?_⟩) hHeld ?_
        ·intro w' hSw
         obtain ⟨-, -, -, x0,x1,x2,x3,x4,x5,x6,x7,x8,x9⟩:=hSw
         go_simp
        simp only [Act.put,tA,tZ,tS]
        refine wpAnyH_take (i:=3) (v:=.agg #[.int .i64 (k:Int),.int .i64 0,.int .i64 111]) rfl (by kernel_rfl) (by kernel_rfl) (by kernel_rfl) (fun _ _ _ h=>h) (Or.inl ⟨by rfl,?_⟩) hHeld ?_
        ·intro w' hSw
         obtain ⟨-, -, -, x0,x1,x2,x3,x4,x5,x6,x7,x8,x9⟩:=hSw
         go_simp
        simp only [Act.put,tA,tZ,tS]
        refine wpAnyH_ready (rs:=[2]) (by kernel_rfl) (by simp) ?_
        refine AllReadyH.cons rfl (fun K hKK=>?_) AllReadyH.nil
        go_simp
        refine (hmc _).mono ?_
        rintro e w3 ⟨rfl,hb3⟩
        refine hKK.out _ _ ?_ (fun hHeld2=>?_)
        ·obtain ⟨y0,y1,y2,x0,x1,x2,x3,x4,x5,x6,x7,x8,x9⟩:=hHeld
         exact ⟨below_next y0 hb3 (Nat.le_refl _),keepK hb3 y1,keepK hb3 y2,keepB hb3 x0,keepB hb3 x1,keepB hb3 x2,keepB hb3 x3,keepB hb3 x4,keepB hb3 x5,keepB hb3 x6,keepB hb3 x7,keepB hb3 x8,keepB hb3 x9⟩
        clear hKK K
        try simp only [Act.put,tA,tZ,tS]
        refine wpAnyH_ready (rs:=[4]) (by kernel_rfl) (by simp) ?_
        refine AllReadyH.cons rfl (fun K hKK=>?_) AllReadyH.nil
        go_simp
        refine (need_ok _ _ _ _).mono ?_
        rintro e w4 ⟨rfl,hb4⟩
        refine hKK.out _ _ ?_ (fun hHeld3=>?_)
        ·obtain ⟨y0,y1,y2,x0,x1,x2,x3,x4,x5,x6,x7,x8,x9⟩:=hHeld2
         exact ⟨below_next y0 hb4 (Nat.le_refl _),keepK hb4 y1,keepK hb4 y2,keepB hb4 x0,keepB hb4 x1,keepB hb4 x2,keepB hb4 x3,keepB hb4 x4,keepB hb4 x5,keepB hb4 x6,keepB hb4 x7,keepB hb4 x8,keepB hb4 x9⟩
        clear hKK K
        refine wpAnyH_done (by kernel_rfl) ?_ _
        simp only [PanOnly,Act.put,tA,tZ,tS]
        obtain ⟨hBq,hKq,hWq,-⟩:=hHeld3
        clear hb3 hb4 hHeld2 s0 s1 s2 s3 s4 s5 s6 s7 s8 s9 s10 s11 s12
        go_wp2_with fail
        go_round
        case rel=>
         refine ⟨m+1,by omega,by go_num,hBq,hKq,hWq,Lib.hid (fun j z hj hz=>?_)⟩
         by_cases e:j=m
         ·subst e
          rw [HY.out] at hz
          cases hz
          rw [HC.out];rfl
         ·exact HM.out j z (by omega) hz
        case measure=>simp [intOf];omega
       | false=>
        rw [hcb] at hmc
        have HZ:Hid (sitesW p.caps.length p.sites=some ((k:Int),0,111)):=Lib.hid (by
         rw [HE.out]
         refine firstI_some (k:=k) HN.out HX.out ?_
         rw [Nat.zero_add,HV.out]
         refine firstI_some (k:=m) HM.out HY.out ?_
         rw [hcb];rfl)
        clear hcb
        go_wp2_with fail
        clear c0 c1 c2 c3
        refine wp_region_pan (R:=fun ch w'=>ch = [{ v:=.iface 122 (.agg #[.int .i64 (k:Int),.int .i64 0,.int .i64 111]),recovered:=false }]/\Below w.heap.size w w') ?hR ?_
        case hR=>
         rintro ch a' w' h1 ⟨rfl,h3⟩
         go_simp
         exact ⟨h1,by rw [HZ.out];rfl,h3⟩
        refine wp_region_held_drew (S:=(fun w'=>Below w.heap.size w w'/\Blk w' w.heap.size 125 #[.slice a1 p.caps.length n1,v2,.slice (some ⟨b,off,none⟩) p.sites.length c]/\Blk w' (wo.heap.size+1) 122 #[.int .i64 (k:Int),.int .i64 0,.int .i64 111] /\
        w'.cell? ⟨w.heap.size,0,none⟩=some (.slice a1 p.caps.length n1)/\w'.cell? ⟨w.heap.size,1,none⟩=some v2/\w'.cell? ⟨w.heap.size,2,none⟩=some (.slice (some ⟨b,off,none⟩) p.sites.length c) /\
        w'.cell? ⟨wo.heap.size+1,0,none⟩=some (.int .i64 (k:Int))/\w'.cell? ⟨wo.heap.size+1,1,none⟩=some (.int .i64 0)/\w'.cell? ⟨wo.heap.size+1,2,none⟩=some (.int .i64 111) /\
        w'.cell? ⟨wr.heap.size,0,none⟩=some (.bool y.s)/\w'.cell? ⟨wr.heap.size,1,none⟩=some (.int .i64 y.c)/\w'.cell? ⟨wr.heap.size,2,none⟩=some (.int .i64 y.v)/\w'.cell? ⟨wr.heap.size,3,none⟩=some (.int .i64 y.o))) (by kernel_rfl) ⟨s0,s1,s2,s3,s4,s5,s6,s7,s8,s9,s10,s11,s12⟩ (fun hHeld=>?_)
        refine wpAnyH_take (i:=0) (v:=.agg #[.slice a1 p.caps.length n1,v2,.slice (some ⟨b,off,none⟩) p.sites.length c]) rfl (by kernel_rfl) (by kernel_rfl) (by kernel_rfl) (fun _ _ _ h=>h) (Or.inl ⟨by rfl,?_⟩) hHeld ?_
        ·intro w' hSw
         obtain ⟨-, -, -, x0,x1,x2,x3,x4,x5,x6,x7,x8,x9⟩:=hSw
         go_simp
        simp only [Act.put,tA,tZ,tS]
        refine wpAnyH_take (i:=1) (v:=.agg #[.bool y.s,.int .i64 y.c,.int .i64 y.v,.int .i64 y.o]) rfl (by kernel_rfl) (by kernel_rfl) (by kernel_rfl) (fun _ _ _ h=>h) (Or.inl ⟨by rfl,?_⟩) hHeld ?_
        ·intro w' hSw
         obtain ⟨-, -, -, x0,x1,x2,x3,x4,x5,x6,x7,x8,x9⟩:=hSw
         go_simp
        simp only [Act.put,tA,tZ,tS]
        refine wpAnyH_take (i:=3) (v:=.agg #[.int .i64 (k:Int),.int .i64 0,.int .i64 111]) rfl (by kernel_rfl) (by kernel_rfl) (by kernel_rfl) (fun _ _ _ h=>h) (Or.inl ⟨by rfl,?_⟩) hHeld ?_
        ·intro w' hSw
         obtain ⟨-, -, -, x0,x1,x2,x3,x4,x5,x6,x7,x8,x9⟩:=hSw
         go_simp
        simp only [Act.put,tA,tZ,tS]
        refine wpAnyH_ready (rs:=[2]) (by kernel_rfl) (by simp) ?_
        refine AllReadyH.cons rfl (fun K hKK=>?_) AllReadyH.nil
        go_simp
        refine (hmc _).mono ?_
        rintro e w3 ⟨rfl,hb3⟩
        refine hKK.out _ _ ?_ (fun hHeld2=>?_)
        ·obtain ⟨y0,y1,y2,x0,x1,x2,x3,x4,x5,x6,x7,x8,x9⟩:=hHeld
         exact ⟨below_next y0 hb3 (Nat.le_refl _),keepK hb3 y1,keepK hb3 y2,keepB hb3 x0,keepB hb3 x1,keepB hb3 x2,keepB hb3 x3,keepB hb3 x4,keepB hb3 x5,keepB hb3 x6,keepB hb3 x7,keepB hb3 x8,keepB hb3 x9⟩
        clear hKK K
        try simp only [Act.put,tA,tZ,tS]
        refine wpAnyH_ready (rs:=[4]) (by kernel_rfl) (by simp) ?_
        refine AllReadyH.cons rfl (fun K hKK=>?_) AllReadyH.nil
        go_simp
        refine (need_no _ _ _ _).mono ?_
        rintro e w4 ⟨rfl,hb4⟩
        exact ⟨rfl,rfl,below_next hHeld2.1 hb4 (Nat.le_refl _)⟩
      ·have hltm' : ¬ (m:Int)<(x.cs.length:Int):=by omega
       have HY:Hid (siteW p.caps.length k x=none):=Lib.hid (by
        rw [HV.out,firstI_none]
        intro j y hy
        exact HM.out j y (by have:=(List.getElem?_eq_some_iff.1 hy).1;omega) hy)
       clear HV HM
       go_wp2_with fail
       go_round
       case rel=>
        refine ⟨k+1,by omega,by go_num,hB,hK,Lib.hid (fun j z hj hz=>?_)⟩
        by_cases e:j=k
        ·subst e
         rw [HX.out] at hz
         cases hz
         rw [Nat.zero_add,HY.out]
        ·exact HN.out j z (by omega) hz
       case measure=>simp [intOf];omega
   ·have hlt' : ¬ (k:Int)<(p.sites.length:Int):=by omega
    have HX:Hid (sitesW p.caps.length p.sites=none):=Lib.hid (by
     rw [HE.out,firstI_none]
     intro j x hx
     exact HN.out j x (by have:=(List.getElem?_eq_some_iff.1 hx).1;omega) hx)
    go_wp2_with fail
    go_end0
    exact ⟨by rw [HX.out];rfl,hB⟩
open Go.RowKit
structure Res (W:World) (B:Nat) (x y z:Int):Prop where
 a:Blk W B 3 #[.int .i64 x]
 b:Blk W (B+1) 3 #[.int .i64 y]
 c:Blk W (B+1+1) 31 #[.int .i64 z]
theorem Blk.frozen {W:World} {B:Nat} {t:TypeId} {cs:Array Value} (h:Blk W B t cs) (k:Nat):W.frozen? ⟨B,k,none⟩=false:=by simp [World.frozen?,show W.heap[B]?=_ from h]
inductive StepsS (P:Program) (ops:Array Oper) (Q:Exit->Act->List Frame->World->Prop):List Oper->Act->List Frame->World->Prop
 | done {a:Act} {cs:List Frame} {w:World} (h:Q .normal a cs w):StepsS P ops Q [] a cs w
 | recover {o:Oper} {rest:List Oper} {a:Act} {cs cs':List Frame} {w w':World} {v:Value} (hw:Region.wanted o (yielded ops a.tmps)=true) (hr:(execOp a.eval o).run P w=.ok .recover w') (hc:recoverD cs=some (v,cs')) (h:StepsS P ops Q rest (a.put o.dst v) cs' w'):StepsS P ops Q (o::rest) a cs w
 | none {o:Oper} {rest:List Oper} {a:Act} {cs:List Frame} {w w':World} (hw:Region.wanted o (yielded ops a.tmps)=true) (hr:(execOp a.eval o).run P w=.ok .recover w') (hc:recoverD cs=Option.none) (h:StepsS P ops Q rest (a.put o.dst .nilIface) cs w'):StepsS P ops Q (o::rest) a cs w
 | value {o:Oper} {rest:List Oper} {a:Act} {cs:List Frame} {w w':World} {v:Value} (hw:Region.wanted o (yielded ops a.tmps)=true) (hr:(execOp a.eval o).run P w=.ok (.value v) w') (h:StepsS P ops Q rest (a.put o.dst v) cs w'):StepsS P ops Q (o::rest) a cs w
 | skip {o:Oper} {rest:List Oper} {a:Act} {cs:List Frame} {w w':World} (hw:Region.wanted o (yielded ops a.tmps)=true) (hr:(execOp a.eval o).run P w=.ok .skip w') (h:StepsS P ops Q rest (a.put o.dst undef) cs w'):StepsS P ops Q (o::rest) a cs w
theorem range'_cons' (k n:Nat):List.range' k (n+1)=k::List.range' (k+1) n:=rfl
theorem StepsS.sound {P:Program} {ops:Array Oper} {Q:Exit->Act->List Frame->World->Prop} {l:List Oper} {a:Act} {cs:List Frame} {w:World} (h:StepsS P ops Q l a cs w) :
  ∀ k,(∀ j,l[j]?=ops[k+j]?)->wpOpsS P ops Q (List.range' k l.length) a cs w:=by
 have key:∀ {o:Oper} {t:List Oper} {k:Nat},(∀ j,(o::t)[j]?=ops[k+j]?)->ops[k]?=some o/\∀ j,t[j]?=ops[k+1+j]?:=fun hj=>
  ⟨by have:=hj 0;simpa using this.symm,fun j=>by have:=hj (j+1);rw [List.getElem?_cons_succ] at this;rw [this];congr 1;omega⟩
 induction h with
 | done h=>intro k _;exact h
 | recover hw hr hc _ ih=>intro k hj;obtain ⟨ho,ht⟩:=key hj;simp only [List.length_cons,range'_cons',wpOpsS,ho,hw,hr,hc,if_true];exact ih _ ht
 | none hw hr hc _ ih=>intro k hj;obtain ⟨ho,ht⟩:=key hj;simp only [List.length_cons,range'_cons',wpOpsS,ho,hw,hr,hc,if_true];exact ih _ ht
 | value hw hr _ ih=>intro k hj;obtain ⟨ho,ht⟩:=key hj;simp only [List.length_cons,range'_cons',wpOpsS,ho,hw,hr,if_true];exact ih _ ht
 | skip hw hr _ ih=>intro k hj;obtain ⟨ho,ht⟩:=key hj;simp only [List.length_cons,range'_cons',wpOpsS,ho,hw,hr,if_true];exact ih _ ht
theorem wpS_region_steps {P:Program} {Q:Exit->Act->List Frame->World->Prop} {l:List Oper} {a:Act} {cs:List Frame} {w:World} {id:Nat} (h:StepsS P l.toArray Q l a cs w):(Code.region id l.toArray false).wpS P Q a cs w:=by
 refine wpS_region ?_
 rw [List.range_eq_range']
 exact h.sound 0 (fun j=>by simp)
theorem assertNil (w:World):(Instr.typeAssert Value.nilIface 20 122 true).run Tryz.prog w=.ok (.tuple #[.agg #[.int .i64 0,.int .i64 0,.int .i64 0],.bool false]) w:=by kernel_rfl
theorem assertWrong (x y z:Int) (w:World):(Instr.typeAssert (.iface 122 (.agg #[.int .i64 x,.int .i64 y,.int .i64 z])) 20 122 true).run Tryz.prog w=.ok (.tuple #[.agg #[.int .i64 x,.int .i64 y,.int .i64 z],.bool true]) w:=by kernel_rfl
theorem Blk.set {W:World} {B:Nat} {t:TypeId} {cs:Array Value} (h:Blk W B t cs) (k:Nat) (v:Value):Blk (W.setCell ⟨B,k,none⟩ v) B t (cs.setIfInBounds k v):=heap_set_same v h
theorem Blk.beside {W:World} {B:Nat} {t:TypeId} {cs:Array Value} (h:Blk W B t cs) {p:Addr} (hp:B ≠ p.block) (v:Value):Blk (W.setCell p v) B t cs:=(Below.heap_setCell W p v B hp).trans h
theorem Blk.alloc {W:World} {B:Nat} {t:TypeId} {cs:Array Value} (h:Blk W B t cs) (o:Obj):Blk (W.alloc o) B t cs:=(Below.heap_alloc W o B h.lt).trans h
theorem res_set {w:World} {B:Nat} {x0 y0 z0:Int} (h:Res w B x0 y0 z0) (x y z:Int) (o:Obj) :
  Res (((((w.setCell ⟨B,0,none⟩ (.int .i64 x)).setCell ⟨B+1,0,none⟩ (.int .i64 y)).setCell ⟨B+1+1,0,none⟩ (.int .i64 z)).alloc o).drew) B x y z /\
  But [B,B+1,B+1+1] w (((((w.setCell ⟨B,0,none⟩ (.int .i64 x)).setCell ⟨B+1,0,none⟩ (.int .i64 y)).setCell ⟨B+1+1,0,none⟩ (.int .i64 z)).alloc o).drew):=by
 refine ⟨⟨?_,?_,?_⟩,?_⟩
 ·exact ((((h.a.set 0 (.int .i64 x)).beside (p:=⟨B+1,0,none⟩) (by simp) _).beside (p:=⟨B+1+1,0,none⟩) (by simp;try omega) _).alloc o).drew
 ·exact ((((h.b.beside (p:=⟨B,0,none⟩) (by simp) (.int .i64 x)).set 0 (.int .i64 y)).beside (p:=⟨B+1+1,0,none⟩) (by simp;try omega) _).alloc o).drew
 ·exact ((((h.c.beside (p:=⟨B,0,none⟩) (by simp;try omega) (.int .i64 x)).beside (p:=⟨B+1,0,none⟩) (by simp) (.int .i64 y)).set 0 (.int .i64 z)).alloc o).drew
 ·exact ((((((But.refl [B,B+1,B+1+1] w).set (p:=⟨B,0,none⟩) (.inl (by simp)) _).set (p:=⟨B+1,0,none⟩) (.inl (by simp)) _).set (p:=⟨B+1+1,0,none⟩) (.inl (by simp)) _).alloc o).drew)
set_option linter.unusedSimpArgs false in
theorem catch_idle (B:Nat) (w:World) :
  CallsD Tryz.prog 46 #[.pointer (some ⟨B,0,none⟩),.pointer (some ⟨B+1,0,none⟩),.pointer (some ⟨B+1+1,0,none⟩)] .returning w fun e u' w'=>e=.returned (.tuple #[])/\u'=.returning/\Below w.heap.size w w':=by
 refine callsD_of_wpS Tryz.func46 rfl fun c₀ cs hu=>?_
 have hrec:recoverD (c₀::cs)=none:=by simp [recoverD,hu]
 apply wpS_seq
 simp only [Tryz.ntmps46,List.size_toArray,List.length_cons,List.length_nil,Nat.reduceAdd,Nat.reduceSub,Array.replicate_succ,Array.replicate_zero,List.push_toArray,List.append_toArray,List.nil_append,List.cons_append]
 refine wpS_region_steps ?_
 refine StepsS.none ?h1 (w':=w) ?h2 hrec ?_
 case h1=>kernel_rfl
 case h2=>rfl
 simp only [Act.put,tA,tZ,tS]
 refine StepsS.value ?h1 (w':=w) (v:=.tuple #[.agg #[.int .i64 0,.int .i64 0,.int .i64 0],.bool false]) ?h2 ?_
 case h1=>kernel_rfl
 case h2=>simp [execOp,go_sem,assertNil]
 try simp only [Act.put,tA,tZ,tS]
 refine StepsS.value ?h1 (w':=w) (v:=.tuple #[.agg #[.int .i64 0,.int .i64 0,.int .i64 0],.bool false]) ?h2 ?_
 case h1=>kernel_rfl
 case h2=>simp [execOp,go_sem]
 try simp only [Act.put,tA,tZ,tS]
 refine StepsS.value ?h1 (w':=w) (v:=.agg #[.int .i64 0,.int .i64 0,.int .i64 0]) ?h2 ?_
 case h1=>kernel_rfl
 case h2=>simp [execOp,go_sem]
 try simp only [Act.put,tA,tZ,tS]
 refine StepsS.value ?h1 (w':=w) (v:=.bool false) ?h2 ?_
 case h1=>kernel_rfl
 case h2=>simp [execOp,go_sem]
 try simp only [Act.put,tA,tZ,tS]
 refine StepsS.value ?h1 (w':=(w.alloc (.cells #[.int .i64 0,.int .i64 0,.int .i64 0] 122))) (v:=.pointer (some ⟨w.heap.size,0,none⟩)) ?h2 ?_
 case h1=>kernel_rfl
 case h2=>simp [execOp,go_sem]
 try simp only [Act.put,tA,tZ,tS]
 refine StepsS.skip ?h1 (w':=(w.alloc (.cells #[.int .i64 0,.int .i64 0,.int .i64 0] 122))) ?h2 ?_
 case h1=>kernel_rfl
 case h2=>simp [execOp,go_sem]
 try simp only [Act.put,tA,tZ,tS]
 refine StepsS.value ?h1 (w':=(w.alloc (.cells #[.int .i64 0,.int .i64 0,.int .i64 0] 122))) (v:=.bool false) ?h2 ?_
 case h1=>kernel_rfl
 case h2=>simp [execOp,go_sem]
 try simp only [Act.put,tA,tZ,tS]
 refine StepsS.done ?_
 refine wpS_of_wp ?_
 go_wp2_with fail
 have hb0:Below w.heap.size w (w.alloc (.cells #[.int .i64 0,.int .i64 0,.int .i64 0] 122)):=(Below.refl _ w).alloc (Nat.le_refl _) _
 cases c₀
 simp only at hu
 subst hu
 simp [bodyPostS,results,Tryz.results46,hb0]
set_option linter.unusedSimpArgs false in
theorem catch_wrong (B:Nat) (x y z:Int) (older:List PanicEntry) (w:World) (x0 y0 z0:Int) (h:Res w B x0 y0 z0) :
  CallsD Tryz.prog 46 #[.pointer (some ⟨B,0,none⟩),.pointer (some ⟨B+1,0,none⟩),.pointer (some ⟨B+1+1,0,none⟩)] (.panicking ({ v:=.iface 122 (.agg #[.int .i64 x,.int .i64 y,.int .i64 z]),recovered:=false }::older)) w fun e u' w'=>
   e=.returned (.tuple #[])/\u'=.panicking ({ v:=.iface 122 (.agg #[.int .i64 x,.int .i64 y,.int .i64 z]),recovered:=true }::older)/\Res w' B x y z/\But [B,B+1,B+1+1] w w':=by
 have ha:=h.a.frozen 0
 have hb:=h.b.frozen 0
 have hc:=h.c.frozen 0
 have l0:=h.a.lt
 have l1:=h.b.lt
 have l2:=h.c.lt
 refine callsD_of_wpS Tryz.func46 rfl fun c₀ cs hu=>?_
 have hrec:recoverD (c₀::cs)=some (.iface 122 (.agg #[.int .i64 x,.int .i64 y,.int .i64 z]),{ c₀ with mode:=.panicking ({ v:=.iface 122 (.agg #[.int .i64 x,.int .i64 y,.int .i64 z]),recovered:=true }::older) }::cs):=by simp [recoverD,hu]
 apply wpS_seq
 simp only [Tryz.ntmps46,List.size_toArray,List.length_cons,List.length_nil,Nat.reduceAdd,Nat.reduceSub,Array.replicate_succ,Array.replicate_zero,List.push_toArray,List.append_toArray,List.nil_append,List.cons_append]
 refine wpS_region_steps ?_
 refine StepsS.recover ?h1 (w':=w) ?h2 hrec ?_
 case h1=>kernel_rfl
 case h2=>rfl
 simp only [Act.put,tA,tZ,tS]
 refine StepsS.value ?h1 (w':=w) (v:=.tuple #[.agg #[.int .i64 x,.int .i64 y,.int .i64 z],.bool true]) ?h2 ?_
 case h1=>kernel_rfl
 case h2=>simp [execOp,go_sem,assertWrong]
 try simp only [Act.put,tA,tZ,tS]
 refine StepsS.value ?h1 (w':=w) (v:=.tuple #[.agg #[.int .i64 x,.int .i64 y,.int .i64 z],.bool true]) ?h2 ?_
 case h1=>kernel_rfl
 case h2=>simp [execOp,go_sem]
 try simp only [Act.put,tA,tZ,tS]
 refine StepsS.value ?h1 (w':=w) (v:=.agg #[.int .i64 x,.int .i64 y,.int .i64 z]) ?h2 ?_
 case h1=>kernel_rfl
 case h2=>simp [execOp,go_sem]
 try simp only [Act.put,tA,tZ,tS]
 refine StepsS.value ?h1 (w':=w) (v:=.bool true) ?h2 ?_
 case h1=>kernel_rfl
 case h2=>simp [execOp,go_sem]
 try simp only [Act.put,tA,tZ,tS]
 refine StepsS.value ?h1 (w':=(w.alloc (.cells #[.int .i64 0,.int .i64 0,.int .i64 0] 122))) (v:=.pointer (some ⟨w.heap.size,0,none⟩)) ?h2 ?_
 case h1=>kernel_rfl
 case h2=>simp [execOp,go_sem]
 try simp only [Act.put,tA,tZ,tS]
 refine StepsS.skip ?h1 (w':=(w.alloc (.cells #[.int .i64 x,.int .i64 y,.int .i64 z] 122))) ?h2 ?_
 case h1=>kernel_rfl
 case h2=>simp [execOp,go_sem]
 try simp only [Act.put,tA,tZ,tS]
 refine StepsS.value ?h1 (w':=(w.alloc (.cells #[.int .i64 x,.int .i64 y,.int .i64 z] 122))) (v:=.bool true) ?h2 ?_
 case h1=>kernel_rfl
 case h2=>simp [execOp,go_sem]
 try simp only [Act.put,tA,tZ,tS]
 refine StepsS.done ?_
 refine wpS_of_wp ?_
 go_wp2_with fail
 have ca:w.cell? ⟨B,0,none⟩=some (.int .i64 x0):=h.a.cell rfl
 have cb:w.cell? ⟨B+1,0,none⟩=some (.int .i64 y0):=h.b.cell rfl
 have cc:w.cell? ⟨B+1+1,0,none⟩=some (.int .i64 z0):=h.c.cell rfl
 go_region
 obtain ⟨r1,r2⟩:=res_set h x y z (.cells #[.int .i64 x,.int .i64 y,.int .i64 z] 122)
 go_wp2_with fail
 cases c₀
 simp only at hu
 subst hu
 simp [bodyPostS,results,Tryz.results46,r1,r2]
end Go.Proofs.YtnfbncgfpmcpnaaGreat
