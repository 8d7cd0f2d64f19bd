/-
  ReplayNext: its walks, part 35.
-/
import Derived.Test.YtnfbncgfpmcpnaaGreatQ34
set_option maxRecDepth 100000
set_option maxHeartbeats 12800000
namespace Go.Proofs.YtnfbncgfpmcpnaaGreat.Mdl
open Go.RowKit
open Ent (En EnRow okB)
open Mch (Frm below1 below_nx boxed_below)
section
variable {o:Nat->Nat} {B:Nat} {M:Mod} {x:En}
set_option linter.unusedSimpArgs false in
theorem apply_ok (w:World) (h:Md w o B M) (hI:Inv M) (he:M.e=0) (hx:x.ok) (hb:okB x=true) (hk:(decide (1<=x.k) && decide (x.k<=11))=true) (hm:En.at0 x ∈ M.moves x.t) :
  Calls Tryz.prog 9 #[ptrV B,enV x] w (AppPost o B (M.do_ (En.at0 x)) 0 w):=by
 obtain ⟨w2,hw2⟩:∃ w2,w2=(w.alloc (.cells (enA x) 39)).alloc (.cells #[.int .i64 0] 31):=⟨_,rfl⟩
 have hB2:Below w.heap.size w w2:=by rw [hw2];exact below2 w _ _
 have hX2:Blk w2 w.heap.size 39 (enA x):=by rw [hw2];exact (blk_new w _ _).alloc _
 have hE2:Boxed w2 (w.heap.size+1) 31 (.int .i64 0):=by
  have h1:=Boxed.new (w.alloc (.cells (enA x) 39)) 31 (.int .i64 0)
  rw [World.size_alloc] at h1
  rw [hw2];exact h1
 have hM2:=h.below hB2
 have hG2:Goes o o w w2:=Goes.of_below hB2
 have hE0:o (w.heap.size+1)=0:=h.off (by omega)
 have hhl:=halted_any w2 hM2
 have hmf:∀ (fn:Fn) (first cap:Array Value) (w:World),(Instr.makeFunc fn first cap).run Tryz.prog w=.ok (.func fn first cap) w:=fun _ _ _ _=>rfl
 have hA0:o w.heap.size=0:=h.off (Nat.le_refl _)
 have hne:(M.e != 0)=false:=by simpa using he
 rw [hne] at hhl
 have hck:=Ent.check_any x hx w2
 rw [show Ent.checkE x=0 by unfold Ent.checkE;rw [hb];rfl] at hck
 have hck':Calls Tryz.prog 31 #[enV x] w2 fun e w'=>e=.returned (.int .i64 0)/\Below w2.heap.size w2 w':=hck
 have hcm:=fun W=>commitE_any x.k W hx.k
 rw [hk] at hcm
 have hmv:=fun (W:World) (hW:Below w2.heap.size w2 W)=>mmoves_any x.t W (hM2.below hW) hI.sane
 have hml:(M.moves x.t).length<=1000:=moves_len hI x.t
 obtain ⟨L,hL⟩:∃ L,L=M.moves x.t:=⟨_,rfl⟩
 simp only [<- hL] at hmv
 rw [<- hL] at hml
 have HL:=Lib.hid hL
 have hkc:∀ W,Below w2.heap.size w2 W->W.cell? ⟨w.heap.size,1,none⟩=some (.int .u8 (x.k:Int)):=fun W hW=>Blk.cell (hX2.later hW hX2.lt) rfl
 obtain ⟨y,hy⟩:∃ y:En,y=En.at0 x:=⟨_,rfl⟩
 have hct:=fun (W:World) (v:Value) (hR:EnRow W v L)=>contains_any y v L W hR (by omega)
 have hyt:y.t=x.t:=by rw [hy];rfl
 have hyk:y.k=x.k:=by rw [hy];rfl
 have HY:=Lib.hid hy
 have x0:w2.cell? ⟨w.heap.size,0,none⟩=some (.int .i64 x.a):=Blk.cell hX2 rfl
 have x1:w2.cell? ⟨w.heap.size,1,none⟩=some (.int .u8 (x.k:Int)):=Blk.cell hX2 rfl
 have x2:w2.cell? ⟨w.heap.size,2,none⟩=some (.int .i64 x.w):=Blk.cell hX2 rfl
 have x3:w2.cell? ⟨w.heap.size,3,none⟩=some (.int .i64 x.t):=Blk.cell hX2 rfl
 have x4:w2.cell? ⟨w.heap.size,4,none⟩=some (.int .i64 x.p):=Blk.cell hX2 rfl
 have x5:w2.cell? ⟨w.heap.size,5,none⟩=some (.int .i64 x.c):=Blk.cell hX2 rfl
 have x6:w2.cell? ⟨w.heap.size,6,none⟩=some (.int .i64 x.b):=Blk.cell hX2 rfl
 have x7:w2.cell? ⟨w.heap.size,7,none⟩=some (.int .i64 x.q):=Blk.cell hX2 rfl
 have x8:w2.cell? ⟨w.heap.size,8,none⟩=some (.int .i64 x.v):=Blk.cell hX2 rfl
 have x9:w2.cell? ⟨w.heap.size,9,none⟩=some (.int .i64 x.u):=Blk.cell hX2 rfl
 have x10:w2.cell? ⟨w.heap.size,10,none⟩=some (.bool x.o):=Blk.cell hX2 rfl
 have x11:w2.cell? ⟨w.heap.size,11,none⟩=some (.int .i64 x.e):=Blk.cell hX2 rfl
 have x12:w2.cell? ⟨w.heap.size,12,none⟩=some (.int .u64 (x.s:Int)):=Blk.cell hX2 rfl
 have hF:decide (y ∈ L)=true:=by rw [hy,hL];simpa using hm
 simp only [hF] at hct
 obtain ⟨hmo,-, ht⟩:=moves_ok hI _ hm
 rw [<- hy] at hmo
 have hdd:=fun (W:World) (hW:Md W o B M)=>deed_any W hW hI hmo ht
 have hds:=fun W=>deeds_any B W
 have hk1:1<=y.k/\y.k<=11:=hmo.k
 have hen:=deed_enters y.k
 have hlk0:∀ (W:World) (Mp:Nat) (gp:Nat->Option Value),DeeMap W Mp gp 11->(∀ k,1<=k->k<=11->gp k=some (deeF B k))->(Instr.lookup 86 (.map (some Mp)) (.int .u8 (y.k:Int)) false).run Tryz.prog W=.ok (.func (.func (deedK y.k)) #[ptrV B] #[]) W:=fun W Mp gp hD hg=>hD.look (by omega) (hg y.k hk1.1 hk1.2)
 obtain ⟨KF,hKF⟩:∃ KF,KF=deedK y.k:=⟨_,rfl⟩
 simp only [<- hKF] at hdd hen hlk0
 have hlk:=hlk0
 rw [<- hy]
 obtain ⟨N,hN⟩:∃ N,N=M.do_ y:=⟨_,rfl⟩
 simp only [<- hN] at hdd
 rw [<- hN]
 clear hne he h hB2 hx hb hck hk hm hF hyk hmv hL hy hKF hlk0 hmo ht hk1 hN
 go_enter_defers Tryz.func9,Tryz.ntmps9
 go_wp2_with fail
 rw [<- hw2]
 clear hw2
 refine (mneed_ok 1 w2).mono ?_
 rintro e w2 ⟨rfl,rfl⟩
 go_wp2_with fail
 refine hhl.mono ?_
 rintro e w2 ⟨rfl,rfl⟩
 go_wp2_with fail
 refine (mneed_ok 170 w2).mono ?_
 rintro e w2 ⟨rfl,rfl⟩
 go_wp2_with fail
 refine hck'.mono ?_
 rintro e w3 ⟨rfl,hb3⟩
 have hX3:=hX2.later hb3 hX2.lt
 have y0:w3.cell? ⟨w.heap.size,0,none⟩=some (.int .i64 x.a):=Blk.cell hX3 rfl
 have y1:=hkc w3 hb3
 have yf:=hX3.frozen
 clear hkc hck'
 go_wp2_with fail
 refine (hcm w3).mono ?_
 rintro e w3 ⟨rfl,rfl⟩
 go_wp2_with fail
 refine (mneed_ok 2 w3).mono ?_
 rintro e w3 ⟨rfl,rfl⟩
 go_upto_region 6 with fail
 have hX4:Blk (w3.setCell ⟨w.heap.size,0,none⟩ (.int .i64 0)) w.heap.size 39 (enA y):=by
  have:=hX3.set 0 (.int .i64 0)
  rw [HY.out];simpa [enA,En.at0] using this
 have hF4:Frm (fun j=>j=w.heap.size) w3 (w3.setCell ⟨w.heap.size,0,none⟩ (.int .i64 0)):=Mch.Frm.set (F:=fun j=>j=w.heap.size) (p:=⟨w.heap.size,0,none⟩) w3 _ rfl
 have hM4:=md_off (hM2.below hb3) hF4 hA0
 have hE4:Boxed (w3.setCell ⟨w.heap.size,0,none⟩ (.int .i64 0)) (w.heap.size+1) 31 (.int .i64 0):=Mch.boxed_frm (boxed_below hE2 hb3) hF4 (by omega)
 have hG4:Goes o o w (w3.setCell ⟨w.heap.size,0,none⟩ (.int .i64 0)):=by
  have h3:=hG2.trans (Goes.of_below hb3)
  exact ⟨fun _ _=>rfl,Mch.Frm.trans_new h3.frm hF4 (fun i hi=>.inr (by omega))⟩
 generalize w3.setCell ⟨w.heap.size,0,none⟩ (.int .i64 0)=w4 at hX4 hM4 hE4 hG4 ⊢
 clear hX3 hF4 y0 y1 yf hb3 hX2 hM2 hE2 hG2 hcm x0 x1 x2 x3 x4 x5 x6 x7 x8 x9 x10 x11 x12
 have r0:Below w4.heap.size w4 w4.drew:=(Below.refl _ _).drew
 have hmv':∀ W,Below w4.heap.size w4 W->Calls Tryz.prog 15 #[ptrV B,.int .i64 x.t] W fun e w'=>∃ v,e=.returned v/\EnRow w' v L/\Below W.heap.size W w':=fun W hW=>by rw [HL.out];exact (mmoves_any x.t W (hM4.below hW) hI.sane).mono (fun e w' ⟨v,e1,hR,hb⟩=>⟨v,e1,hR.1,hb⟩)
 refine Mch.wp_onlyN ?_
 refine wp_region_held_drew (S:=fun W=>Blk W w.heap.size 39 (enA y)) (by kernel_rfl) hX4 (fun hHeld=>?_)
 refine takeD (i:=0) (d:=some 23) (v:=ptrV B) (by kernel_rfl) (by kernel_rfl) (by kernel_rfl) (by kernel_rfl) (fun _ _ _ h=>h) (fun oi h=>?_) hHeld ?_
 ·simp only [uA,uS,uZ,Option.some.injEq] at h
  subst h
  refine Or.inl ⟨by rfl,fun w' hSw=>?_⟩
  go_simp
 try simp only [Act.put,tA,tZ,tS]
 refine takeD (i:=1) (d:=some 24) (v:=.pointer (some ⟨w.heap.size,3,none⟩)) (by kernel_rfl) (by kernel_rfl) (by kernel_rfl) (by kernel_rfl) (fun _ _ _ h=>h) (fun oi h=>?_) hHeld ?_
 ·simp only [uA,uS,uZ,Option.some.injEq] at h
  subst h
  refine Or.inl ⟨by rfl,fun w' hSw=>?_⟩
  go_simp
 try simp only [Act.put,tA,tZ,tS]
 refine takeD (i:=2) (d:=some 25) (v:=.int .i64 x.t) (by kernel_rfl) (by kernel_rfl) (by kernel_rfl) (by kernel_rfl) (fun _ _ _ h=>h) (fun oi h=>?_) hHeld ?_
 ·simp only [uA,uS,uZ,Option.some.injEq] at h
  subst h
  refine Or.inl ⟨by rfl,fun w' hSw=>?_⟩
  have hx3:w'.cell? ⟨w.heap.size,3,none⟩=some (.int .i64 x.t):=by rw [<- hyt];exact Blk.cell hSw rfl
  go_simp
 try simp only [Act.put,tA,tZ,tS]
 refine takeD (i:=4) (d:=some 27) (v:=enV y) (by kernel_rfl) (by kernel_rfl) (by kernel_rfl) (by kernel_rfl) (fun _ _ _ h=>h) (fun oi h=>?_) hHeld ?_
 ·simp only [uA,uS,uZ,Option.some.injEq] at h
  subst h
  refine Or.inl ⟨by rfl,fun w' hSw=>?_⟩
  exact exec_load_row rfl rfl hSw Tryz.underlying39 rfl szEn
 try simp only [Act.put,tA,tZ,tS]
 refine wpAnyH_ready (rs:=[3]) (by kernel_rfl) (by simp) ?_
 refine AllReadyH.cons rfl (fun K hKK=>?_) AllReadyH.nil
 go_simp
 refine (hmv' _ r0).mono ?_
 rintro e w6 ⟨v6,rfl,hR6,hb6⟩
 obtain ⟨va,vc,rfl⟩:=hR6.slice
 have hb6':Below w4.heap.size w4 w6:=r0.trans (hb6.mono r0.size)
 refine hKK.out _ _ (hX4.later hb6' hX4.lt) (fun hHeld=>?_)
 clear hKK K
 try simp only [Act.put,tA,tZ,tS]
 refine wpAnyH_ready (rs:=[5]) (by kernel_rfl) (by simp) ?_
 refine AllReadyH.cons rfl (fun K hKK=>?_) AllReadyH.nil
 go_simp
 refine (hct _ _ hR6).mono ?_
 rintro e w7 ⟨rfl,hb7⟩
 have hb7':Below w4.heap.size w4 w7:=hb6'.trans (hb7.mono hb6'.size)
 refine hKK.out _ _ (hX4.later hb7' hX4.lt) (fun hHeld=>?_)
 clear hKK K
 try simp only [Act.put,tA,tZ,tS]
 refine wpAnyH_ready (rs:=[6]) (by kernel_rfl) (by simp) ?_
 refine AllReadyH.cons rfl (fun K hKK=>?_) AllReadyH.nil
 go_simp
 refine (mneed_ok 171 w7).mono ?_
 rintro e w7 ⟨rfl,rfl⟩
 have hX7:=hX4.later hb7' hX4.lt
 refine hKK.out _ _ hX7 (fun hHeld=>?_)
 clear hKK K
 try simp only [Act.put,tA,tZ,tS]
 refine wpAnyH_done (by kernel_rfl) ?_ _
 simp only [Mch.onlyN]
 go_wp2_with fail
 refine Mch.wp_onlyN ?_
 refine wp_region_held_drew (S:=fun W=>Blk W w.heap.size 39 (enA y)) (by kernel_rfl) hX7 (fun hHeld=>?_)
 refine takeD (i:=0) (d:=some 30) (v:=ptrV B) (by kernel_rfl) (by kernel_rfl) (by kernel_rfl) (by kernel_rfl) (fun _ _ _ h=>h) (fun oi h=>?_) hHeld ?_
 ·simp only [uA,uS,uZ,Option.some.injEq] at h
  subst h
  refine Or.inl ⟨by rfl,fun w' hSw=>?_⟩
  go_simp
 try simp only [Act.put,tA,tZ,tS]
 refine takeD (i:=2) (d:=some 32) (v:=.pointer (some ⟨w.heap.size,1,none⟩)) (by kernel_rfl) (by kernel_rfl) (by kernel_rfl) (by kernel_rfl) (fun _ _ _ h=>h) (fun oi h=>?_) hHeld ?_
 ·simp only [uA,uS,uZ,Option.some.injEq] at h
  subst h
  refine Or.inl ⟨by rfl,fun w' hSw=>?_⟩
  go_simp
 try simp only [Act.put,tA,tZ,tS]
 refine takeD (i:=3) (d:=some 33) (v:=.int .u8 (y.k:Int)) (by kernel_rfl) (by kernel_rfl) (by kernel_rfl) (by kernel_rfl) (fun _ _ _ h=>h) (fun oi h=>?_) hHeld ?_
 ·simp only [uA,uS,uZ,Option.some.injEq] at h
  subst h
  refine Or.inl ⟨by rfl,fun w' hSw=>?_⟩
  have hx3:w'.cell? ⟨w.heap.size,1,none⟩=some (.int .u8 (y.k:Int)):=Blk.cell hSw rfl
  go_simp
 try simp only [Act.put,tA,tZ,tS]
 refine takeD (i:=5) (d:=some 35) (v:=enV y) (by kernel_rfl) (by kernel_rfl) (by kernel_rfl) (by kernel_rfl) (fun _ _ _ h=>h) (fun oi h=>?_) hHeld ?_
 ·simp only [uA,uS,uZ,Option.some.injEq] at h
  subst h
  refine Or.inl ⟨by rfl,fun w' hSw=>?_⟩
  exact exec_load_row rfl rfl hSw Tryz.underlying39 rfl szEn
 try simp only [Act.put,tA,tZ,tS]
 refine wpAnyH_ready (rs:=[1]) (by kernel_rfl) (by simp) ?_
 refine AllReadyH.cons rfl (fun K hKK=>?_) AllReadyH.nil
 go_simp
 refine (hds _).mono ?_
 rintro e w8 ⟨Mp,gp,rfl,hD8,hg8,hb8⟩
 have hl8:=hlk w8 Mp gp hD8 hg8
 have hb8':Below w7.heap.size w7 w8:=(Below.refl _ w7).drew.trans (hb8.mono (Nat.le_refl _))
 have hX8:=hX7.later hb8' hX7.lt
 refine hKK.out _ _ hX8 (fun hHeld=>?_)
 clear hKK K
 try simp only [Act.put,tA,tZ,tS]
 refine wpAnyH_ready (rs:=[4]) (by kernel_rfl) (by simp) ?_
 refine AllReadyH.cons rfl (fun K hKK=>?_) AllReadyH.nil
 go_simp
 refine hKK.out _ _ hX8 (fun hHeld=>?_)
 clear hKK K
 try simp only [Act.put,tA,tZ,tS]
 refine wpAnyH_ready (rs:=[6]) (by kernel_rfl) (by simp) ?_
 refine AllReadyH.cons rfl (fun K hKK=>?_) AllReadyH.nil
 go_simp
 refine (hdd w8 ((hM4.below hb7').below hb8')).mono ?_
 rintro e w9 ⟨rfl,o9,h9,g9⟩
 have hX9:=blk_goes hX8 hA0 g9
 refine hKK.out _ _ hX9 (fun hHeld=>?_)
 clear hKK K
 try simp only [Act.put,tA,tZ,tS]
 refine wpAnyH_done (by kernel_rfl) ?_ _
 simp only [Mch.onlyN]
 have hE9:Boxed w9 (w.heap.size+1) 31 (.int .i64 0):=by
  have h8:=boxed_below (boxed_below hE4 hb7') hb8'
  exact (g9.frm.block _ h8.lt (fun e=>e hE0)).trans h8
 have hG9:=((hG4.trans (Goes.of_below hb7')).trans (Goes.of_below hb8')).trans g9
 have e9:=hE9.cell
 have f9:=hE9.frozen
 have hE10:=hE9.set (.int .i64 0)
 have ho9:o9 (w.heap.size+1)=0:=(g9.old _ (boxed_below (boxed_below hE4 hb7') hb8').lt).trans hE0
 have hF10:Frm (fun j=>j=w.heap.size+1) w9 (w9.setCell ⟨w.heap.size+1,0,none⟩ (.int .i64 0)):=Mch.Frm.set (F:=fun j=>j=w.heap.size+1) (p:=⟨w.heap.size+1,0,none⟩) w9 _ rfl
 have hN10:=md_off h9 hF10 ho9
 have hG10:Goes o o9 w (w9.setCell ⟨w.heap.size+1,0,none⟩ (.int .i64 0)):=⟨hG9.old,Mch.Frm.trans_new hG9.frm hF10 (fun i hi=>.inr (by omega))⟩
 go_wp2_with fail
 exact apply_ends (w.heap.size+1) _ _ 0 rfl hE10 hN10 hG10
end
open Go.RowKit
open Ent (En EnRow okB)
theorem apply_any {o:Nat->Nat} {B:Nat} {M:Mod} (x:En) (w:World) (h:Md w o B M) (hI:Inv M) (hx:x.ok) :
  Calls Tryz.prog 9 #[ptrV B,enV x] w (AppPost o B (M.apply x) (M.applyE x) w):=by
 have hst:∀ k:Int,M.applyE x=k->k ≠ 0->M.apply x=M:=fun k e hk=>by unfold Mod.apply;rw [if_neg (by rw [e];exact hk)]
 by_cases he:M.e=0
 ·cases hb:okB x with
  | false=>
   have hE:M.applyE x=2:=by unfold Mod.applyE;rw [if_neg (by simpa using he),hb];rfl
   rw [hst 2 hE (by decide),hE]
   exact apply_bad w h he hx hb
  | true=>
   cases hk:(decide (1<=x.k) && decide (x.k<=11)) with
   | false=>
    have hE:M.applyE x=2:=by unfold Mod.applyE;rw [if_neg (by simpa using he),hb,hk];rfl
    rw [hst 2 hE (by decide),hE]
    exact apply_mark w h he hx hb hk
   | true=>
    by_cases hm:En.at0 x ∈ M.moves x.t
    ·have hE:M.applyE x=0:=by unfold Mod.applyE;rw [if_neg (by simpa using he),hb,hk];simp [hm]
     have hA:M.apply x=M.do_ (En.at0 x):=by unfold Mod.apply;rw [if_pos hE]
     rw [hA,hE]
     exact apply_ok w h hI he hx hb hk hm
    ·have hE:M.applyE x=171:=by unfold Mod.applyE;rw [if_neg (by simpa using he),hb,hk];simp [hm]
     rw [hst 171 hE (by decide),hE]
     exact apply_not w h hI he hx hb hk hm
 ·have hE:M.applyE x=170:=by unfold Mod.applyE;rw [if_pos he]
  rw [hst 170 hE (by decide),hE]
  exact apply_halted w h he
open Go.RowKit
open Ent (En EnRow okB)
def m0:Mod:=newM twoP 4
def e0:En:=⟨0,9,0,0,1,0,1,0,0,0,false,0,0⟩
def e1:En:=⟨3,9,0,0,1,0,1,0,0,0,false,0,0⟩
def e2:En:=⟨0,8,0,0,0,0,0,0,0,0,false,0,0⟩
def e3:En:=⟨0,3,0,1,0,0,-1,-1,0,0,false,0,0⟩
def e4:En:=⟨0,10,0,1,0,0,0,0,0,0,false,0,0⟩
def p5:Pla:=⟨1,⟨1,1,0,0,1,0,0,0,0,0⟩⟩
def m1:Mod:=m0.apply e1
def m2:Mod:=m1.apply e2
def m3:Mod:=m2.apply e4
theorem eq_run (y x:En) (W:World):(binOp .eql 39 (enV y) (enV x)).run Tryz.prog W=.ok (.bool (En.eq y x)) W:=by
 have u:=Tryz.underlying39
 simp [go_sem]
 cases h:En.eq y x with
 | true=>
  obtain rfl:=Ent.En.eq_iff.1 h
  simp
 | false=>
  have hne:y ≠ x:=fun e=>by rw [Ent.En.eq_iff.2 e] at h;cases h
  by_cases q_a:y.a=x.a
  case neg=>simp only [if_neg q_a]
  simp only [if_pos q_a]
  by_cases q_k:(y.k:Int)=(x.k:Int)
  case neg=>simp only [if_neg q_k]
  simp only [if_pos q_k]
  by_cases q_w:y.w=x.w
  case neg=>simp only [if_neg q_w]
  simp only [if_pos q_w]
  by_cases q_t:y.t=x.t
  case neg=>simp only [if_neg q_t]
  simp only [if_pos q_t]
  by_cases q_p:y.p=x.p
  case neg=>simp only [if_neg q_p]
  simp only [if_pos q_p]
  by_cases q_c:y.c=x.c
  case neg=>simp only [if_neg q_c]
  simp only [if_pos q_c]
  by_cases q_b:y.b=x.b
  case neg=>simp only [if_neg q_b]
  simp only [if_pos q_b]
  by_cases q_q:y.q=x.q
  case neg=>simp only [if_neg q_q]
  simp only [if_pos q_q]
  by_cases q_v:y.v=x.v
  case neg=>simp only [if_neg q_v]
  simp only [if_pos q_v]
  by_cases q_u:y.u=x.u
  case neg=>simp only [if_neg q_u]
  simp only [if_pos q_u]
  by_cases q_o:y.o=x.o
  case neg=>simp only [if_neg q_o]
  simp only [if_pos q_o]
  by_cases q_e:y.e=x.e
  case neg=>simp only [if_neg q_e]
  simp only [if_pos q_e]
  by_cases q_s:(y.s:Int)=(x.s:Int)
  case neg=>simp only [if_neg q_s]
  simp only [if_pos q_s]
  have r1:y.k=x.k:=by omega
  have r12:y.s=x.s:=by omega
  clear q_k q_s
  exact absurd (by
   cases y;cases x
   simp only at q_a q_w q_t q_p q_c q_b q_q q_v q_u q_o q_e r1 r12
   subst q_a q_w q_t q_p q_c q_b q_q q_v q_u q_o q_e r1 r12
   rfl) hne
open Go.RowKit
open Ent (En EnRow okB en_one en_len)
open Mch (below1 below_nx owns_slice')
def zeroE:En:=⟨0,0,0,0,0,0,0,0,0,0,false,0,0⟩
open Go.RowKit
open Ent (En EnRow okB en_one en_len)
open Mch (below1 below_nx owns_slice')
structure Runs (w:World) (o:Nat->Nat) (A:Nat) (M:Mod) (W:World):Prop where
 md:Md W o A M
 inv:Inv M
 bel:Below w.heap.size w W
 new:∀ k,o k ≠ 0->w.heap.size<=k
section
variable {w W W':World} {o o':Nat->Nat} {A:Nat} {M N:Mod}
theorem Runs.below (h:Runs w o A M W) (hb:Below W.heap.size W W'):Runs w o A M W':=⟨h.md.below hb,h.inv,below_nx h.bel hb (Nat.le_refl _),h.new⟩
theorem Runs.goes (h:Runs w o A M W) (hm:Md W' o' A N) (hi:Inv N) (hG:Goes o o' W W'):Runs w o' A N W':=
 ⟨hm,hi,frm_low h.bel hG.frm h.new,fun k hk=>by
  by_cases hl:k<W.heap.size
  ·exact h.new k (by rw [<- hG.old k hl];exact hk)
  ·have:=h.bel.size;omega⟩
theorem Runs.apply {x:En} (h:Runs w o A M W) (hx:x.ok) :
  Calls Tryz.prog 9 #[ptrV A,enV x] W fun e w'=>e=.returned (.int .i64 (M.applyE x))/\∃ o',Goes o o' W w'/\Runs w o' A (M.apply x) w':=
 (apply_any x W h.md h.inv hx).mono fun _ _ ⟨e1,o',hm,hG⟩=>⟨e1,o',hG,h.goes hm (inv_apply h.inv) hG⟩
end
end Go.Proofs.YtnfbncgfpmcpnaaGreat.Mdl
namespace Go.Proofs.YtnfbncgfpmcpnaaGreat.Mch
open Go.RowKit
def RowI (w:World) (v:Value) (xs:List Int):Prop:=
 (xs = []/\∃ a cap,v=.slice a 0 cap) \/
 (∃ b off cap,v=.slice (some ⟨b,off,none⟩) xs.length cap/\0<xs.length/\b<w.heap.size/\∀ j,j<xs.length->w.cell? ⟨b,off+j,none⟩=some (.int .i64 (xs[j]?.getD 0)))
theorem mem_of_getDI {xs:List Int} {k:Nat} (h:k<xs.length):xs[k]?.getD 0 ∈ xs:=by rw [List.getElem?_eq_getElem h];simp
theorem below_next {w wx w1:World} (h:Below w.heap.size w wx) (k:Below wx.heap.size wx w1):Below w.heap.size w w1:=h.trans (k.mono h.size)
end Go.Proofs.YtnfbncgfpmcpnaaGreat.Mch
namespace Go.Proofs.YtnfbncgfpmcpnaaGreat.Mdl
open Go.RowKit
open Mch (Frm below1 below_nx owns_slice' I64)
theorem md_offs {W W':World} {o:Nat->Nat} {B:Nat} {F:Nat->Prop} {M:Mod} (h:Md W o B M) (hF:Frm F W W') (hE:∀ k,F k->o k=0):Md W' o B M:=by
 obtain ⟨lo,hi,v1,v2,v3,vT,vC,Cs,h⟩:=h
 have hn:∀ k,o k ≠ 0->¬ F k:=fun k hk e=>hk (hE k e)
 exact ⟨lo,hi,v1,v2,v3,vT,vC,Cs,{
  head:=(hF.block B h.head.lt (hn B (by rw [h.hown];omega))).trans h.head
  hown:=h.hown
  prog:=keep_prog h.prog hF (fun k h1 h2=>hn k (by rw [h.pown k h1 h2];omega))
  pown:=h.pown
  tasks:=keep_row h.tasks hF (fun g e=>hn g (by rw [h.town g e];omega))
  town:=h.town
  chans:=keep_row h.chans hF (fun g e=>hn g (by rw [h.cown g e];omega))
  cown:=h.cown
  len:=h.len
  chs:=fun j C c hC hc=>keep_chn (h.chs j C c hC hc) hF (fun k hk=>hn k (by rw [hk];omega))
  low:=fun k hk=>Nat.lt_of_lt_of_le (h.low k hk) hF.size }⟩
def upd {α:Type} (f:Nat->α) (j:Nat) (a:α):Nat->α:=fun i=>if i=j then a else f i
open Go.RowKit
open Ent (En EnRow okB)
open Mch (Frm below1 below_nx)
structure Rn where
 M:Mod
 d:Nat
 a:Int
 e:Int
def comB (k:Nat):Bool:=decide (1<=k) && decide (k<=11)
def judgeE (a:Int) (x:En):Int:=if okB x=false then 2 else if x.a<a then 180 else 0
def doE (M:Mod) (x:En):Int:=if comB x.k=true then M.applyE x else 0
def doM (M:Mod) (x:En):Mod:=if comB x.k=true then M.apply x else M
def Rn.do_ (r:Rn) (x:En):Rn:=if doE r.M x=0 then ⟨doM r.M x,r.d+1,x.a,0⟩ else ⟨r.M,r.d,r.a,doE r.M x⟩
def Rn.step (r:Rn) (x:En):Rn:=if r.e ≠ 0 then r else if judgeE r.a x ≠ 0 then { r with e:=judgeE r.a x } else r.do_ x
def Rn.go (r:Rn) (l:List En):Rn:=l.foldl Rn.step r
def rn0 (M:Mod):Rn:=⟨M,0,0,0⟩
def Rn.sees (r:Rn) (x:En):Prop:=r.e=0/\judgeE r.a x=0
theorem doM_bad {M:Mod} {x:En} (h:doE M x ≠ 0):doM M x=M:=by
 unfold doE at h;unfold doM
 cases hc:comB x.k with
 | false=>rw [if_neg (by decide)]
 | true=>
  rw [hc,if_pos rfl] at h
  rw [if_pos rfl];unfold Mod.apply;rw [if_neg h]
theorem inv_doM {M:Mod} {x:En} (h:Inv M):Inv (doM M x):=by
 unfold doM;split
 ·exact inv_apply h
 ·exact h
theorem Rn.step_bad {r:Rn} {x:En} (h:r.e ≠ 0):r.step x=r:=by unfold Rn.step;rw [if_pos h]
theorem Rn.step_wrong {r:Rn} {x:En} (h:r.e=0) (h1:judgeE r.a x ≠ 0):r.step x = { r with e:=judgeE r.a x }:=by unfold Rn.step;rw [if_neg (by simpa using h),if_pos h1]
theorem Rn.step_sees {r:Rn} {x:En} (h:r.sees x):r.step x=r.do_ x:=by unfold Rn.step;rw [if_neg (by simpa using h.1),if_neg (by simpa using h.2)]
theorem Rn.go_bad {r:Rn} (h:r.e ≠ 0):∀ l:List En,r.go l=r:=by
 intro l
 induction l with
 | nil=>rfl
 | cons x t ih=>show (r.step x).go t=r;rw [Rn.step_bad h];exact ih
theorem Rn.go_snoc (r:Rn) (l:List En) {k:Nat} {x:En} (hk:l[k]?=some x):r.go (l.take (k+1))=(r.go (l.take k)).step x:=by
 unfold Rn.go;rw [List.take_add_one,hk,Option.toList_some,List.foldl_append];rfl
theorem Rn.go_app (r:Rn) (l:List En) (x:En):r.go (l ++ [x])=(r.go l).step x:=by unfold Rn.go;rw [List.foldl_append];rfl
theorem Rn.go_stays {r:Rn} (l:List En) (k:Nat) (h:(r.go (l.take k)).e ≠ 0):r.go l=r.go (l.take k):=by
 have:r.go l=(r.go (l.take k)).go (l.drop k):=by unfold Rn.go;rw [<- List.foldl_append,List.take_append_drop]
 rw [this,Rn.go_bad h]
theorem inv_step_rn {r:Rn} {x:En} (h:Inv r.M):Inv (r.step x).M:=by
 unfold Rn.step
 split
 ·exact h
 ·split
  ·exact h
  ·unfold Rn.do_;split
   ·exact inv_doM h
   ·exact h
theorem inv_go {r:Rn} (h:Inv r.M):∀ l:List En,Inv (r.go l).M:=by
 intro l
 induction l generalizing r with
 | nil=>exact h
 | cons x t ih=>exact ih (r:=r.step x) (inv_step_rn h)
structure Trn (R:Nat) (o o':Nat->Nat) (X Y:World):Prop where
 old:∀ k,k<X.heap.size->o' k=o k
 frm:Frm (fun k=>o k ≠ 0 \/ k=R) X Y
section
variable {R A:Nat} {o o1 o2:Nat->Nat} {w0 X Y Z:World} {r:Rn}
theorem Trn.of_below (h:Below X.heap.size X Y):Trn R o o X Y:=⟨fun _ _=>rfl,Frm.of_below h _⟩
theorem Trn.of_goes (h:Goes o o1 X Y):Trn R o o1 X Y:=⟨h.old,h.frm.mono fun _ hk=>.inl hk⟩
theorem Trn.trans (h:Trn R o o1 X Y) (k:Trn R o1 o2 Y Z):Trn R o o2 X Z:=
 ⟨fun i hi=>(k.old i (Nat.lt_of_lt_of_le hi h.frm.size)).trans (h.old i hi),Mch.Frm.trans_new h.frm k.frm (fun i hi=>by
  rcases hi with hi | hi
  ·by_cases hl:i<X.heap.size
   ·exact .inl (.inl (by rw [<- h.old i hl];exact hi))
   ·exact .inr (by omega)
  ·exact .inl (.inr hi))⟩
structure RnAt (w0:World) (o:Nat->Nat) (R A:Nat) (r:Rn) (X:World):Prop where
 run:Runs w0 o A r.M X
 blk:Blk X R 105 #[ptrV A,.int .i64 (r.d:Int),.int .i64 r.a,.int .i64 r.e]
 off:o R=0
 low:w0.heap.size<=R
theorem RnAt.below (h:RnAt w0 o R A r X) (hb:Below X.heap.size X Y):RnAt w0 o R A r Y:=⟨h.run.below hb,h.blk.on hb,h.off,h.low⟩
theorem RnAt.cells (h:RnAt w0 o R A r X):X.cell? ⟨R,0,none⟩=some (ptrV A)/\X.cell? ⟨R,1,none⟩=some (.int .i64 (r.d:Int))/\X.cell? ⟨R,2,none⟩=some (.int .i64 r.a)/\X.cell? ⟨R,3,none⟩=some (.int .i64 r.e)/\(∀ k,X.frozen? ⟨R,k,none⟩=false):=
 ⟨h.blk.cell rfl,h.blk.cell rfl,h.blk.cell rfl,h.blk.cell rfl,fun k=>h.blk.frozen k⟩
theorem RnAt.aside (h:RnAt w0 o R A r X) {F:Nat->Prop} (hF:Frm F X Y) (h1:∀ k,F k->o k=0/\k ≠ R/\w0.heap.size<=k):RnAt w0 o R A r Y:=
 ⟨⟨md_offs h.run.md hF (fun k hk=>(h1 k hk).1),h.run.inv,frm_low h.run.bel hF (fun k hk=>(h1 k hk).2.2),h.run.new⟩,(hF.block R h.blk.lt (fun e=>(h1 R e).2.1 rfl)).trans h.blk,h.off,h.low⟩
theorem RnAt.set (h:RnAt w0 o R A r X) {k:Nat} {v:Value} {r':Rn} (hM:r'.M=r.M) (hv:(#[ptrV A,.int .i64 (r.d:Int),.int .i64 r.a,.int .i64 r.e]:Array Value).setIfInBounds k v=#[ptrV A,.int .i64 (r'.d:Int),.int .i64 r'.a,.int .i64 r'.e]) :
  RnAt w0 o R A r' (X.setCell ⟨R,k,none⟩ v)/\Trn R o o X (X.setCell ⟨R,k,none⟩ v):=by
 have hF:Frm (fun j=>j=R) X (X.setCell ⟨R,k,none⟩ v):=Mch.Frm.set (F:=fun j=>j=R) (p:=⟨R,k,none⟩) X v rfl
 refine ⟨⟨?_,?_,h.off,h.low⟩,⟨fun _ _=>rfl,hF.mono fun _ e=>.inr e⟩⟩
 ·rw [hM]
  exact ⟨md_offs h.run.md hF (fun j e=>by rw [e];exact h.off),h.run.inv,frm_low h.run.bel hF (fun j e=>by rw [e];exact h.low),h.run.new⟩
 ·rw [<- hv];exact h.blk.set k v
theorem RnAt.goes (h:RnAt w0 o R A r X) {N:Mod} (hG:Goes o o1 X Y) (hR:Runs w0 o1 A N Y):RnAt w0 o1 R A { r with M:=N } Y:=
 ⟨hR,(hG.frm.block R h.blk.lt (fun e=>e h.off)).trans h.blk,by rw [hG.old R h.blk.lt];exact h.off,h.low⟩
end
open Go.RowKit
open Ent (En EnRow okB)
open Mch (Frm below1 below_nx)
section
variable {R A:Nat} {o:Nat->Nat} {w0:World} {r:Rn}
theorem judged_any (x:En) (w:World) (h:RnAt w0 o R A r w) (hx:x.ok) :
  Calls Tryz.prog 111 #[ptrV R,enV x] w fun e w'=>e=.returned (.int .i64 (judgeE r.a x))/\Below w.heap.size w w':=by
 obtain ⟨w1,hw1⟩:∃ w1,w1=w.alloc (.cells (enA x) 39):=⟨_,rfl⟩
 have hB1:Below w.heap.size w w1:=by rw [hw1];exact below1 w _
 have hX1:Blk w1 w.heap.size 39 (enA x):=by rw [hw1];exact blk_new w _ _
 have hck:Calls Tryz.prog 31 #[enV x] w1 _:=Ent.check_any x hx w1
 have hR1:=h.below hB1
 obtain ⟨X,hX⟩:∃ X,X=w.heap.size:=⟨_,rfl⟩
 obtain ⟨j,hj⟩:∃ j,j=judgeE r.a x:=⟨_,rfl⟩
 rw [<- hj]
 have hJ:=Lib.hid hj
 have y0:w1.cell? ⟨w.heap.size,0,none⟩=some (.int .i64 x.a):=hX1.cell rfl
 have y1:w1.cell? ⟨w.heap.size,1,none⟩=some (.int .u8 (x.k:Int)):=hX1.cell rfl
 have y2:w1.cell? ⟨w.heap.size,2,none⟩=some (.int .i64 x.w):=hX1.cell rfl
 have y3:w1.cell? ⟨w.heap.size,3,none⟩=some (.int .i64 x.t):=hX1.cell rfl
 have y4:w1.cell? ⟨w.heap.size,4,none⟩=some (.int .i64 x.p):=hX1.cell rfl
 have y5:w1.cell? ⟨w.heap.size,5,none⟩=some (.int .i64 x.c):=hX1.cell rfl
 have y6:w1.cell? ⟨w.heap.size,6,none⟩=some (.int .i64 x.b):=hX1.cell rfl
 have y7:w1.cell? ⟨w.heap.size,7,none⟩=some (.int .i64 x.q):=hX1.cell rfl
 have y8:w1.cell? ⟨w.heap.size,8,none⟩=some (.int .i64 x.v):=hX1.cell rfl
 have y9:w1.cell? ⟨w.heap.size,9,none⟩=some (.int .i64 x.u):=hX1.cell rfl
 have y10:w1.cell? ⟨w.heap.size,10,none⟩=some (.bool x.o):=hX1.cell rfl
 have y11:w1.cell? ⟨w.heap.size,11,none⟩=some (.int .i64 x.e):=hX1.cell rfl
 have y12:w1.cell? ⟨w.heap.size,12,none⟩=some (.int .u64 (x.s:Int)):=hX1.cell rfl
 clear hj h
 cases hb:okB x with
 | false=>
  have hE:Ent.checkE x=2:=by unfold Ent.checkE;rw [hb];rfl
  have HJ:Hid (j=2):=Lib.hid (by rw [hJ.out];unfold judgeE;rw [if_pos hb])
  rw [hE] at hck
  clear hb hE hJ hX
  go_enter Tryz.func111,Tryz.ntmps111
  go_upto_region 1 with fail
  rw [<- hw1]
  clear hw1
  go_wp2_with fail
  refine hck.mono ?_
  clear hck y0 y1 y2 y3 y4 y5 y6 y7 y8 y9 y10 y11 y12
  rintro e w2 ⟨rfl,hb2⟩
  have hB2:=below_nx hB1 hb2 (Nat.le_refl _)
  go_wp2_with fail
  go_ret
  exact ⟨by rw [HJ.out];rfl,hB2⟩
 | true=>
  have hE:Ent.checkE x=0:=by unfold Ent.checkE;rw [hb];rfl
  rw [hE] at hck
  obtain ⟨a,ha⟩:∃ a,a=r.a:=⟨_,rfl⟩
  have HJ:Hid (j=if x.a<a then 180 else 0):=Lib.hid (by rw [hJ.out,ha];unfold judgeE;rw [if_neg (by rw [hb];decide)])
  have HA:=Lib.hid ha
  clear hb hE hJ ha hX
  go_enter Tryz.func111,Tryz.ntmps111
  go_upto_region 1 with fail
  rw [<- hw1]
  clear hw1
  go_wp2_with fail
  refine hck.mono ?_
  clear hck y0 y1 y2 y3 y4 y5 y6 y7 y8 y9 y10 y11 y12
  rintro e w2 ⟨rfl,hb2⟩
  have hB2:=below_nx hB1 hb2 (Nat.le_refl _)
  have y0:w2.cell? ⟨w.heap.size,0,none⟩=some (.int .i64 x.a):=(hX1.on hb2).cell rfl
  have z0:w2.cell? ⟨R,2,none⟩=some (.int .i64 a):=by rw [HA.out];exact (hR1.below hb2).blk.cell rfl
  have y0d:w2.drew.cell? ⟨w.heap.size,0,none⟩=some (.int .i64 x.a):=y0
  have z0d:w2.drew.cell? ⟨R,2,none⟩=some (.int .i64 a):=z0
  clear hX1 hR1 HA hB1 hb2
  by_cases hlt:x.a<a
  ·have d1:decide (x.a<a)=true:=by simpa using hlt
   have HK:Hid (j=180):=Lib.hid (by rw [HJ.out,if_pos hlt])
   clear hlt HJ
   go_wp2_with fail
   go_quiet (fail)
   go_wp2_with fail
   go_ret
   exact ⟨by rw [HK.out];rfl,Mch.below_drewN hB2 _⟩
  ·have d1:decide (x.a<a)=false:=by simpa using hlt
   have HK:Hid (j=0):=Lib.hid (by rw [HJ.out,if_neg hlt])
   clear HJ
   go_wp2_with fail
   go_quiet (fail)
   go_wp2_with fail
   go_ret
   exact ⟨by rw [HK.out];rfl,Mch.below_drewN hB2 _⟩
end
end Go.Proofs.YtnfbncgfpmcpnaaGreat.Mdl
