/-
  ReplayNext: its walks, part 31.
-/
import Derived.Test.YtnfbncgfpmcpnaaGreatQ30
set_option maxRecDepth 100000
set_option maxHeartbeats 12800000
namespace Go.Proofs.YtnfbncgfpmcpnaaGreat.Mdl
open Go.RowKit
open Ent (En okB)
open Mch (Wt whatK putL toSendK toRecvK)
section
variable {M:Mod} {t:Int} {x:En}
theorem inv_serve (h:Inv M) (c:Int) (s:Bool) {v:Int} (hv:I64b v):Inv (M.setC c fun d=>d.serve s v):=h.setC c (fun _ _ hd=>hd.serve s hv) (fun _=>serve_cl s v)
theorem inv_do (h:Inv M) (hx:MvOk M t x) (ht:0<=t/\t<(M.T.length:Int)):Inv (M.do_ x):=by
 have hb:I64b x.b:=hx.wf.b
 have hv:I64b x.v:=hx.wf.v
 have hq:I64b x.q:=hx.wf.q
 have m1:I64b (-1):=⟨by omega,by omega⟩
 have h32:=h.t32
 have e:=hx.tt
 have hk:x.k=1 \/ x.k=2 \/ x.k=3 \/ x.k=4 \/ x.k=5 \/ x.k=6 \/ x.k=7 \/ x.k=8 \/ x.k=9 \/ x.k=10 \/ x.k=11:=by have:=hx.k;omega
 unfold Mod.do_
 rcases hk with hk | hk | hk | hk | hk | hk | hk | hk | hk | hk | hk <;> simp only [hk]
 ·exact (inv_serve h x.c true hv).goOn hb i64_zero _
 ·exact (inv_serve h x.c false i64_zero).goOn hb hv _
 ·split
  ·exact ((inv_serve h x.c true hv).goOn hb i64_zero _).goOn hq hv _
  ·exact ((inv_serve h x.c false hv).goOn hb hv _).goOn hq i64_zero _
 ·exact ((inv_serve h x.c false i64_zero).goOn hb hv _).goOn hq i64_zero _
 ·exact (h.closed x.c (by rw [e];omega)).goOn m1 i64_zero _
 ·exact h.goOn hb i64_zero _
 ·have ho:=hx.s7 hk
  have h0:=hx.st (.inl hk)
  obtain ⟨ha,_,_,_⟩:=does_at h.chk h0
  obtain ⟨s,hs,hs',_⟩:=site_at h.chk ha ho
  have:=(site_all h.chk hs').1
  refine h.goOn ?_ i64_zero _
  rw [e,hs]
  exact ⟨by omega,by omega⟩
 ·have h0:=hx.st (.inr hk)
  obtain ⟨ho,hc⟩:=hx.s8 hk
  obtain ⟨ha,_,_,_⟩:=does_at h.chk h0
  have hops:=tries_ok h.chk h.cl (h.sfr t) ha ho
  unfold Mod.block
  rw [e]
  have hw:=Waits.fold ht (tries M (M.stand t).1 (M.does t)) M h.waits (fun o hm=>by
   refine ⟨hops o hm,?_⟩
   by_cases hc1:o.c = -1
   ·exact .inl hc1
   ·refine .inr ?_
    have hnr:ready M o=false:=by
     cases hr:ready M o with
     | false=>rfl
     | true=>
      have:moveE t o (M.ch o.c) ∈ commits M t (tries M (M.stand t).1 (M.does t)):=List.mem_map.2 ⟨o,List.mem_filter.2 ⟨hm,hr⟩,rfl⟩
      rw [hc] at this;cases this
    have h6:(M.ch o.c).what o.s=6:=by
     unfold ready at hnr
     simp only [Bool.and_eq_false_imp,bne_iff_ne,ne_eq,hc1,not_false_eq_true,forall_const,bne_eq_false_iff_eq] at hnr
     exact hnr
    exact (what_six (h.chan o.c) h6).2)
  exact (hw.inv h).setT ⟨2,(M.stand t).1⟩ (h.sfr t)
 ·exact (h.spawned (hx.s9 hk) _ (rok_at0 (h.wfr _) _)).goOn m1 i64_zero _
 ·exact h.setT ⟨3,M.where_ x.t⟩ (h.wfr _)
 ·exact h.blamed x.t x.e
theorem at0_move (hx:MvOk M t x):En.at0 x=x:=by
 have:=hx.aa
 obtain ⟨a,k,w,t,p,c,b,q,v,u,o,e,s⟩:=x
 simp only at this
 subst this;rfl
theorem applyE_zero (h:Inv M):M.applyE x=0 ↔ En.at0 x ∈ M.moves x.t/\0<=x.a:=by
 unfold Mod.applyE
 constructor
 ·intro h0
  split at h0
  ·exact absurd h0 (by simp)
  ·split at h0
   ·exact absurd h0 (by simp)
   ·rename_i ho
    split at h0
    ·rename_i hm
     refine ⟨hm,?_⟩
     have ho2:okB x=true:=by
      cases hb:okB x with
      | true=>rfl
      | false=>rw [hb] at ho;simp at ho
     exact (ok_at0.1 ho2).2
    ·exact absurd h0 (by simp)
 ·rintro ⟨hm,ha⟩
  obtain ⟨ho,he,_⟩:=moves_ok h _ hm
  rw [if_neg (by simpa using he)]
  have hk:1<=x.k/\x.k<=11:=ho.k
  have hok:okB x=true:=ok_at0.2 ⟨ho.ok,ha⟩
  rw [if_neg (by simp [hok,hk.1,hk.2]),if_pos hm]
theorem inv_apply (h:Inv M):Inv (M.apply x):=by
 unfold Mod.apply
 split
 ·rename_i h0
  obtain ⟨hm,_⟩:=(applyE_zero h).1 h0
  obtain ⟨ho,_,ht⟩:=moves_ok h _ hm
  exact inv_do h ho ht
 ·exact h
end
open Go.RowKit
open Ent (En)
open Mch (Chn Frm Fw Fl below1 below_nx owns_slice' boxed_below)
section
variable {W W':World} {o o':Nat->Nat} {A B:Nat} {M N:Mod} {t:Int} {x:En}
theorem Md.off (h:Md W o B M) {k:Nat} (hk:W.heap.size<=k):o k=0:=by
 obtain ⟨lo,hi,v1,v2,v3,vT,vC,Cs,h⟩:=h
 cases e:o k with
 | zero=>rfl
 | succ n=>exact absurd (h.low k (by omega)) (by omega)
def EnO (W:World) (o:Nat->Nat) (A:Nat) (x:En):Prop:=Blk W A 39 (enA x)/\o A=0
theorem EnO.goes (h:EnO W o A x) (hg:Goes o o' W W'):EnO W' o' A x:=
 ⟨(hg.frm.block A h.1.lt (fun e=>e h.2)).trans h.1,(hg.old A h.1.lt).trans h.2⟩
theorem EnO.below (h:EnO W o A x) (hb:Below W.heap.size W W'):EnO W' o A x:=⟨h.1.later hb h.1.lt,h.2⟩
theorem EnO.c3 (h:EnO W o A x):W.cell? ⟨A,3,none⟩=some (.int .i64 x.t):=h.1.cell rfl
theorem EnO.c4 (h:EnO W o A x):W.cell? ⟨A,4,none⟩=some (.int .i64 x.p):=h.1.cell rfl
theorem EnO.c5 (h:EnO W o A x):W.cell? ⟨A,5,none⟩=some (.int .i64 x.c):=h.1.cell rfl
theorem EnO.c6 (h:EnO W o A x):W.cell? ⟨A,6,none⟩=some (.int .i64 x.b):=h.1.cell rfl
theorem EnO.c7 (h:EnO W o A x):W.cell? ⟨A,7,none⟩=some (.int .i64 x.q):=h.1.cell rfl
theorem EnO.c8 (h:EnO W o A x):W.cell? ⟨A,8,none⟩=some (.int .i64 x.v):=h.1.cell rfl
theorem EnO.c10 (h:EnO W o A x):W.cell? ⟨A,10,none⟩=some (.bool x.o):=h.1.cell rfl
theorem EnO.c11 (h:EnO W o A x):W.cell? ⟨A,11,none⟩=some (.int .i64 x.e):=h.1.cell rfl
end
section
variable {o:Nat->Nat} {B:Nat} {M:Mod} {t:Int} {x:En}
theorem goOn_i (t k v:Int) (ok:Bool) (w:World) (h:Md w o B M) (hI:Inv M) (ht:0<=t/\t<(M.T.length:Int)) :
  Calls Tryz.prog 102 #[ptrV B,.int .i64 t,.int .i64 k,.int .i64 v,.bool ok] w fun e w'=>e=.returned (.tuple #[])/\∃ o',Md w' o' B (M.goOn t k v ok)/\Goes o o' w w':=
 goOn_any t k v ok w h (by have:=hI.t32;omega) hI.chk hI.small hI.c6 hI.wl ht
theorem sent_i (t k:Int) (w:World) (h:Md w o B M) (hI:Inv M) (ht:0<=t/\t<(M.T.length:Int)) :
  Calls Tryz.prog 101 #[ptrV B,.int .i64 t,.int .i64 k] w fun e w'=>e=.returned (.tuple #[])/\∃ o',Md w' o' B (M.goOn t k 0 false)/\Goes o o' w w':=by
 have hg:=goOn_i t k 0 false w h hI ht
 go_enter Tryz.func101,Tryz.ntmps101
 go_wp2_with fail
 refine hg.mono ?_
 rintro e w1 ⟨rfl,h1⟩
 go_wp2_with fail
 go_end0
 exact ⟨rfl,h1⟩
theorem goOn_len (t k v:Int) (ok:Bool):(M.goOn t k v ok).T.length=M.T.length:=by unfold Mod.goOn;simp
abbrev Deed (o:Nat->Nat) (B:Nat) (N:Mod) (w:World) (e:Ending) (w':World):Prop:=e=.returned (.tuple #[])/\∃ o',Md w' o' B N/\Goes o o' w w'
theorem send_any (w:World) (h:Md w o B M) (hI:Inv M) (hx:MvOk M t x) (ht:0<=t/\t<(M.T.length:Int)) (hk:x.k=1) :
  Calls Tryz.prog 61 #[ptrV B,enV x] w (Deed o B (M.do_ x) w):=by
 obtain ⟨wa,hwa⟩:∃ wa,wa=w.alloc (.cells (enA x) 39):=⟨_,rfl⟩
 have hBa:Below w.heap.size w wa:=by rw [hwa];exact below1 w _
 have hX:EnO wa o w.heap.size x:=⟨by rw [hwa];exact blk_new w _ _,h.off (Nat.le_refl _)⟩
 have hh:=h.below hBa
 obtain ⟨hc0,hc1⟩:=hx.ch (by omega)
 obtain ⟨i,hi⟩:∃ i:Nat,(i:Int)=x.c:=⟨x.c.toNat,by omega⟩
 have hil:i<M.C.length:=by omega
 have hxt:=hx.tt
 obtain ⟨N,hN⟩:∃ N,N=M.setC x.c (fun c=>c.serve true x.v):=⟨_,rfl⟩
 have hIN:Inv N:=by rw [hN];exact inv_serve hI x.c true hx.wf.v
 have hTN:N.T.length=M.T.length:=by rw [hN];rfl
 obtain ⟨C,g,cap,hser⟩:=hh.chan_do hil (fn:=100) (args:=#[.bool true,.int .i64 x.v]) (f:=fun c=>c.serve true x.v) (R:=fun e=>∃ u,e=.returned u)
  (fun F C V hc=>(serve_any _ true x.v V hc (by have:=(hI.wl i).1;omega) (by have:=(hI.wl i).2;omega)).mono fun e w' ⟨h1,h2,h3⟩=>⟨⟨_,h1⟩,h2,h3⟩)
 rw [hi, <- hN] at hser
 have r0:Below wa.heap.size wa wa.drew:=(Below.refl _ _).drew
 have hXd:=hX.below r0
 obtain ⟨n5,ng,hcall⟩:=hser _ r0
 have hcall':Calls Tryz.prog 100 #[ptrV C,.bool true,.int .i64 x.v] wa.drew _:=hcall
 have e5:wa.drew.cell? ⟨w.heap.size,5,none⟩=some (.int .i64 (i:Int)):=by rw [hi];exact hXd.c5
 have e8:=hXd.c8
 have hS1:∀ (w':World) (o':Nat->Nat),Goes o o' wa.drew w'->w'.cell? ⟨w.heap.size,5,none⟩=some (.int .i64 (i:Int)):=fun w' o' g=>by rw [hi];exact (hXd.goes g).c5
 have q0:(0:Int)<=(i:Int):=by omega
 have q1:(i:Int)<(M.C.length:Int):=by omega
 obtain ⟨N0,hN0⟩:∃ N0,N0=N.goOn x.t x.b 0 false:=⟨_,rfl⟩
 have hIN0:Inv N0:=by rw [hN0];exact hIN.goOn hx.wf.b i64_zero _
 have hTN0:N0.T.length=M.T.length:=by rw [hN0,goOn_len,hTN]
 have tN0:0<=x.t/\x.t<(N.T.length:Int):=by rw [hTN];exact (by rw [hxt];exact ht)
 have HD:Hid (M.do_ x=N0):=Lib.hid (by unfold Mod.do_;simp only [hk];rw [hN0,hN])
 have hgo:=fun (W:World) (o1:Nat->Nat) (h1:Md W o1 B N)=>sent_i x.t x.b  W h1 hIN tN0
 rw [<- hN0] at hgo
 clear hk
 clear hser hcall hXd hi hil hc0 hc1 hIN hTN hN hx hxt hI h hh hN0 hTN0 tN0 hIN0
 go_enter Tryz.func61,Tryz.ntmps61
 go_upto_region 1 with fail
 rw [<- hwa]
 clear hwa
 go_region_held3 (fun W=>W.cell? ⟨w.heap.size,5,none⟩=some (.int .i64 (i:Int))/\W.cell? ⟨w.heap.size,8,none⟩=some (.int .i64 x.v)/\W.cell? ⟨B,5,none⟩=some (.slice (some ⟨g,0,none⟩) M.C.length cap)/\W.cell? ⟨g,i,none⟩=some (ptrV C))
  (first | exact ⟨f5,f8,c5,c6⟩ | exact ⟨e5,e8,n5,ng⟩)
  ((go_at_call 100;refine hcall'.mono ?_;rintro e w2 ⟨⟨u,rfl⟩,⟨o1,h1,g1⟩,c5,c6⟩;have f5:=hS1 _ _ g1;have f8:=((hX.below r0).goes g1).c8))
 have g2:=((Goes.of_below hBa).trans (Goes.of_below r0)).trans g1
 have hX2:=(hX.below r0).goes g1

 have s03:=hX2.c3
 have s06:=hX2.c6
 go_wp2_with fail
 refine (hgo _ _ h1).mono ?_
 rintro e w3 ⟨rfl,o2,k0,j0⟩
 have m0:=g2.trans j0
 have y0:=hX2.goes j0
 go_wp2_with fail
 go_end0
 rw [HD.out]
 exact ⟨rfl,_,k0,m0⟩
theorem receive_any (w:World) (h:Md w o B M) (hI:Inv M) (hx:MvOk M t x) (ht:0<=t/\t<(M.T.length:Int)) (hk:x.k=2) :
  Calls Tryz.prog 62 #[ptrV B,enV x] w (Deed o B (M.do_ x) w):=by
 obtain ⟨wa,hwa⟩:∃ wa,wa=w.alloc (.cells (enA x) 39):=⟨_,rfl⟩
 have hBa:Below w.heap.size w wa:=by rw [hwa];exact below1 w _
 have hX:EnO wa o w.heap.size x:=⟨by rw [hwa];exact blk_new w _ _,h.off (Nat.le_refl _)⟩
 have hh:=h.below hBa
 obtain ⟨hc0,hc1⟩:=hx.ch (by omega)
 obtain ⟨i,hi⟩:∃ i:Nat,(i:Int)=x.c:=⟨x.c.toNat,by omega⟩
 have hil:i<M.C.length:=by omega
 have hxt:=hx.tt
 obtain ⟨N,hN⟩:∃ N,N=M.setC x.c (fun c=>c.serve false 0):=⟨_,rfl⟩
 have hIN:Inv N:=by rw [hN];exact inv_serve hI x.c false i64_zero
 have hTN:N.T.length=M.T.length:=by rw [hN];rfl
 obtain ⟨C,g,cap,hser⟩:=hh.chan_do hil (fn:=100) (args:=#[.bool false,.int .i64 0]) (f:=fun c=>c.serve false 0) (R:=fun e=>∃ u,e=.returned u)
  (fun F C V hc=>(serve_any _ false 0 V hc (by have:=(hI.wl i).1;omega) (by have:=(hI.wl i).2;omega)).mono fun e w' ⟨h1,h2,h3⟩=>⟨⟨_,h1⟩,h2,h3⟩)
 rw [hi, <- hN] at hser
 have r0:Below wa.heap.size wa wa.drew:=(Below.refl _ _).drew
 have hXd:=hX.below r0
 obtain ⟨n5,ng,hcall⟩:=hser _ r0
 have hcall':Calls Tryz.prog 100 #[ptrV C,.bool false,.int .i64 0] wa.drew _:=hcall
 have e5:wa.drew.cell? ⟨w.heap.size,5,none⟩=some (.int .i64 (i:Int)):=by rw [hi];exact hXd.c5
 have e8:=hXd.c8
 have hS1:∀ (w':World) (o':Nat->Nat),Goes o o' wa.drew w'->w'.cell? ⟨w.heap.size,5,none⟩=some (.int .i64 (i:Int)):=fun w' o' g=>by rw [hi];exact (hXd.goes g).c5
 have q0:(0:Int)<=(i:Int):=by omega
 have q1:(i:Int)<(M.C.length:Int):=by omega
 obtain ⟨N0,hN0⟩:∃ N0,N0=N.goOn x.t x.b x.v x.o:=⟨_,rfl⟩
 have hIN0:Inv N0:=by rw [hN0];exact hIN.goOn hx.wf.b hx.wf.v _
 have hTN0:N0.T.length=M.T.length:=by rw [hN0,goOn_len,hTN]
 have tN0:0<=x.t/\x.t<(N.T.length:Int):=by rw [hTN];exact (by rw [hxt];exact ht)
 have HD:Hid (M.do_ x=N0):=Lib.hid (by unfold Mod.do_;simp only [hk];rw [hN0,hN])
 have hgo:=fun (W:World) (o1:Nat->Nat) (h1:Md W o1 B N)=>goOn_i x.t x.b x.v x.o W h1 hIN tN0
 rw [<- hN0] at hgo
 clear hk
 clear hser hcall hXd hi hil hc0 hc1 hIN hTN hN hx hxt hI h hh hN0 hTN0 tN0 hIN0
 go_enter Tryz.func62,Tryz.ntmps62
 go_upto_region 1 with fail
 rw [<- hwa]
 clear hwa
 go_region_held3 (fun W=>W.cell? ⟨w.heap.size,5,none⟩=some (.int .i64 (i:Int))/\W.cell? ⟨w.heap.size,8,none⟩=some (.int .i64 x.v)/\W.cell? ⟨B,5,none⟩=some (.slice (some ⟨g,0,none⟩) M.C.length cap)/\W.cell? ⟨g,i,none⟩=some (ptrV C))
  (first | exact ⟨f5,f8,c5,c6⟩ | exact ⟨e5,e8,n5,ng⟩)
  ((go_at_call 100;refine hcall'.mono ?_;rintro e w2 ⟨⟨u,rfl⟩,⟨o1,h1,g1⟩,c5,c6⟩;have f5:=hS1 _ _ g1;have f8:=((hX.below r0).goes g1).c8))
 have g2:=((Goes.of_below hBa).trans (Goes.of_below r0)).trans g1
 have hX2:=(hX.below r0).goes g1

 have s03:=hX2.c3
 have s06:=hX2.c6
 have s08:=hX2.c8
 have s010:=hX2.c10
 go_wp2_with fail
 refine (hgo _ _ h1).mono ?_
 rintro e w3 ⟨rfl,o2,k0,j0⟩
 have m0:=g2.trans j0
 have y0:=hX2.goes j0
 go_wp2_with fail
 go_end0
 rw [HD.out]
 exact ⟨rfl,_,k0,m0⟩
theorem meet_true_any (w:World) (h:Md w o B M) (hI:Inv M) (hx:MvOk M t x) (ht:0<=t/\t<(M.T.length:Int)) (hk:x.k=3) (ho:x.o=true) :
  Calls Tryz.prog 63 #[ptrV B,enV x] w (Deed o B (M.do_ x) w):=by
 obtain ⟨wa,hwa⟩:∃ wa,wa=w.alloc (.cells (enA x) 39):=⟨_,rfl⟩
 have hBa:Below w.heap.size w wa:=by rw [hwa];exact below1 w _
 have hX:EnO wa o w.heap.size x:=⟨by rw [hwa];exact blk_new w _ _,h.off (Nat.le_refl _)⟩
 have hh:=h.below hBa
 obtain ⟨hc0,hc1⟩:=hx.ch (by omega)
 obtain ⟨i,hi⟩:∃ i:Nat,(i:Int)=x.c:=⟨x.c.toNat,by omega⟩
 have hil:i<M.C.length:=by omega
 have hxt:=hx.tt
 obtain ⟨N,hN⟩:∃ N,N=M.setC x.c (fun c=>c.serve true x.v):=⟨_,rfl⟩
 have hIN:Inv N:=by rw [hN];exact inv_serve hI x.c true hx.wf.v
 have hTN:N.T.length=M.T.length:=by rw [hN];rfl
 obtain ⟨C,g,cap,hser⟩:=hh.chan_do hil (fn:=100) (args:=#[.bool true,.int .i64 x.v]) (f:=fun c=>c.serve true x.v) (R:=fun e=>∃ u,e=.returned u)
  (fun F C V hc=>(serve_any _ true x.v V hc (by have:=(hI.wl i).1;omega) (by have:=(hI.wl i).2;omega)).mono fun e w' ⟨h1,h2,h3⟩=>⟨⟨_,h1⟩,h2,h3⟩)
 rw [hi, <- hN] at hser
 have r0:Below wa.heap.size wa wa.drew:=(Below.refl _ _).drew
 have hXd:=hX.below r0
 obtain ⟨n5,ng,hcall⟩:=hser _ r0
 have hcall':Calls Tryz.prog 100 #[ptrV C,.bool true,.int .i64 x.v] wa.drew _:=hcall
 have e5:wa.drew.cell? ⟨w.heap.size,5,none⟩=some (.int .i64 (i:Int)):=by rw [hi];exact hXd.c5
 have e8:=hXd.c8
 have hS1:∀ (w':World) (o':Nat->Nat),Goes o o' wa.drew w'->w'.cell? ⟨w.heap.size,5,none⟩=some (.int .i64 (i:Int)):=fun w' o' g=>by rw [hi];exact (hXd.goes g).c5
 have q0:(0:Int)<=(i:Int):=by omega
 have q1:(i:Int)<(M.C.length:Int):=by omega
 have e10:wa.drew.cell? ⟨w.heap.size,10,none⟩=some (.bool true):=by rw [<- ho];exact hXd.c10
 have hS10:∀ (w':World) (o':Nat->Nat),Goes o o' wa.drew w'->w'.cell? ⟨w.heap.size,10,none⟩=some (.bool true):=fun w' o' g=>by rw [<- ho];exact (hXd.goes g).c10
 obtain ⟨N0,hN0⟩:∃ N0,N0=N.goOn x.t x.b 0 false:=⟨_,rfl⟩
 have hIN0:Inv N0:=by rw [hN0];exact hIN.goOn hx.wf.b i64_zero _
 have hTN0:N0.T.length=M.T.length:=by rw [hN0,goOn_len,hTN]
 have tN0:0<=x.t/\x.t<(N.T.length:Int):=by rw [hTN];exact (by rw [hxt];exact ht)
 obtain ⟨N1,hN1⟩:∃ N1,N1=N0.goOn x.p x.q x.v true:=⟨_,rfl⟩
 have hIN1:Inv N1:=by rw [hN1];exact hIN0.goOn hx.wf.q hx.wf.v _
 have hTN1:N1.T.length=M.T.length:=by rw [hN1,goOn_len,hTN0]
 have tN1:0<=x.p/\x.p<(N0.T.length:Int):=by rw [hTN0];exact hx.pe (by omega)
 have HD:Hid (M.do_ x=N1):=Lib.hid (by unfold Mod.do_;simp only [hk];rw [ho];rw [hN1,hN0,hN];rfl)
 have hgo:=fun (W:World) (o1:Nat->Nat) (h1:Md W o1 B N)=>sent_i x.t x.b  W h1 hIN tN0
 rw [<- hN0] at hgo
 have hgo2:=fun (W:World) (o1:Nat->Nat) (h1:Md W o1 B N0)=>goOn_i x.p x.q x.v true W h1 hIN0 tN1
 rw [<- hN1] at hgo2
 have HO:=Lib.hid ho
 clear ho hk hser hcall hXd hi hil hc0 hc1 hIN hTN hN hx hxt hI h hh hN0 hTN0 tN0 hIN0 hN1 hTN1 tN1 hIN1
 go_enter Tryz.func63,Tryz.ntmps63
 go_upto_region 1 with fail
 rw [<- hwa]
 clear hwa
 go_region_held3 (fun W=>W.cell? ⟨w.heap.size,5,none⟩=some (.int .i64 (i:Int))/\W.cell? ⟨w.heap.size,8,none⟩=some (.int .i64 x.v)/\W.cell? ⟨B,5,none⟩=some (.slice (some ⟨g,0,none⟩) M.C.length cap)/\W.cell? ⟨g,i,none⟩=some (ptrV C)/\W.cell? ⟨w.heap.size,10,none⟩=some (.bool true))
  (first | exact ⟨f5,f8,c5,c6,f10⟩ | exact ⟨e5,e8,n5,ng,e10⟩)
  ((go_at_call 100;refine hcall'.mono ?_;rintro e w2 ⟨⟨u,rfl⟩,⟨o1,h1,g1⟩,c5,c6⟩;have f5:=hS1 _ _ g1;have f8:=((hX.below r0).goes g1).c8;have f10:=hS10 _ _ g1))
 have g2:=((Goes.of_below hBa).trans (Goes.of_below r0)).trans g1
 have hX2:=(hX.below r0).goes g1

 have s010:w2.cell? ⟨w.heap.size,10,none⟩=some (.bool true):=by rw [<- HO.out];exact hX2.c10
 have s03:=hX2.c3
 have s06:=hX2.c6
 go_wp2_with fail
 refine (hgo _ _ h1).mono ?_
 rintro e w3 ⟨rfl,o2,k0,j0⟩
 have m0:=g2.trans j0
 have y0:=hX2.goes j0
 have s14:=y0.c4
 have s17:=y0.c7
 have s18:=y0.c8
 go_wp2_with fail
 refine (hgo2 _ _ k0).mono ?_
 rintro e w4 ⟨rfl,o3,k1,j1⟩
 have m1:=m0.trans j1
 have y1:=y0.goes j1
 go_wp2_with fail
 go_end0
 rw [HD.out]
 exact ⟨rfl,_,k1,m1⟩
theorem meet_false_any (w:World) (h:Md w o B M) (hI:Inv M) (hx:MvOk M t x) (ht:0<=t/\t<(M.T.length:Int)) (hk:x.k=3) (ho:x.o=false) :
  Calls Tryz.prog 63 #[ptrV B,enV x] w (Deed o B (M.do_ x) w):=by
 obtain ⟨wa,hwa⟩:∃ wa,wa=w.alloc (.cells (enA x) 39):=⟨_,rfl⟩
 have hBa:Below w.heap.size w wa:=by rw [hwa];exact below1 w _
 have hX:EnO wa o w.heap.size x:=⟨by rw [hwa];exact blk_new w _ _,h.off (Nat.le_refl _)⟩
 have hh:=h.below hBa
 obtain ⟨hc0,hc1⟩:=hx.ch (by omega)
 obtain ⟨i,hi⟩:∃ i:Nat,(i:Int)=x.c:=⟨x.c.toNat,by omega⟩
 have hil:i<M.C.length:=by omega
 have hxt:=hx.tt
 obtain ⟨N,hN⟩:∃ N,N=M.setC x.c (fun c=>c.serve false x.v):=⟨_,rfl⟩
 have hIN:Inv N:=by rw [hN];exact inv_serve hI x.c false hx.wf.v
 have hTN:N.T.length=M.T.length:=by rw [hN];rfl
 obtain ⟨C,g,cap,hser⟩:=hh.chan_do hil (fn:=100) (args:=#[.bool false,.int .i64 x.v]) (f:=fun c=>c.serve false x.v) (R:=fun e=>∃ u,e=.returned u)
  (fun F C V hc=>(serve_any _ false x.v V hc (by have:=(hI.wl i).1;omega) (by have:=(hI.wl i).2;omega)).mono fun e w' ⟨h1,h2,h3⟩=>⟨⟨_,h1⟩,h2,h3⟩)
 rw [hi, <- hN] at hser
 have r0:Below wa.heap.size wa wa.drew:=(Below.refl _ _).drew
 have hXd:=hX.below r0
 obtain ⟨n5,ng,hcall⟩:=hser _ r0
 have hcall':Calls Tryz.prog 100 #[ptrV C,.bool false,.int .i64 x.v] wa.drew _:=hcall
 have e5:wa.drew.cell? ⟨w.heap.size,5,none⟩=some (.int .i64 (i:Int)):=by rw [hi];exact hXd.c5
 have e8:=hXd.c8
 have hS1:∀ (w':World) (o':Nat->Nat),Goes o o' wa.drew w'->w'.cell? ⟨w.heap.size,5,none⟩=some (.int .i64 (i:Int)):=fun w' o' g=>by rw [hi];exact (hXd.goes g).c5
 have q0:(0:Int)<=(i:Int):=by omega
 have q1:(i:Int)<(M.C.length:Int):=by omega
 have e10:wa.drew.cell? ⟨w.heap.size,10,none⟩=some (.bool false):=by rw [<- ho];exact hXd.c10
 have hS10:∀ (w':World) (o':Nat->Nat),Goes o o' wa.drew w'->w'.cell? ⟨w.heap.size,10,none⟩=some (.bool false):=fun w' o' g=>by rw [<- ho];exact (hXd.goes g).c10
 obtain ⟨N0,hN0⟩:∃ N0,N0=N.goOn x.t x.b x.v true:=⟨_,rfl⟩
 have hIN0:Inv N0:=by rw [hN0];exact hIN.goOn hx.wf.b hx.wf.v _
 have hTN0:N0.T.length=M.T.length:=by rw [hN0,goOn_len,hTN]
 have tN0:0<=x.t/\x.t<(N.T.length:Int):=by rw [hTN];exact (by rw [hxt];exact ht)
 obtain ⟨N1,hN1⟩:∃ N1,N1=N0.goOn x.p x.q 0 false:=⟨_,rfl⟩
 have hIN1:Inv N1:=by rw [hN1];exact hIN0.goOn hx.wf.q i64_zero _
 have hTN1:N1.T.length=M.T.length:=by rw [hN1,goOn_len,hTN0]
 have tN1:0<=x.p/\x.p<(N0.T.length:Int):=by rw [hTN0];exact hx.pe (by omega)
 have HD:Hid (M.do_ x=N1):=Lib.hid (by unfold Mod.do_;simp only [hk];rw [ho];rw [hN1,hN0,hN];rfl)
 have hgo:=fun (W:World) (o1:Nat->Nat) (h1:Md W o1 B N)=>goOn_i x.t x.b x.v true W h1 hIN tN0
 rw [<- hN0] at hgo
 have hgo2:=fun (W:World) (o1:Nat->Nat) (h1:Md W o1 B N0)=>sent_i x.p x.q  W h1 hIN0 tN1
 rw [<- hN1] at hgo2
 have HO:=Lib.hid ho
 clear ho hk hser hcall hXd hi hil hc0 hc1 hIN hTN hN hx hxt hI h hh hN0 hTN0 tN0 hIN0 hN1 hTN1 tN1 hIN1
 go_enter Tryz.func63,Tryz.ntmps63
 go_upto_region 1 with fail
 rw [<- hwa]
 clear hwa
 go_region_held3 (fun W=>W.cell? ⟨w.heap.size,5,none⟩=some (.int .i64 (i:Int))/\W.cell? ⟨w.heap.size,8,none⟩=some (.int .i64 x.v)/\W.cell? ⟨B,5,none⟩=some (.slice (some ⟨g,0,none⟩) M.C.length cap)/\W.cell? ⟨g,i,none⟩=some (ptrV C)/\W.cell? ⟨w.heap.size,10,none⟩=some (.bool false))
  (first | exact ⟨f5,f8,c5,c6,f10⟩ | exact ⟨e5,e8,n5,ng,e10⟩)
  ((go_at_call 100;refine hcall'.mono ?_;rintro e w2 ⟨⟨u,rfl⟩,⟨o1,h1,g1⟩,c5,c6⟩;have f5:=hS1 _ _ g1;have f8:=((hX.below r0).goes g1).c8;have f10:=hS10 _ _ g1))
 have g2:=((Goes.of_below hBa).trans (Goes.of_below r0)).trans g1
 have hX2:=(hX.below r0).goes g1

 have s010:w2.cell? ⟨w.heap.size,10,none⟩=some (.bool false):=by rw [<- HO.out];exact hX2.c10
 have s03:=hX2.c3
 have s06:=hX2.c6
 have s08:=hX2.c8
 go_wp2_with fail
 refine (hgo _ _ h1).mono ?_
 rintro e w3 ⟨rfl,o2,k0,j0⟩
 have m0:=g2.trans j0
 have y0:=hX2.goes j0
 have s14:=y0.c4
 have s17:=y0.c7
 go_wp2_with fail
 refine (hgo2 _ _ k0).mono ?_
 rintro e w4 ⟨rfl,o3,k1,j1⟩
 have m1:=m0.trans j1
 have y1:=y0.goes j1
 go_wp2_with fail
 go_end0
 rw [HD.out]
 exact ⟨rfl,_,k1,m1⟩
theorem refill_any (w:World) (h:Md w o B M) (hI:Inv M) (hx:MvOk M t x) (ht:0<=t/\t<(M.T.length:Int)) (hk:x.k=4) :
  Calls Tryz.prog 64 #[ptrV B,enV x] w (Deed o B (M.do_ x) w):=by
 obtain ⟨wa,hwa⟩:∃ wa,wa=w.alloc (.cells (enA x) 39):=⟨_,rfl⟩
 have hBa:Below w.heap.size w wa:=by rw [hwa];exact below1 w _
 have hX:EnO wa o w.heap.size x:=⟨by rw [hwa];exact blk_new w _ _,h.off (Nat.le_refl _)⟩
 have hh:=h.below hBa
 obtain ⟨hc0,hc1⟩:=hx.ch (by omega)
 obtain ⟨i,hi⟩:∃ i:Nat,(i:Int)=x.c:=⟨x.c.toNat,by omega⟩
 have hil:i<M.C.length:=by omega
 have hxt:=hx.tt
 obtain ⟨N,hN⟩:∃ N,N=M.setC x.c (fun c=>c.serve false 0):=⟨_,rfl⟩
 have hIN:Inv N:=by rw [hN];exact inv_serve hI x.c false i64_zero
 have hTN:N.T.length=M.T.length:=by rw [hN];rfl
 obtain ⟨C,g,cap,hser⟩:=hh.chan_do hil (fn:=100) (args:=#[.bool false,.int .i64 0]) (f:=fun c=>c.serve false 0) (R:=fun e=>∃ u,e=.returned u)
  (fun F C V hc=>(serve_any _ false 0 V hc (by have:=(hI.wl i).1;omega) (by have:=(hI.wl i).2;omega)).mono fun e w' ⟨h1,h2,h3⟩=>⟨⟨_,h1⟩,h2,h3⟩)
 rw [hi, <- hN] at hser
 have r0:Below wa.heap.size wa wa.drew:=(Below.refl _ _).drew
 have hXd:=hX.below r0
 obtain ⟨n5,ng,hcall⟩:=hser _ r0
 have hcall':Calls Tryz.prog 100 #[ptrV C,.bool false,.int .i64 0] wa.drew _:=hcall
 have e5:wa.drew.cell? ⟨w.heap.size,5,none⟩=some (.int .i64 (i:Int)):=by rw [hi];exact hXd.c5
 have e8:=hXd.c8
 have hS1:∀ (w':World) (o':Nat->Nat),Goes o o' wa.drew w'->w'.cell? ⟨w.heap.size,5,none⟩=some (.int .i64 (i:Int)):=fun w' o' g=>by rw [hi];exact (hXd.goes g).c5
 have q0:(0:Int)<=(i:Int):=by omega
 have q1:(i:Int)<(M.C.length:Int):=by omega
 obtain ⟨N0,hN0⟩:∃ N0,N0=N.goOn x.t x.b x.v true:=⟨_,rfl⟩
 have hIN0:Inv N0:=by rw [hN0];exact hIN.goOn hx.wf.b hx.wf.v _
 have hTN0:N0.T.length=M.T.length:=by rw [hN0,goOn_len,hTN]
 have tN0:0<=x.t/\x.t<(N.T.length:Int):=by rw [hTN];exact (by rw [hxt];exact ht)
 obtain ⟨N1,hN1⟩:∃ N1,N1=N0.goOn x.p x.q 0 false:=⟨_,rfl⟩
 have hIN1:Inv N1:=by rw [hN1];exact hIN0.goOn hx.wf.q i64_zero _
 have hTN1:N1.T.length=M.T.length:=by rw [hN1,goOn_len,hTN0]
 have tN1:0<=x.p/\x.p<(N0.T.length:Int):=by rw [hTN0];exact hx.pe (by omega)
 have HD:Hid (M.do_ x=N1):=Lib.hid (by unfold Mod.do_;simp only [hk];rw [hN1,hN0,hN])
 have hgo:=fun (W:World) (o1:Nat->Nat) (h1:Md W o1 B N)=>goOn_i x.t x.b x.v true W h1 hIN tN0
 rw [<- hN0] at hgo
 have hgo2:=fun (W:World) (o1:Nat->Nat) (h1:Md W o1 B N0)=>sent_i x.p x.q  W h1 hIN0 tN1
 rw [<- hN1] at hgo2
 clear hk
 clear hser hcall hXd hi hil hc0 hc1 hIN hTN hN hx hxt hI h hh hN0 hTN0 tN0 hIN0 hN1 hTN1 tN1 hIN1
 go_enter Tryz.func64,Tryz.ntmps64
 go_upto_region 1 with fail
 rw [<- hwa]
 clear hwa
 go_region_held3 (fun W=>W.cell? ⟨w.heap.size,5,none⟩=some (.int .i64 (i:Int))/\W.cell? ⟨w.heap.size,8,none⟩=some (.int .i64 x.v)/\W.cell? ⟨B,5,none⟩=some (.slice (some ⟨g,0,none⟩) M.C.length cap)/\W.cell? ⟨g,i,none⟩=some (ptrV C))
  (first | exact ⟨f5,f8,c5,c6⟩ | exact ⟨e5,e8,n5,ng⟩)
  ((go_at_call 100;refine hcall'.mono ?_;rintro e w2 ⟨⟨u,rfl⟩,⟨o1,h1,g1⟩,c5,c6⟩;have f5:=hS1 _ _ g1;have f8:=((hX.below r0).goes g1).c8))
 have g2:=((Goes.of_below hBa).trans (Goes.of_below r0)).trans g1
 have hX2:=(hX.below r0).goes g1

 have s03:=hX2.c3
 have s06:=hX2.c6
 have s08:=hX2.c8
 go_wp2_with fail
 refine (hgo _ _ h1).mono ?_
 rintro e w3 ⟨rfl,o2,k0,j0⟩
 have m0:=g2.trans j0
 have y0:=hX2.goes j0
 have s14:=y0.c4
 have s17:=y0.c7
 go_wp2_with fail
 refine (hgo2 _ _ k0).mono ?_
 rintro e w4 ⟨rfl,o3,k1,j1⟩
 have m1:=m0.trans j1
 have y1:=y0.goes j1
 go_wp2_with fail
 go_end0
 rw [HD.out]
 exact ⟨rfl,_,k1,m1⟩
end
open Go.RowKit
open Ent (En)
open Mch (Chn Frm Fw Fl below1 below_nx owns_slice' boxed_below)
section
variable {o:Nat->Nat} {B:Nat} {M:Mod} {t:Int} {x:En}
theorem wake_any (w:World) (h:Md w o B M) (hI:Inv M) (hx:MvOk M t x) (ht:0<=t/\t<(M.T.length:Int)) (hk:x.k=6) :
  Calls Tryz.prog 66 #[ptrV B,enV x] w (Deed o B (M.do_ x) w):=by
 obtain ⟨wa,hwa⟩:∃ wa,wa=w.alloc (.cells (enA x) 39):=⟨_,rfl⟩
 have hBa:Below w.heap.size w wa:=by rw [hwa];exact below1 w _
 have hX:EnO wa o w.heap.size x:=⟨by rw [hwa];exact blk_new w _ _,h.off (Nat.le_refl _)⟩
 have hh:=h.below hBa
 have hxt:=hx.tt
 have hxb:0<=x.t/\x.t<(M.T.length:Int):=by rw [hxt];exact ht
 have hgo:=goOn_i x.t x.b 0 false wa hh hI hxb
 have HD:Hid (M.do_ x=M.goOn x.t x.b 0 false):=Lib.hid (by unfold Mod.do_;simp only [hk])
 have e3:=hX.c3
 have e6:=hX.c6
 clear hk hxt hxb hx ht hI h hh
 go_enter Tryz.func66,Tryz.ntmps66
 go_upto_region 1 with fail
 rw [<- hwa]
 clear hwa
 go_wp2_with fail
 refine hgo.mono ?_
 rintro e w2 ⟨rfl,o2,h2,g2⟩
 go_wp2_with fail
 go_end0
 rw [HD.out]
 exact ⟨rfl,_,h2,(Goes.of_below hBa).trans g2⟩
theorem halt_any (w:World) (h:Md w o B M) (_hI:Inv M) (hx:MvOk M t x) (ht:0<=t/\t<(M.T.length:Int)) (hk:x.k=11) :
  Calls Tryz.prog 71 #[ptrV B,enV x] w (Deed o B (M.do_ x) w):=by
 obtain ⟨wa,hwa⟩:∃ wa,wa=w.alloc (.cells (enA x) 39):=⟨_,rfl⟩
 have hBa:Below w.heap.size w wa:=by rw [hwa];exact below1 w _
 have hX:EnO wa o w.heap.size x:=⟨by rw [hwa];exact blk_new w _ _,h.off (Nat.le_refl _)⟩
 have hh:=h.below hBa
 have hxt:=hx.tt
 have hxb:0<=x.t/\x.t<(M.T.length:Int):=by rw [hxt];exact ht
 have HD:Hid (M.do_ x = { M with who:=x.t,e:=x.e }):=Lib.hid (by unfold Mod.do_;simp only [hk])
 have r0:Below wa.heap.size wa wa.drew:=(Below.refl _ _).drew
 have e3:=(hX.below r0).c3
 have e11:=(hX.below r0).c11
 have u3:=hX.c3
 have u11:=hX.c11
 obtain ⟨lo,hi,v1,v2,v3,vT,vC,Cs,hM⟩:=hh
 have b1:=hM.wh
 have b2:=hM.er
 have b3:=hM.frozen
 obtain ⟨hN,hF⟩:=hM.blamed x.t x.e
 have hN':=hN.drew
 have hg:Goes o o w ((wa.setCell ⟨B,12,none⟩ (.int .i64 x.t)).setCell ⟨B,13,none⟩ (.int .i64 x.e)).drew:=(Goes.of_below hBa).trans ((Goes.of_frm hF (fun k e=>by rw [e];omega)).trans (Goes.of_below (Below.refl _ _).drew))
 have hne:w.heap.size ≠ B:=by have:=hM.hown;have:=hX.2;intro e;rw [e] at this;omega
 clear hk hxt hxb hx ht h hM hF hN hX
 go_enter Tryz.func71,Tryz.ntmps71
 go_upto_region 1 with fail
 rw [<- hwa]
 clear hwa
 go_region
 go_wp2_with fail
 go_end0
 rw [HD.out]
 exact ⟨rfl,_,⟨_,_,_,_,_,_,_,_,hN'⟩,hg⟩
theorem shut_any (w:World) (h:Md w o B M) (hI:Inv M) (hx:MvOk M t x) (ht:0<=t/\t<(M.T.length:Int)) (hk:x.k=5) :
  Calls Tryz.prog 65 #[ptrV B,enV x] w (Deed o B (M.do_ x) w):=by
 obtain ⟨wa,hwa⟩:∃ wa,wa=w.alloc (.cells (enA x) 39):=⟨_,rfl⟩
 have hBa:Below w.heap.size w wa:=by rw [hwa];exact below1 w _
 have hX:EnO wa o w.heap.size x:=⟨by rw [hwa];exact blk_new w _ _,h.off (Nat.le_refl _)⟩
 have hh:=h.below hBa
 have hxt:=hx.tt
 have hxb:0<=x.t/\x.t<(M.T.length:Int):=by rw [hxt];exact ht
 obtain ⟨hc0,hc1⟩:=hx.ch (by omega)
 obtain ⟨i,hi⟩:∃ i:Nat,(i:Int)=x.c:=⟨x.c.toNat,by omega⟩
 have hil:i<M.C.length:=by omega
 have hi6:i<6:=by have:=hI.c6;omega
 obtain ⟨N,hN⟩:∃ N,N=M.setC x.c Cha.close:=⟨_,rfl⟩
 obtain ⟨N1,hN1⟩:∃ N1:Mod,N1 = { N with K:=fun j=>if j=i then x.t else N.K j }:=⟨_,rfl⟩
 have hIN:Inv N1:=by
  rw [hN1,hN]
  have h32:=hI.t32
  have:=hI.closed (t:=x.t) x.c ⟨hxb.1,by omega⟩
  rw [<- hi,Int.toNat_natCast] at this
  rw [<- hi]
  exact this
 have hTN:N1.T.length=M.T.length:=by rw [hN1,hN];rfl
 have HD:Hid (M.do_ x=N1.goOn x.t (-1) 0 false):=Lib.hid (by unfold Mod.do_;simp only [hk];rw [hN1,hN, <- hi,Int.toNat_natCast];rfl)
 have hgo:=fun (W:World) (o1:Nat->Nat) (h1:Md W o1 B N1)=>sent_i x.t (-1) W h1 hIN (by rw [hTN];exact hxb)
 obtain ⟨C,g,cap,hser⟩:=hh.chan_do hil (fn:=103) (args:=#[]) (f:=Cha.close) (R:=fun e=>∃ u,e=.returned u)
  (fun F C V hc=>(Mch.close_any V hc).mono fun e w' hp=>⟨by obtain ⟨k,hk⟩:=hp.1;exact ⟨_,hk⟩,hp.2.1.mono (fun _ e=>.inl e),hp.2.2⟩)
 rw [hi, <- hN] at hser
 have r0:Below wa.heap.size wa wa.drew:=(Below.refl _ _).drew
 have hXd:=hX.below r0
 obtain ⟨n5,ng,hcall⟩:=hser _ r0
 have hcall':Calls Tryz.prog 103 #[ptrV C] wa.drew _:=hcall
 have e5:wa.drew.cell? ⟨w.heap.size,5,none⟩=some (.int .i64 (i:Int)):=by rw [hi];exact hXd.c5
 have q0:(0:Int)<=(i:Int):=by omega
 have q1:(i:Int)<(M.C.length:Int):=by omega
 have q6:(i:Int)<6:=by omega
 have hS1:∀ (w':World) (o':Nat->Nat),Goes o o' wa.drew w'->w'.cell? ⟨w.heap.size,5,none⟩=some (.int .i64 (i:Int)):=fun w' o' g=>by rw [hi];exact (hXd.goes g).c5
 have hX0:=hX.2
 clear hk hxt hxb hx ht hI h hh hser hcall hXd hi hil hc0 hc1 hIN hTN hN
 go_enter Tryz.func65,Tryz.ntmps65
 go_upto_region 1 with fail
 rw [<- hwa]
 clear hwa
 go_region_held3 (fun W=>W.cell? ⟨w.heap.size,5,none⟩=some (.int .i64 (i:Int))/\W.cell? ⟨B,5,none⟩=some (.slice (some ⟨g,0,none⟩) M.C.length cap)/\W.cell? ⟨g,i,none⟩=some (ptrV C))
  (first | exact ⟨f5,c5,c6⟩ | exact ⟨e5,n5,ng⟩)
  ((go_at_call 103;refine hcall'.mono ?_;rintro e w2 ⟨⟨u,rfl⟩,⟨o1,h1,g1⟩,c5,c6⟩;have f5:=hS1 _ _ g1))
 have g2:=((Goes.of_below hBa).trans (Goes.of_below r0)).trans g1
 have hX2:=(hX.below r0).goes g1
 have z0:Below w2.heap.size w2 w2.drew:=(Below.refl _ _).drew
 have z3:=(hX2.below z0).c3
 have z5:w2.drew.cell? ⟨w.heap.size,5,none⟩=some (.int .i64 (i:Int)):=f5
 have y3:=hX2.c3
 obtain ⟨lo,hi,v1,v2,v3,vT,vC,Cs,hM⟩:=h1
 have kk:=hM.kk hi6
 have kf:=hM.frozen
 obtain ⟨hQ,hF⟩:=hM.closer hi6 x.t
 rw [<- hN1] at hQ
 have hQ':=hQ.drew
 have hg3:Goes o1 o1 w2 (w2.setCell ⟨B,6+i,none⟩ (.int .i64 x.t)).drew:=(Goes.of_frm hF (fun k e=>by rw [e];omega)).trans (Goes.of_below (Below.refl _ _).drew)
 have hX3:=hX2.goes hg3
 have hg4:=g2.trans hg3
 have hgo':=hgo _ o1 ⟨_,_,_,_,_,_,_,_,hQ'⟩
 clear hM hF hQ hQ' hg3 hX2 hgo g2 hN1
 go_upto_region 2 with fail
 go_region
 generalize (w2.setCell ⟨B,6+i,none⟩ (.int .i64 x.t)).drew=w4 at hgo' hX3 hg4 ⊢
 have s3:=hX3.c3
 go_wp2_with fail
 refine hgo'.mono ?_
 rintro e w5 ⟨rfl,o5,k5,j5⟩
 go_wp2_with fail
 go_end0
 rw [HD.out]
 exact ⟨rfl,_,k5,hg4.trans j5⟩
end
end Go.Proofs.YtnfbncgfpmcpnaaGreat.Mdl
