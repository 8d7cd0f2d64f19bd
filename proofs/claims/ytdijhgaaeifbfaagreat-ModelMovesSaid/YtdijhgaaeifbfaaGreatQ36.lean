/-
  ModelMoves: its walks, part 36: DDeeds DDeeds2 DDeeds4.
-/
import Derived.Test.YtdijhgaaeifbfaaGreatQ00
import Derived.Test.YtdijhgaaeifbfaaGreatQ28
import Derived.Test.YtdijhgaaeifbfaaGreatQ35
set_option maxRecDepth 100000
set_option maxHeartbeats 12800000
namespace Go.Proofs.YtdijhgaaeifbfaaGreat.Mdl
open Go.RowKit
open Ent (En)
open Mch (Chn Frm Fw Fl below1 below_nx owns_slice' boxed_below)
section
variable {W W' : World} {o o' : Nat -> Nat} {A B : Nat} {M N : Mod} {t : Int} {x : En}
theorem Md.off (h : Md W o B M) {k : Nat} (hk : W.heap.size <= k) : o k = 0 := by
  obtain ⟨lo, hi, v1, v2, v3, vT, vC, Cs, h⟩ := h
  cases e : o k with
  | zero => rfl
  | succ n => exact absurd (h.low k (by omega)) (by omega)
def EnO (W : World) (o : Nat -> Nat) (A : Nat) (x : En) : Prop := Blk W A 32 (enA x) /\ o A = 0
theorem EnO.goes (h : EnO W o A x) (hg : Goes o o' W W') : EnO W' o' A x :=
  ⟨(hg.frm.block A h.1.lt (fun e => e h.2)).trans h.1, (hg.old A h.1.lt).trans h.2⟩
theorem EnO.below (h : EnO W o A x) (hb : Below W.heap.size W W') : EnO W' o A x := ⟨h.1.later hb h.1.lt, h.2⟩
theorem EnO.c3 (h : EnO W o A x) : W.cell? ⟨A, 3, none⟩ = some (.int .i64 x.t) := h.1.cell rfl
theorem EnO.c4 (h : EnO W o A x) : W.cell? ⟨A, 4, none⟩ = some (.int .i64 x.p) := h.1.cell rfl
theorem EnO.c5 (h : EnO W o A x) : W.cell? ⟨A, 5, none⟩ = some (.int .i64 x.c) := h.1.cell rfl
theorem EnO.c6 (h : EnO W o A x) : W.cell? ⟨A, 6, none⟩ = some (.int .i64 x.b) := h.1.cell rfl
theorem EnO.c7 (h : EnO W o A x) : W.cell? ⟨A, 7, none⟩ = some (.int .i64 x.q) := h.1.cell rfl
theorem EnO.c8 (h : EnO W o A x) : W.cell? ⟨A, 8, none⟩ = some (.int .i64 x.v) := h.1.cell rfl
theorem EnO.c10 (h : EnO W o A x) : W.cell? ⟨A, 10, none⟩ = some (.bool x.o) := h.1.cell rfl
theorem EnO.c11 (h : EnO W o A x) : W.cell? ⟨A, 11, none⟩ = some (.int .i64 x.e) := h.1.cell rfl
end
section
variable {o : Nat -> Nat} {B : Nat} {M : Mod} {t : Int} {x : En}
theorem goOn_i (t k v : Int) (ok : Bool) (w : World) (h : Md w o B M) (hI : Inv M) (ht : 0 <= t /\ t < (M.T.length : Int)) :
    Calls Tryz.prog 111 #[ptrV B, .int .i64 t, .int .i64 k, .int .i64 v, .bool ok] w fun e w' => e = .returned (.tuple #[]) /\ ∃ o', Md w' o' B (M.goOn t k v ok) /\ Goes o o' w w' :=
  goOn_any t k v ok w h (by have := hI.t32; omega) hI.chk hI.small hI.c6 hI.wl ht
theorem sent_i (t k : Int) (w : World) (h : Md w o B M) (hI : Inv M) (ht : 0 <= t /\ t < (M.T.length : Int)) :
    Calls Tryz.prog 110 #[ptrV B, .int .i64 t, .int .i64 k] w fun e w' => e = .returned (.tuple #[]) /\ ∃ o', Md w' o' B (M.goOn t k 0 false) /\ Goes o o' w w' := by
  have hg := goOn_i t k 0 false w h hI ht
  go_enter Tryz.func110, Tryz.ntmps110
  go_wp2_with fail
  refine hg.mono ?_
  rintro e w1 ⟨rfl, h1⟩
  go_wp2_with fail
  go_end0
  exact ⟨rfl, h1⟩
theorem goOn_len (t k v : Int) (ok : Bool) : (M.goOn t k v ok).T.length = M.T.length := by unfold Mod.goOn; simp
abbrev Deed (o : Nat -> Nat) (B : Nat) (N : Mod) (w : World) (e : Ending) (w' : World) : Prop := e = .returned (.tuple #[]) /\ ∃ o', Md w' o' B N /\ Goes o o' w w'
theorem send_any (w : World) (h : Md w o B M) (hI : Inv M) (hx : MvOk M t x) (ht : 0 <= t /\ t < (M.T.length : Int)) (hk : x.k = 1) :
    Calls Tryz.prog 69 #[ptrV B, enV x] w (Deed o B (M.do_ x) w) := by
  obtain ⟨wa, hwa⟩ : ∃ wa, wa = w.alloc (.cells (enA x) 32) := ⟨_, rfl⟩
  have hBa : Below w.heap.size w wa := by rw [hwa]; exact below1 w _
  have hX : EnO wa o w.heap.size x := ⟨by rw [hwa]; exact blk_new w _ _, h.off (Nat.le_refl _)⟩
  have hh := h.below hBa
  obtain ⟨hc0, hc1⟩ := hx.ch (by omega)
  obtain ⟨i, hi⟩ : ∃ i : Nat, (i : Int) = x.c := ⟨x.c.toNat, by omega⟩
  have hil : i < M.C.length := by omega
  have hxt := hx.tt
  obtain ⟨N, hN⟩ : ∃ N, N = M.setC x.c (fun c => c.serve true x.v) := ⟨_, rfl⟩
  have hIN : Inv N := by rw [hN]; exact inv_serve hI x.c true hx.wf.v
  have hTN : N.T.length = M.T.length := by rw [hN]; rfl
  obtain ⟨C, g, cap, hser⟩ := hh.chan_do hil (fn := 109) (args := #[.bool true, .int .i64 x.v]) (f := fun c => c.serve true x.v) (R := fun e => ∃ u, e = .returned u)
    (fun F C V hc => (serve_any _ true x.v V hc (by have := (hI.wl i).1; omega) (by have := (hI.wl i).2; omega)).mono fun e w' ⟨h1, h2, h3⟩ => ⟨⟨_, h1⟩, h2, h3⟩)
  rw [hi, <- hN] at hser
  have r0 : Below wa.heap.size wa wa.drew := (Below.refl _ _).drew
  have hXd := hX.below r0
  obtain ⟨n5, ng, hcall⟩ := hser _ r0
  have hcall' : Calls Tryz.prog 109 #[ptrV C, .bool true, .int .i64 x.v] wa.drew _ := hcall
  have e5 : wa.drew.cell? ⟨w.heap.size, 5, none⟩ = some (.int .i64 (i : Int)) := by rw [hi]; exact hXd.c5
  have e8 := hXd.c8
  have hS1 : ∀ (w' : World) (o' : Nat -> Nat), Goes o o' wa.drew w' -> w'.cell? ⟨w.heap.size, 5, none⟩ = some (.int .i64 (i : Int)) := fun w' o' g => by rw [hi]; exact (hXd.goes g).c5
  have q0 : (0 : Int) <= (i : Int) := by omega
  have q1 : (i : Int) < (M.C.length : Int) := by omega
  obtain ⟨N0, hN0⟩ : ∃ N0, N0 = N.goOn x.t x.b 0 false := ⟨_, rfl⟩
  have hIN0 : Inv N0 := by rw [hN0]; exact hIN.goOn hx.wf.b i64_zero _
  have hTN0 : N0.T.length = M.T.length := by rw [hN0, goOn_len, hTN]
  have tN0 : 0 <= x.t /\ x.t < (N.T.length : Int) := by rw [hTN]; exact (by rw [hxt]; exact ht)
  have HD : Hid (M.do_ x = N0) := Lib.hid (by unfold Mod.do_; simp only [hk]; rw [hN0, hN])
  have hgo := fun (W : World) (o1 : Nat -> Nat) (h1 : Md W o1 B N) => sent_i x.t x.b  W h1 hIN tN0
  rw [<- hN0] at hgo
  clear hk
  clear hser hcall hXd hi hil hc0 hc1 hIN hTN hN hx hxt hI h hh hN0 hTN0 tN0 hIN0
  go_enter Tryz.func69, Tryz.ntmps69
  go_upto_region 1 with fail
  rw [<- hwa]
  clear hwa
  go_region_held3 (fun W => W.cell? ⟨w.heap.size, 5, none⟩ = some (.int .i64 (i : Int)) /\ W.cell? ⟨w.heap.size, 8, none⟩ = some (.int .i64 x.v) /\ W.cell? ⟨B, 5, none⟩ = some (.slice (some ⟨g, 0, none⟩) M.C.length cap) /\ W.cell? ⟨g, i, none⟩ = some (ptrV C))
    (first | exact ⟨f5, f8, c5, c6⟩ | exact ⟨e5, e8, n5, ng⟩)
    ((go_at_call 109; refine hcall'.mono ?_; rintro e w2 ⟨⟨u, rfl⟩, ⟨o1, h1, g1⟩, c5, c6⟩; have f5 := hS1 _ _ g1; have f8 := ((hX.below r0).goes g1).c8))
  have g2 := ((Goes.of_below hBa).trans (Goes.of_below r0)).trans g1
  have hX2 := (hX.below r0).goes g1

  have s03 := hX2.c3
  have s06 := hX2.c6
  go_wp2_with fail
  refine (hgo _ _ h1).mono ?_
  rintro e w3 ⟨rfl, o2, k0, j0⟩
  have m0 := g2.trans j0
  have y0 := hX2.goes j0
  go_wp2_with fail
  go_end0
  rw [HD.out]
  exact ⟨rfl, _, k0, m0⟩
theorem receive_any (w : World) (h : Md w o B M) (hI : Inv M) (hx : MvOk M t x) (ht : 0 <= t /\ t < (M.T.length : Int)) (hk : x.k = 2) :
    Calls Tryz.prog 70 #[ptrV B, enV x] w (Deed o B (M.do_ x) w) := by
  obtain ⟨wa, hwa⟩ : ∃ wa, wa = w.alloc (.cells (enA x) 32) := ⟨_, rfl⟩
  have hBa : Below w.heap.size w wa := by rw [hwa]; exact below1 w _
  have hX : EnO wa o w.heap.size x := ⟨by rw [hwa]; exact blk_new w _ _, h.off (Nat.le_refl _)⟩
  have hh := h.below hBa
  obtain ⟨hc0, hc1⟩ := hx.ch (by omega)
  obtain ⟨i, hi⟩ : ∃ i : Nat, (i : Int) = x.c := ⟨x.c.toNat, by omega⟩
  have hil : i < M.C.length := by omega
  have hxt := hx.tt
  obtain ⟨N, hN⟩ : ∃ N, N = M.setC x.c (fun c => c.serve false 0) := ⟨_, rfl⟩
  have hIN : Inv N := by rw [hN]; exact inv_serve hI x.c false i64_zero
  have hTN : N.T.length = M.T.length := by rw [hN]; rfl
  obtain ⟨C, g, cap, hser⟩ := hh.chan_do hil (fn := 109) (args := #[.bool false, .int .i64 0]) (f := fun c => c.serve false 0) (R := fun e => ∃ u, e = .returned u)
    (fun F C V hc => (serve_any _ false 0 V hc (by have := (hI.wl i).1; omega) (by have := (hI.wl i).2; omega)).mono fun e w' ⟨h1, h2, h3⟩ => ⟨⟨_, h1⟩, h2, h3⟩)
  rw [hi, <- hN] at hser
  have r0 : Below wa.heap.size wa wa.drew := (Below.refl _ _).drew
  have hXd := hX.below r0
  obtain ⟨n5, ng, hcall⟩ := hser _ r0
  have hcall' : Calls Tryz.prog 109 #[ptrV C, .bool false, .int .i64 0] wa.drew _ := hcall
  have e5 : wa.drew.cell? ⟨w.heap.size, 5, none⟩ = some (.int .i64 (i : Int)) := by rw [hi]; exact hXd.c5
  have e8 := hXd.c8
  have hS1 : ∀ (w' : World) (o' : Nat -> Nat), Goes o o' wa.drew w' -> w'.cell? ⟨w.heap.size, 5, none⟩ = some (.int .i64 (i : Int)) := fun w' o' g => by rw [hi]; exact (hXd.goes g).c5
  have q0 : (0 : Int) <= (i : Int) := by omega
  have q1 : (i : Int) < (M.C.length : Int) := by omega
  obtain ⟨N0, hN0⟩ : ∃ N0, N0 = N.goOn x.t x.b x.v x.o := ⟨_, rfl⟩
  have hIN0 : Inv N0 := by rw [hN0]; exact hIN.goOn hx.wf.b hx.wf.v _
  have hTN0 : N0.T.length = M.T.length := by rw [hN0, goOn_len, hTN]
  have tN0 : 0 <= x.t /\ x.t < (N.T.length : Int) := by rw [hTN]; exact (by rw [hxt]; exact ht)
  have HD : Hid (M.do_ x = N0) := Lib.hid (by unfold Mod.do_; simp only [hk]; rw [hN0, hN])
  have hgo := fun (W : World) (o1 : Nat -> Nat) (h1 : Md W o1 B N) => goOn_i x.t x.b x.v x.o W h1 hIN tN0
  rw [<- hN0] at hgo
  clear hk
  clear hser hcall hXd hi hil hc0 hc1 hIN hTN hN hx hxt hI h hh hN0 hTN0 tN0 hIN0
  go_enter Tryz.func70, Tryz.ntmps70
  go_upto_region 1 with fail
  rw [<- hwa]
  clear hwa
  go_region_held3 (fun W => W.cell? ⟨w.heap.size, 5, none⟩ = some (.int .i64 (i : Int)) /\ W.cell? ⟨w.heap.size, 8, none⟩ = some (.int .i64 x.v) /\ W.cell? ⟨B, 5, none⟩ = some (.slice (some ⟨g, 0, none⟩) M.C.length cap) /\ W.cell? ⟨g, i, none⟩ = some (ptrV C))
    (first | exact ⟨f5, f8, c5, c6⟩ | exact ⟨e5, e8, n5, ng⟩)
    ((go_at_call 109; refine hcall'.mono ?_; rintro e w2 ⟨⟨u, rfl⟩, ⟨o1, h1, g1⟩, c5, c6⟩; have f5 := hS1 _ _ g1; have f8 := ((hX.below r0).goes g1).c8))
  have g2 := ((Goes.of_below hBa).trans (Goes.of_below r0)).trans g1
  have hX2 := (hX.below r0).goes g1

  have s03 := hX2.c3
  have s06 := hX2.c6
  have s08 := hX2.c8
  have s010 := hX2.c10
  go_wp2_with fail
  refine (hgo _ _ h1).mono ?_
  rintro e w3 ⟨rfl, o2, k0, j0⟩
  have m0 := g2.trans j0
  have y0 := hX2.goes j0
  go_wp2_with fail
  go_end0
  rw [HD.out]
  exact ⟨rfl, _, k0, m0⟩
theorem meet_true_any (w : World) (h : Md w o B M) (hI : Inv M) (hx : MvOk M t x) (ht : 0 <= t /\ t < (M.T.length : Int)) (hk : x.k = 3) (ho : x.o = true) :
    Calls Tryz.prog 71 #[ptrV B, enV x] w (Deed o B (M.do_ x) w) := by
  obtain ⟨wa, hwa⟩ : ∃ wa, wa = w.alloc (.cells (enA x) 32) := ⟨_, rfl⟩
  have hBa : Below w.heap.size w wa := by rw [hwa]; exact below1 w _
  have hX : EnO wa o w.heap.size x := ⟨by rw [hwa]; exact blk_new w _ _, h.off (Nat.le_refl _)⟩
  have hh := h.below hBa
  obtain ⟨hc0, hc1⟩ := hx.ch (by omega)
  obtain ⟨i, hi⟩ : ∃ i : Nat, (i : Int) = x.c := ⟨x.c.toNat, by omega⟩
  have hil : i < M.C.length := by omega
  have hxt := hx.tt
  obtain ⟨N, hN⟩ : ∃ N, N = M.setC x.c (fun c => c.serve true x.v) := ⟨_, rfl⟩
  have hIN : Inv N := by rw [hN]; exact inv_serve hI x.c true hx.wf.v
  have hTN : N.T.length = M.T.length := by rw [hN]; rfl
  obtain ⟨C, g, cap, hser⟩ := hh.chan_do hil (fn := 109) (args := #[.bool true, .int .i64 x.v]) (f := fun c => c.serve true x.v) (R := fun e => ∃ u, e = .returned u)
    (fun F C V hc => (serve_any _ true x.v V hc (by have := (hI.wl i).1; omega) (by have := (hI.wl i).2; omega)).mono fun e w' ⟨h1, h2, h3⟩ => ⟨⟨_, h1⟩, h2, h3⟩)
  rw [hi, <- hN] at hser
  have r0 : Below wa.heap.size wa wa.drew := (Below.refl _ _).drew
  have hXd := hX.below r0
  obtain ⟨n5, ng, hcall⟩ := hser _ r0
  have hcall' : Calls Tryz.prog 109 #[ptrV C, .bool true, .int .i64 x.v] wa.drew _ := hcall
  have e5 : wa.drew.cell? ⟨w.heap.size, 5, none⟩ = some (.int .i64 (i : Int)) := by rw [hi]; exact hXd.c5
  have e8 := hXd.c8
  have hS1 : ∀ (w' : World) (o' : Nat -> Nat), Goes o o' wa.drew w' -> w'.cell? ⟨w.heap.size, 5, none⟩ = some (.int .i64 (i : Int)) := fun w' o' g => by rw [hi]; exact (hXd.goes g).c5
  have q0 : (0 : Int) <= (i : Int) := by omega
  have q1 : (i : Int) < (M.C.length : Int) := by omega
  have e10 : wa.drew.cell? ⟨w.heap.size, 10, none⟩ = some (.bool true) := by rw [<- ho]; exact hXd.c10
  have hS10 : ∀ (w' : World) (o' : Nat -> Nat), Goes o o' wa.drew w' -> w'.cell? ⟨w.heap.size, 10, none⟩ = some (.bool true) := fun w' o' g => by rw [<- ho]; exact (hXd.goes g).c10
  obtain ⟨N0, hN0⟩ : ∃ N0, N0 = N.goOn x.t x.b 0 false := ⟨_, rfl⟩
  have hIN0 : Inv N0 := by rw [hN0]; exact hIN.goOn hx.wf.b i64_zero _
  have hTN0 : N0.T.length = M.T.length := by rw [hN0, goOn_len, hTN]
  have tN0 : 0 <= x.t /\ x.t < (N.T.length : Int) := by rw [hTN]; exact (by rw [hxt]; exact ht)
  obtain ⟨N1, hN1⟩ : ∃ N1, N1 = N0.goOn x.p x.q x.v true := ⟨_, rfl⟩
  have hIN1 : Inv N1 := by rw [hN1]; exact hIN0.goOn hx.wf.q hx.wf.v _
  have hTN1 : N1.T.length = M.T.length := by rw [hN1, goOn_len, hTN0]
  have tN1 : 0 <= x.p /\ x.p < (N0.T.length : Int) := by rw [hTN0]; exact hx.pe (by omega)
  have HD : Hid (M.do_ x = N1) := Lib.hid (by unfold Mod.do_; simp only [hk]; rw [ho]; rw [hN1, hN0, hN]; rfl)
  have hgo := fun (W : World) (o1 : Nat -> Nat) (h1 : Md W o1 B N) => sent_i x.t x.b  W h1 hIN tN0
  rw [<- hN0] at hgo
  have hgo2 := fun (W : World) (o1 : Nat -> Nat) (h1 : Md W o1 B N0) => goOn_i x.p x.q x.v true W h1 hIN0 tN1
  rw [<- hN1] at hgo2
  have HO := Lib.hid ho
  clear ho hk hser hcall hXd hi hil hc0 hc1 hIN hTN hN hx hxt hI h hh hN0 hTN0 tN0 hIN0 hN1 hTN1 tN1 hIN1
  go_enter Tryz.func71, Tryz.ntmps71
  go_upto_region 1 with fail
  rw [<- hwa]
  clear hwa
  go_region_held3 (fun W => W.cell? ⟨w.heap.size, 5, none⟩ = some (.int .i64 (i : Int)) /\ W.cell? ⟨w.heap.size, 8, none⟩ = some (.int .i64 x.v) /\ W.cell? ⟨B, 5, none⟩ = some (.slice (some ⟨g, 0, none⟩) M.C.length cap) /\ W.cell? ⟨g, i, none⟩ = some (ptrV C) /\ W.cell? ⟨w.heap.size, 10, none⟩ = some (.bool true))
    (first | exact ⟨f5, f8, c5, c6, f10⟩ | exact ⟨e5, e8, n5, ng, e10⟩)
    ((go_at_call 109; refine hcall'.mono ?_; rintro e w2 ⟨⟨u, rfl⟩, ⟨o1, h1, g1⟩, c5, c6⟩; have f5 := hS1 _ _ g1; have f8 := ((hX.below r0).goes g1).c8; have f10 := hS10 _ _ g1))
  have g2 := ((Goes.of_below hBa).trans (Goes.of_below r0)).trans g1
  have hX2 := (hX.below r0).goes g1

  have s010 : w2.cell? ⟨w.heap.size, 10, none⟩ = some (.bool true) := by rw [<- HO.out]; exact hX2.c10
  have s03 := hX2.c3
  have s06 := hX2.c6
  go_wp2_with fail
  refine (hgo _ _ h1).mono ?_
  rintro e w3 ⟨rfl, o2, k0, j0⟩
  have m0 := g2.trans j0
  have y0 := hX2.goes j0
  have s14 := y0.c4
  have s17 := y0.c7
  have s18 := y0.c8
  go_wp2_with fail
  refine (hgo2 _ _ k0).mono ?_
  rintro e w4 ⟨rfl, o3, k1, j1⟩
  have m1 := m0.trans j1
  have y1 := y0.goes j1
  go_wp2_with fail
  go_end0
  rw [HD.out]
  exact ⟨rfl, _, k1, m1⟩
theorem meet_false_any (w : World) (h : Md w o B M) (hI : Inv M) (hx : MvOk M t x) (ht : 0 <= t /\ t < (M.T.length : Int)) (hk : x.k = 3) (ho : x.o = false) :
    Calls Tryz.prog 71 #[ptrV B, enV x] w (Deed o B (M.do_ x) w) := by
  obtain ⟨wa, hwa⟩ : ∃ wa, wa = w.alloc (.cells (enA x) 32) := ⟨_, rfl⟩
  have hBa : Below w.heap.size w wa := by rw [hwa]; exact below1 w _
  have hX : EnO wa o w.heap.size x := ⟨by rw [hwa]; exact blk_new w _ _, h.off (Nat.le_refl _)⟩
  have hh := h.below hBa
  obtain ⟨hc0, hc1⟩ := hx.ch (by omega)
  obtain ⟨i, hi⟩ : ∃ i : Nat, (i : Int) = x.c := ⟨x.c.toNat, by omega⟩
  have hil : i < M.C.length := by omega
  have hxt := hx.tt
  obtain ⟨N, hN⟩ : ∃ N, N = M.setC x.c (fun c => c.serve false x.v) := ⟨_, rfl⟩
  have hIN : Inv N := by rw [hN]; exact inv_serve hI x.c false hx.wf.v
  have hTN : N.T.length = M.T.length := by rw [hN]; rfl
  obtain ⟨C, g, cap, hser⟩ := hh.chan_do hil (fn := 109) (args := #[.bool false, .int .i64 x.v]) (f := fun c => c.serve false x.v) (R := fun e => ∃ u, e = .returned u)
    (fun F C V hc => (serve_any _ false x.v V hc (by have := (hI.wl i).1; omega) (by have := (hI.wl i).2; omega)).mono fun e w' ⟨h1, h2, h3⟩ => ⟨⟨_, h1⟩, h2, h3⟩)
  rw [hi, <- hN] at hser
  have r0 : Below wa.heap.size wa wa.drew := (Below.refl _ _).drew
  have hXd := hX.below r0
  obtain ⟨n5, ng, hcall⟩ := hser _ r0
  have hcall' : Calls Tryz.prog 109 #[ptrV C, .bool false, .int .i64 x.v] wa.drew _ := hcall
  have e5 : wa.drew.cell? ⟨w.heap.size, 5, none⟩ = some (.int .i64 (i : Int)) := by rw [hi]; exact hXd.c5
  have e8 := hXd.c8
  have hS1 : ∀ (w' : World) (o' : Nat -> Nat), Goes o o' wa.drew w' -> w'.cell? ⟨w.heap.size, 5, none⟩ = some (.int .i64 (i : Int)) := fun w' o' g => by rw [hi]; exact (hXd.goes g).c5
  have q0 : (0 : Int) <= (i : Int) := by omega
  have q1 : (i : Int) < (M.C.length : Int) := by omega
  have e10 : wa.drew.cell? ⟨w.heap.size, 10, none⟩ = some (.bool false) := by rw [<- ho]; exact hXd.c10
  have hS10 : ∀ (w' : World) (o' : Nat -> Nat), Goes o o' wa.drew w' -> w'.cell? ⟨w.heap.size, 10, none⟩ = some (.bool false) := fun w' o' g => by rw [<- ho]; exact (hXd.goes g).c10
  obtain ⟨N0, hN0⟩ : ∃ N0, N0 = N.goOn x.t x.b x.v true := ⟨_, rfl⟩
  have hIN0 : Inv N0 := by rw [hN0]; exact hIN.goOn hx.wf.b hx.wf.v _
  have hTN0 : N0.T.length = M.T.length := by rw [hN0, goOn_len, hTN]
  have tN0 : 0 <= x.t /\ x.t < (N.T.length : Int) := by rw [hTN]; exact (by rw [hxt]; exact ht)
  obtain ⟨N1, hN1⟩ : ∃ N1, N1 = N0.goOn x.p x.q 0 false := ⟨_, rfl⟩
  have hIN1 : Inv N1 := by rw [hN1]; exact hIN0.goOn hx.wf.q i64_zero _
  have hTN1 : N1.T.length = M.T.length := by rw [hN1, goOn_len, hTN0]
  have tN1 : 0 <= x.p /\ x.p < (N0.T.length : Int) := by rw [hTN0]; exact hx.pe (by omega)
  have HD : Hid (M.do_ x = N1) := Lib.hid (by unfold Mod.do_; simp only [hk]; rw [ho]; rw [hN1, hN0, hN]; rfl)
  have hgo := fun (W : World) (o1 : Nat -> Nat) (h1 : Md W o1 B N) => goOn_i x.t x.b x.v true W h1 hIN tN0
  rw [<- hN0] at hgo
  have hgo2 := fun (W : World) (o1 : Nat -> Nat) (h1 : Md W o1 B N0) => sent_i x.p x.q  W h1 hIN0 tN1
  rw [<- hN1] at hgo2
  have HO := Lib.hid ho
  clear ho hk hser hcall hXd hi hil hc0 hc1 hIN hTN hN hx hxt hI h hh hN0 hTN0 tN0 hIN0 hN1 hTN1 tN1 hIN1
  go_enter Tryz.func71, Tryz.ntmps71
  go_upto_region 1 with fail
  rw [<- hwa]
  clear hwa
  go_region_held3 (fun W => W.cell? ⟨w.heap.size, 5, none⟩ = some (.int .i64 (i : Int)) /\ W.cell? ⟨w.heap.size, 8, none⟩ = some (.int .i64 x.v) /\ W.cell? ⟨B, 5, none⟩ = some (.slice (some ⟨g, 0, none⟩) M.C.length cap) /\ W.cell? ⟨g, i, none⟩ = some (ptrV C) /\ W.cell? ⟨w.heap.size, 10, none⟩ = some (.bool false))
    (first | exact ⟨f5, f8, c5, c6, f10⟩ | exact ⟨e5, e8, n5, ng, e10⟩)
    ((go_at_call 109; refine hcall'.mono ?_; rintro e w2 ⟨⟨u, rfl⟩, ⟨o1, h1, g1⟩, c5, c6⟩; have f5 := hS1 _ _ g1; have f8 := ((hX.below r0).goes g1).c8; have f10 := hS10 _ _ g1))
  have g2 := ((Goes.of_below hBa).trans (Goes.of_below r0)).trans g1
  have hX2 := (hX.below r0).goes g1

  have s010 : w2.cell? ⟨w.heap.size, 10, none⟩ = some (.bool false) := by rw [<- HO.out]; exact hX2.c10
  have s03 := hX2.c3
  have s06 := hX2.c6
  have s08 := hX2.c8
  go_wp2_with fail
  refine (hgo _ _ h1).mono ?_
  rintro e w3 ⟨rfl, o2, k0, j0⟩
  have m0 := g2.trans j0
  have y0 := hX2.goes j0
  have s14 := y0.c4
  have s17 := y0.c7
  go_wp2_with fail
  refine (hgo2 _ _ k0).mono ?_
  rintro e w4 ⟨rfl, o3, k1, j1⟩
  have m1 := m0.trans j1
  have y1 := y0.goes j1
  go_wp2_with fail
  go_end0
  rw [HD.out]
  exact ⟨rfl, _, k1, m1⟩
theorem refill_any (w : World) (h : Md w o B M) (hI : Inv M) (hx : MvOk M t x) (ht : 0 <= t /\ t < (M.T.length : Int)) (hk : x.k = 4) :
    Calls Tryz.prog 72 #[ptrV B, enV x] w (Deed o B (M.do_ x) w) := by
  obtain ⟨wa, hwa⟩ : ∃ wa, wa = w.alloc (.cells (enA x) 32) := ⟨_, rfl⟩
  have hBa : Below w.heap.size w wa := by rw [hwa]; exact below1 w _
  have hX : EnO wa o w.heap.size x := ⟨by rw [hwa]; exact blk_new w _ _, h.off (Nat.le_refl _)⟩
  have hh := h.below hBa
  obtain ⟨hc0, hc1⟩ := hx.ch (by omega)
  obtain ⟨i, hi⟩ : ∃ i : Nat, (i : Int) = x.c := ⟨x.c.toNat, by omega⟩
  have hil : i < M.C.length := by omega
  have hxt := hx.tt
  obtain ⟨N, hN⟩ : ∃ N, N = M.setC x.c (fun c => c.serve false 0) := ⟨_, rfl⟩
  have hIN : Inv N := by rw [hN]; exact inv_serve hI x.c false i64_zero
  have hTN : N.T.length = M.T.length := by rw [hN]; rfl
  obtain ⟨C, g, cap, hser⟩ := hh.chan_do hil (fn := 109) (args := #[.bool false, .int .i64 0]) (f := fun c => c.serve false 0) (R := fun e => ∃ u, e = .returned u)
    (fun F C V hc => (serve_any _ false 0 V hc (by have := (hI.wl i).1; omega) (by have := (hI.wl i).2; omega)).mono fun e w' ⟨h1, h2, h3⟩ => ⟨⟨_, h1⟩, h2, h3⟩)
  rw [hi, <- hN] at hser
  have r0 : Below wa.heap.size wa wa.drew := (Below.refl _ _).drew
  have hXd := hX.below r0
  obtain ⟨n5, ng, hcall⟩ := hser _ r0
  have hcall' : Calls Tryz.prog 109 #[ptrV C, .bool false, .int .i64 0] wa.drew _ := hcall
  have e5 : wa.drew.cell? ⟨w.heap.size, 5, none⟩ = some (.int .i64 (i : Int)) := by rw [hi]; exact hXd.c5
  have e8 := hXd.c8
  have hS1 : ∀ (w' : World) (o' : Nat -> Nat), Goes o o' wa.drew w' -> w'.cell? ⟨w.heap.size, 5, none⟩ = some (.int .i64 (i : Int)) := fun w' o' g => by rw [hi]; exact (hXd.goes g).c5
  have q0 : (0 : Int) <= (i : Int) := by omega
  have q1 : (i : Int) < (M.C.length : Int) := by omega
  obtain ⟨N0, hN0⟩ : ∃ N0, N0 = N.goOn x.t x.b x.v true := ⟨_, rfl⟩
  have hIN0 : Inv N0 := by rw [hN0]; exact hIN.goOn hx.wf.b hx.wf.v _
  have hTN0 : N0.T.length = M.T.length := by rw [hN0, goOn_len, hTN]
  have tN0 : 0 <= x.t /\ x.t < (N.T.length : Int) := by rw [hTN]; exact (by rw [hxt]; exact ht)
  obtain ⟨N1, hN1⟩ : ∃ N1, N1 = N0.goOn x.p x.q 0 false := ⟨_, rfl⟩
  have hIN1 : Inv N1 := by rw [hN1]; exact hIN0.goOn hx.wf.q i64_zero _
  have hTN1 : N1.T.length = M.T.length := by rw [hN1, goOn_len, hTN0]
  have tN1 : 0 <= x.p /\ x.p < (N0.T.length : Int) := by rw [hTN0]; exact hx.pe (by omega)
  have HD : Hid (M.do_ x = N1) := Lib.hid (by unfold Mod.do_; simp only [hk]; rw [hN1, hN0, hN])
  have hgo := fun (W : World) (o1 : Nat -> Nat) (h1 : Md W o1 B N) => goOn_i x.t x.b x.v true W h1 hIN tN0
  rw [<- hN0] at hgo
  have hgo2 := fun (W : World) (o1 : Nat -> Nat) (h1 : Md W o1 B N0) => sent_i x.p x.q  W h1 hIN0 tN1
  rw [<- hN1] at hgo2
  clear hk
  clear hser hcall hXd hi hil hc0 hc1 hIN hTN hN hx hxt hI h hh hN0 hTN0 tN0 hIN0 hN1 hTN1 tN1 hIN1
  go_enter Tryz.func72, Tryz.ntmps72
  go_upto_region 1 with fail
  rw [<- hwa]
  clear hwa
  go_region_held3 (fun W => W.cell? ⟨w.heap.size, 5, none⟩ = some (.int .i64 (i : Int)) /\ W.cell? ⟨w.heap.size, 8, none⟩ = some (.int .i64 x.v) /\ W.cell? ⟨B, 5, none⟩ = some (.slice (some ⟨g, 0, none⟩) M.C.length cap) /\ W.cell? ⟨g, i, none⟩ = some (ptrV C))
    (first | exact ⟨f5, f8, c5, c6⟩ | exact ⟨e5, e8, n5, ng⟩)
    ((go_at_call 109; refine hcall'.mono ?_; rintro e w2 ⟨⟨u, rfl⟩, ⟨o1, h1, g1⟩, c5, c6⟩; have f5 := hS1 _ _ g1; have f8 := ((hX.below r0).goes g1).c8))
  have g2 := ((Goes.of_below hBa).trans (Goes.of_below r0)).trans g1
  have hX2 := (hX.below r0).goes g1

  have s03 := hX2.c3
  have s06 := hX2.c6
  have s08 := hX2.c8
  go_wp2_with fail
  refine (hgo _ _ h1).mono ?_
  rintro e w3 ⟨rfl, o2, k0, j0⟩
  have m0 := g2.trans j0
  have y0 := hX2.goes j0
  have s14 := y0.c4
  have s17 := y0.c7
  go_wp2_with fail
  refine (hgo2 _ _ k0).mono ?_
  rintro e w4 ⟨rfl, o3, k1, j1⟩
  have m1 := m0.trans j1
  have y1 := y0.goes j1
  go_wp2_with fail
  go_end0
  rw [HD.out]
  exact ⟨rfl, _, k1, m1⟩
end
open Go.RowKit
open Ent (En)
open Mch (Chn Frm Fw Fl below1 below_nx owns_slice' boxed_below)
section
variable {o : Nat -> Nat} {B : Nat} {M : Mod} {t : Int} {x : En}
theorem wake_any (w : World) (h : Md w o B M) (hI : Inv M) (hx : MvOk M t x) (ht : 0 <= t /\ t < (M.T.length : Int)) (hk : x.k = 6) :
    Calls Tryz.prog 74 #[ptrV B, enV x] w (Deed o B (M.do_ x) w) := by
  obtain ⟨wa, hwa⟩ : ∃ wa, wa = w.alloc (.cells (enA x) 32) := ⟨_, rfl⟩
  have hBa : Below w.heap.size w wa := by rw [hwa]; exact below1 w _
  have hX : EnO wa o w.heap.size x := ⟨by rw [hwa]; exact blk_new w _ _, h.off (Nat.le_refl _)⟩
  have hh := h.below hBa
  have hxt := hx.tt
  have hxb : 0 <= x.t /\ x.t < (M.T.length : Int) := by rw [hxt]; exact ht
  have hgo := goOn_i x.t x.b 0 false wa hh hI hxb
  have HD : Hid (M.do_ x = M.goOn x.t x.b 0 false) := Lib.hid (by unfold Mod.do_; simp only [hk])
  have e3 := hX.c3
  have e6 := hX.c6
  clear hk hxt hxb hx ht hI h hh
  go_enter Tryz.func74, Tryz.ntmps74
  go_upto_region 1 with fail
  rw [<- hwa]
  clear hwa
  go_wp2_with fail
  refine hgo.mono ?_
  rintro e w2 ⟨rfl, o2, h2, g2⟩
  go_wp2_with fail
  go_end0
  rw [HD.out]
  exact ⟨rfl, _, h2, (Goes.of_below hBa).trans g2⟩
theorem halt_any (w : World) (h : Md w o B M) (_hI : Inv M) (hx : MvOk M t x) (ht : 0 <= t /\ t < (M.T.length : Int)) (hk : x.k = 11) :
    Calls Tryz.prog 79 #[ptrV B, enV x] w (Deed o B (M.do_ x) w) := by
  obtain ⟨wa, hwa⟩ : ∃ wa, wa = w.alloc (.cells (enA x) 32) := ⟨_, rfl⟩
  have hBa : Below w.heap.size w wa := by rw [hwa]; exact below1 w _
  have hX : EnO wa o w.heap.size x := ⟨by rw [hwa]; exact blk_new w _ _, h.off (Nat.le_refl _)⟩
  have hh := h.below hBa
  have hxt := hx.tt
  have hxb : 0 <= x.t /\ x.t < (M.T.length : Int) := by rw [hxt]; exact ht
  have HD : Hid (M.do_ x = { M with who := x.t, e := x.e }) := Lib.hid (by unfold Mod.do_; simp only [hk])
  have r0 : Below wa.heap.size wa wa.drew := (Below.refl _ _).drew
  have e3 := (hX.below r0).c3
  have e11 := (hX.below r0).c11
  have u3 := hX.c3
  have u11 := hX.c11
  obtain ⟨lo, hi, v1, v2, v3, vT, vC, Cs, hM⟩ := hh
  have b1 := hM.wh
  have b2 := hM.er
  have b3 := hM.frozen
  obtain ⟨hN, hF⟩ := hM.blamed x.t x.e
  have hN' := hN.drew
  have hg : Goes o o w ((wa.setCell ⟨B, 12, none⟩ (.int .i64 x.t)).setCell ⟨B, 13, none⟩ (.int .i64 x.e)).drew := (Goes.of_below hBa).trans ((Goes.of_frm hF (fun k e => by rw [e]; omega)).trans (Goes.of_below (Below.refl _ _).drew))
  have hne : w.heap.size ≠ B := by have := hM.hown; have := hX.2; intro e; rw [e] at this; omega
  clear hk hxt hxb hx ht h hM hF hN hX
  go_enter Tryz.func79, Tryz.ntmps79
  go_upto_region 1 with fail
  rw [<- hwa]
  clear hwa
  go_region
  go_wp2_with fail
  go_end0
  rw [HD.out]
  exact ⟨rfl, _, ⟨_, _, _, _, _, _, _, _, hN'⟩, hg⟩
theorem shut_any (w : World) (h : Md w o B M) (hI : Inv M) (hx : MvOk M t x) (ht : 0 <= t /\ t < (M.T.length : Int)) (hk : x.k = 5) :
    Calls Tryz.prog 73 #[ptrV B, enV x] w (Deed o B (M.do_ x) w) := by
  obtain ⟨wa, hwa⟩ : ∃ wa, wa = w.alloc (.cells (enA x) 32) := ⟨_, rfl⟩
  have hBa : Below w.heap.size w wa := by rw [hwa]; exact below1 w _
  have hX : EnO wa o w.heap.size x := ⟨by rw [hwa]; exact blk_new w _ _, h.off (Nat.le_refl _)⟩
  have hh := h.below hBa
  have hxt := hx.tt
  have hxb : 0 <= x.t /\ x.t < (M.T.length : Int) := by rw [hxt]; exact ht
  obtain ⟨hc0, hc1⟩ := hx.ch (by omega)
  obtain ⟨i, hi⟩ : ∃ i : Nat, (i : Int) = x.c := ⟨x.c.toNat, by omega⟩
  have hil : i < M.C.length := by omega
  have hi6 : i < 6 := by have := hI.c6; omega
  obtain ⟨N, hN⟩ : ∃ N, N = M.setC x.c Cha.close := ⟨_, rfl⟩
  obtain ⟨N1, hN1⟩ : ∃ N1 : Mod, N1 = { N with K := fun j => if j = i then x.t else N.K j } := ⟨_, rfl⟩
  have hIN : Inv N1 := by
    rw [hN1, hN]
    have h32 := hI.t32
    have := hI.closed (t := x.t) x.c ⟨hxb.1, by omega⟩
    rw [<- hi, Int.toNat_natCast] at this
    rw [<- hi]
    exact this
  have hTN : N1.T.length = M.T.length := by rw [hN1, hN]; rfl
  have HD : Hid (M.do_ x = N1.goOn x.t (-1) 0 false) := Lib.hid (by unfold Mod.do_; simp only [hk]; rw [hN1, hN, <- hi, Int.toNat_natCast]; rfl)
  have hgo := fun (W : World) (o1 : Nat -> Nat) (h1 : Md W o1 B N1) => sent_i x.t (-1) W h1 hIN (by rw [hTN]; exact hxb)
  obtain ⟨C, g, cap, hser⟩ := hh.chan_do hil (fn := 112) (args := #[]) (f := Cha.close) (R := fun e => ∃ u, e = .returned u)
    (fun F C V hc => (Mch.close_any V hc).mono fun e w' hp => ⟨by obtain ⟨k, hk⟩ := hp.1; exact ⟨_, hk⟩, hp.2.1.mono (fun _ e => .inl e), hp.2.2⟩)
  rw [hi, <- hN] at hser
  have r0 : Below wa.heap.size wa wa.drew := (Below.refl _ _).drew
  have hXd := hX.below r0
  obtain ⟨n5, ng, hcall⟩ := hser _ r0
  have hcall' : Calls Tryz.prog 112 #[ptrV C] wa.drew _ := hcall
  have e5 : wa.drew.cell? ⟨w.heap.size, 5, none⟩ = some (.int .i64 (i : Int)) := by rw [hi]; exact hXd.c5
  have q0 : (0 : Int) <= (i : Int) := by omega
  have q1 : (i : Int) < (M.C.length : Int) := by omega
  have q6 : (i : Int) < 6 := by omega
  have hS1 : ∀ (w' : World) (o' : Nat -> Nat), Goes o o' wa.drew w' -> w'.cell? ⟨w.heap.size, 5, none⟩ = some (.int .i64 (i : Int)) := fun w' o' g => by rw [hi]; exact (hXd.goes g).c5
  have hX0 := hX.2
  clear hk hxt hxb hx ht hI h hh hser hcall hXd hi hil hc0 hc1 hIN hTN hN
  go_enter Tryz.func73, Tryz.ntmps73
  go_upto_region 1 with fail
  rw [<- hwa]
  clear hwa
  go_region_held3 (fun W => W.cell? ⟨w.heap.size, 5, none⟩ = some (.int .i64 (i : Int)) /\ W.cell? ⟨B, 5, none⟩ = some (.slice (some ⟨g, 0, none⟩) M.C.length cap) /\ W.cell? ⟨g, i, none⟩ = some (ptrV C))
    (first | exact ⟨f5, c5, c6⟩ | exact ⟨e5, n5, ng⟩)
    ((go_at_call 112; refine hcall'.mono ?_; rintro e w2 ⟨⟨u, rfl⟩, ⟨o1, h1, g1⟩, c5, c6⟩; have f5 := hS1 _ _ g1))
  have g2 := ((Goes.of_below hBa).trans (Goes.of_below r0)).trans g1
  have hX2 := (hX.below r0).goes g1
  have z0 : Below w2.heap.size w2 w2.drew := (Below.refl _ _).drew
  have z3 := (hX2.below z0).c3
  have z5 : w2.drew.cell? ⟨w.heap.size, 5, none⟩ = some (.int .i64 (i : Int)) := f5
  have y3 := hX2.c3
  obtain ⟨lo, hi, v1, v2, v3, vT, vC, Cs, hM⟩ := h1
  have kk := hM.kk hi6
  have kf := hM.frozen
  obtain ⟨hQ, hF⟩ := hM.closer hi6 x.t
  rw [<- hN1] at hQ
  have hQ' := hQ.drew
  have hg3 : Goes o1 o1 w2 (w2.setCell ⟨B, 6 + i, none⟩ (.int .i64 x.t)).drew := (Goes.of_frm hF (fun k e => by rw [e]; omega)).trans (Goes.of_below (Below.refl _ _).drew)
  have hX3 := hX2.goes hg3
  have hg4 := g2.trans hg3
  have hgo' := hgo _ o1 ⟨_, _, _, _, _, _, _, _, hQ'⟩
  clear hM hF hQ hQ' hg3 hX2 hgo g2 hN1
  go_upto_region 2 with fail
  go_region
  generalize (w2.setCell ⟨B, 6 + i, none⟩ (.int .i64 x.t)).drew = w4 at hgo' hX3 hg4 ⊢
  have s3 := hX3.c3
  go_wp2_with fail
  refine hgo'.mono ?_
  rintro e w5 ⟨rfl, o5, k5, j5⟩
  go_wp2_with fail
  go_end0
  rw [HD.out]
  exact ⟨rfl, _, k5, hg4.trans j5⟩
end
open Go.RowKit
open Ent (En)
open Mch (Chn Frm Fw Fl below1 below_nx owns_slice' boxed_below)
section
variable {o : Nat -> Nat} {B : Nat} {M : Mod} {t : Int} {x : En}
theorem pass_any (w : World) (h : Md w o B M) (hI : Inv M) (hx : MvOk M t x) (ht : 0 <= t /\ t < (M.T.length : Int)) (hk : x.k = 7) :
    Calls Tryz.prog 75 #[ptrV B, enV x] w (Deed o B (M.do_ x) w) := by
  obtain ⟨wa, hwa⟩ : ∃ wa, wa = w.alloc (.cells (enA x) 32) := ⟨_, rfl⟩
  have hBa : Below w.heap.size w wa := by rw [hwa]; exact below1 w _
  have hX : EnO wa o w.heap.size x := ⟨by rw [hwa]; exact blk_new w _ _, h.off (Nat.le_refl _)⟩
  have hh := h.below hBa
  have hxt := hx.tt
  have hxb : 0 <= x.t /\ x.t < (M.T.length : Int) := by rw [hxt]; exact ht
  have hst := hx.st (.inl hk)
  have ho := hx.s7 hk
  obtain ⟨ha, -⟩ := does_at hI.chk hst
  rw [<- hxt] at hst ho ha
  obtain ⟨f, hf⟩ : ∃ f, f = (M.stand x.t).1 := ⟨_, rfl⟩
  obtain ⟨d, hd⟩ : ∃ d, d = M.does x.t := ⟨_, rfl⟩
  rw [<- hf, <- hd] at ha
  rw [<- hd] at ho
  have hst0 : M.stand x.t = (f, 0) := by rw [hf, <- hst]
  obtain ⟨sx, hsx, hss, hk0, hk1⟩ := site_at hI.chk ha ho
  obtain ⟨n, hn⟩ : ∃ n, n = (site M d).cs.length := ⟨_, rfl⟩
  have hn6 : n <= 6 := by rw [hn, hsx]; exact (site_all hI.chk hss).1
  have hsa := standAt_ok x.t wa hh (by have := hI.t32; omega) hI.chk hI.small hst0 ha
  have hsi := fun W (hW : Below wa.heap.size wa W) => site_any x.t f d W (hh.below hW) ⟨hk0, hk1⟩
  rw [<- hn] at hsi
  have HD : Hid (M.do_ x = M.goOn x.t (n : Int) 0 false) := Lib.hid (by unfold Mod.do_; simp only [hk]; rw [<- hd, <- hn])
  have hgo := fun (W : World) (h1 : Md W o B M) => sent_i x.t (n : Int) W h1 hI hxb
  have e3 := hX.c3
  clear hk hxt hxb hx ht hI h hst ho ha hf hd hst0 hsx hss hk0 hk1 hn
  go_enter Tryz.func75, Tryz.ntmps75
  go_upto_region 1 with fail
  rw [<- hwa]
  clear hwa
  go_wp2_with fail
  refine hsa.mono ?_
  rintro e w2 ⟨rfl, hb2⟩
  go_upto_region 2 with fail
  obtain ⟨w3, hw3⟩ : ∃ w3, w3 = w2.alloc (.cells (stdA B x.t f d) 90) := ⟨_, rfl⟩
  have hb3 : Below wa.heap.size wa w3 := by rw [hw3]; exact Mch.Below.al hb2 hb2.size _
  have hS3 : StAt w3 w2.heap.size B x.t f d := by rw [hw3]; exact blk_new w2 _ _
  have hz3 : wa.heap.size <= w2.heap.size := hb2.size
  rw [<- hw3]
  obtain ⟨P, hP⟩ : ∃ P, P = w2.heap.size := ⟨_, rfl⟩
  rw [<- hP] at hS3 hz3 ⊢
  clear hw3 hP hb2 hsa e3
  have hX3 := hX.below hb3
  have hM3 := hh.below hb3
  have hP0 : o P = 0 := hh.off hz3
  clear hh hX
  have hkS : ∀ W, Blk W P 90 (stdA B x.t f d) -> EnO W o w.heap.size x -> (W.cell? ⟨P, 0, none⟩ = some (ptrV B) /\ W.cell? ⟨P, 1, none⟩ = some (.int .i64 x.t) /\ W.cell? ⟨P, 2, none⟩ = some (.int .i64 f.c) /\ W.cell? ⟨P, 3, none⟩ = some (.int .i64 f.p) /\ W.cell? ⟨P, 4, none⟩ = some (.int .i64 f.r0) /\ W.cell? ⟨P, 5, none⟩ = some (.int .i64 f.r1) /\ W.cell? ⟨P, 6, none⟩ = some (.int .i64 f.r2) /\ W.cell? ⟨P, 7, none⟩ = some (.int .i64 f.r3) /\ W.cell? ⟨P, 8, none⟩ = some (.int .i64 f.r4) /\ W.cell? ⟨P, 9, none⟩ = some (.int .i64 f.r5) /\ W.cell? ⟨P, 10, none⟩ = some (.int .i64 f.r6) /\ W.cell? ⟨P, 11, none⟩ = some (.int .i64 f.r7) /\ W.cell? ⟨P, 12, none⟩ = some (.int .u8 (d.o : Int)) /\ W.cell? ⟨P, 13, none⟩ = some (.int .i64 d.a) /\ W.cell? ⟨P, 14, none⟩ = some (.int .i64 d.b) /\ W.cell? ⟨P, 15, none⟩ = some (.int .i64 d.c) /\ W.cell? ⟨P, 16, none⟩ = some (.int .i64 d.k)) /\ W.cell? ⟨w.heap.size, 3, none⟩ = some (.int .i64 x.t) := fun W h1 h2 => ⟨std_cells h1, h2.c3⟩
  have r0 : Below w3.heap.size w3 w3.drew := (Below.refl _ _).drew
  have e0 := hkS _ (hS3.later r0 hS3.lt) (hX3.below r0)
  obtain ⟨⟨s0, s1, s2, s3, s4, s5, s6, s7, s8, s9, s10, s11, s12, s13, s14, s15, s16⟩, e3⟩ := id e0
  go_region_held3 (fun W => (W.cell? ⟨P, 0, none⟩ = some (ptrV B) /\ W.cell? ⟨P, 1, none⟩ = some (.int .i64 x.t) /\ W.cell? ⟨P, 2, none⟩ = some (.int .i64 f.c) /\ W.cell? ⟨P, 3, none⟩ = some (.int .i64 f.p) /\ W.cell? ⟨P, 4, none⟩ = some (.int .i64 f.r0) /\ W.cell? ⟨P, 5, none⟩ = some (.int .i64 f.r1) /\ W.cell? ⟨P, 6, none⟩ = some (.int .i64 f.r2) /\ W.cell? ⟨P, 7, none⟩ = some (.int .i64 f.r3) /\ W.cell? ⟨P, 8, none⟩ = some (.int .i64 f.r4) /\ W.cell? ⟨P, 9, none⟩ = some (.int .i64 f.r5) /\ W.cell? ⟨P, 10, none⟩ = some (.int .i64 f.r6) /\ W.cell? ⟨P, 11, none⟩ = some (.int .i64 f.r7) /\ W.cell? ⟨P, 12, none⟩ = some (.int .u8 (d.o : Int)) /\ W.cell? ⟨P, 13, none⟩ = some (.int .i64 d.a) /\ W.cell? ⟨P, 14, none⟩ = some (.int .i64 d.b) /\ W.cell? ⟨P, 15, none⟩ = some (.int .i64 d.c) /\ W.cell? ⟨P, 16, none⟩ = some (.int .i64 d.k)) /\ W.cell? ⟨w.heap.size, 3, none⟩ = some (.int .i64 x.t))
    (with_reducible first | exact f5 | exact f4 | exact e0)
    ((first
      | (go_at_call 113; refine (hsi _ (hb3.trans (r0.mono hb3.size))).mono ?_; rintro e w4 ⟨ra, rc, l1, l2, rfl, -, -, hb4⟩; have hb4' := r0.trans (hb4.mono r0.size); have f4 := hkS w4 (hS3.later hb4' hS3.lt) (hX3.below hb4'); have qf : ∀ W : World, (Instr.field 116 (.agg #[.slice ra n rc, .bool (site M d).d]) 0).run Tryz.prog W = .ok (.slice ra n rc) W := fun W => sit_cs _ _ W)
      | (go_at_call 110; refine (hgo _ (hM3.below hb4')).mono ?_; rintro e w5 ⟨rfl, o5, k5, j5⟩; have g5 := (Goes.of_below hb4').trans j5; have f5 := hkS w5 ((g5.frm.block P hS3.lt (fun e => e hP0)).trans hS3) ⟨(hX3.goes g5).1, hX3.2⟩)))
  go_wp2_with fail
  go_end0
  rw [HD.out]
  exact ⟨rfl, _, k5, (Goes.of_below (hBa.trans (hb3.mono hBa.size))).trans g5⟩
end
end Go.Proofs.YtdijhgaaeifbfaaGreat.Mdl
