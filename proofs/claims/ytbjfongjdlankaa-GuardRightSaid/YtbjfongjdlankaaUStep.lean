/-
  The walk of guard.Step.
-/
import Derived.Deep.RegionHeld3
import Derived.Test.YtbjfongjdlankaaUDo
namespace Go.Proofs.Ytbjfongjdlankaa
open Go.RowKit

/-- Where a box is laid, all that there was is as it was. -/
theorem box_next (w : World) (G : Nat) : But [] w (w.alloc (.cells #[.pointer (some ⟨G, 0, none⟩)] 41)) := (But.refl [] w).alloc _
abbrev boxed (w : World) (G : Nat) : World := w.alloc (.cells #[.pointer (some ⟨G, 0, none⟩)] 41)

def StepPost (w : World) (G L P Q B V base n : Nat) (a : Option Addr) (cap : Nat) (s' : Gs) (vs' : List Nat) (c' : Nat) (all : Bool) (x : Int) (e : Ending) (w' : World) : Prop :=
  e = .returned (.tuple #[.bool all, .int .i64 x]) ∧ Gd w' G L a cap s' ∧ Lks w' L P Q B base n ∧ Cels w' B V vs' c' ∧ But [B, V, G] w w'

theorem step_all {G L P Q B V base n c : Nat} {vs : List Nat} {a : Option Addr} {cap : Nat} {s : Gs} (w : World) (h : Gd w G L a cap s) (hL : Lks w L P Q B base n) (hC : Cels w B V vs c) (hs : s.all = true) :
    Calls Try.prog 10 #[.pointer (some ⟨G, 0, none⟩)] w (StepPost w G L P Q B V base n a cap s vs c false 3) := by
  have hb := box_next w G
  have h1 := h.next hb
  have hL1 := hL.but hb (by simp) (by simp) (by simp)
  have hC1 := hC.but hb (by simp) (by simp)
  have hx := Boxed.new w 41 (.pointer (some ⟨G, 0, none⟩))
  have hask := asked_step (G := G) _ (step1_any _ hx h1)
  rw [show stepE s = 3 by unfold stepE; rw [hs]; rfl] at hask
  clear h hL hC hs hx
  go_enter Try.func10, Try.ntmps10
  go_wp2_with fail
  refine hask.mono ?_
  rintro e w1 ⟨rfl, m, rfl⟩
  go_wp2_with fail
  go_ret2
  exact ⟨rfl, h1.drewN _, hL1.drewN _, hC1.drewN _, (hb.mono (by simp)).drewN _⟩

set_option maxHeartbeats 800000 in
theorem step_draw {G L P Q B V base n c : Nat} {vs : List Nat} {a : Option Addr} {cap : Nat} {s : Gs} (w : World) (h : Gd w G L a cap s) (hL : Lks w L P Q B base n) (hC : Cels w B V vs c) (hl : base + 2 * n ≤ vs.length) (hs : s.all = false) (hd : s.d = false) :
    Calls Try.prog 10 #[.pointer (some ⟨G, 0, none⟩)] w (StepPost w G L P Q B V base n a cap { s with t := drawE base n vs (atI s.l s.h), d := true } (drawV base n vs (atI s.l s.h)) (countUp n c (atI s.l s.h)) false 0) := by
  have hb := box_next w G
  have h1 := h.next hb
  have hL1 := hL.but hb (by simp) (by simp) (by simp)
  have hC1 := hC.but hb (by simp) (by simp)
  have hx := Boxed.new w 41 (.pointer (some ⟨G, 0, none⟩))
  have hask := asked_step (G := G) _ (step1_any _ hx h1)
  rw [show stepE s = 0 by unfold stepE; rw [hs]; rfl] at hask
  have hlt : s.h < s.l.length := by have := h.le; have := of_decide_eq_false hs; omega
  have hlt' : (s.h : Int) < (s.l.length : Int) := by omega
  have cD := hx.cell
  have e0 := h1.c0
  have e1 := h1.c1
  have e2 := h1.c2
  have e3 := h1.c3
  rw [hd] at e3
  obtain ⟨b, off, cs, z, rfl, -, hrow⟩ := h1.row.row (by omega)
  have cr := hrow _ hlt
  have hDB : w.heap.size ∉ [B, V] := by have := hC.ltB; have := hC.ltV; simp; omega
  have hGB : G ∉ [B, V] := by simpa using ⟨type_ne h.head hC.head (by decide), type_ne h.head hC.row (by decide)⟩
  have hDG : w.heap.size ∉ [G] := by have := h.lt; simp; omega
  have hGD : ¬ G = w.heap.size := by have := h.lt; omega
  have hdr := fun W => draw_any (B := B) (V := V) (c := c) (vs := vs) (L := L) (P := P) (Q := Q) (base := base) (n := n) (atI s.l s.h) W
  obtain ⟨k, hk⟩ : ∃ k, k = atI s.l s.h := ⟨_, rfl⟩
  rw [← hk] at cr hdr
  rw [← hk]
  have hh := h1
  clear h hL hC hd hrow hk
  go_enter Try.func10, Try.ntmps10
  go_wp2_with fail
  refine hask.mono ?_
  rintro e w1 ⟨rfl, m, rfl⟩
  go_wp2_with fail
  go_quiet (fail)
  go_wp2_with fail
  generalize hU : World.drewN (w.alloc (.cells #[.pointer (some ⟨G, 0, none⟩)] 41)) (m + nq) = U
  have hhU : Gd U.drew G L _ cap s := hU ▸ (h1.drewN _).drew
  have hLU : Lks U.drew L P Q B base n := hU ▸ (hL1.drewN _).drew
  have hCU : Cels U.drew B V vs c := hU ▸ (hC1.drewN _).drew
  have hbU : But [] w U.drew := hU ▸ (hb.drewN _).drew
  have cU : U.drew.cell? ⟨w.heap.size, 0, none⟩ = some (.pointer (some ⟨G, 0, none⟩)) := hU ▸ cD
  have c0U := hhU.c0
  clear h1 hL1 hC1 hb cD e0 e1 e2 e3 cr hx hask hU hh
  go_region_held3 (fun w' => w'.cell? ⟨w.heap.size, 0, none⟩ = some (.pointer (some ⟨G, 0, none⟩)) ∧ w'.cell? ⟨G, 0, none⟩ = some (.pointer (some ⟨L, 0, none⟩)))
    (with_reducible first | (exact ⟨cU, c0U⟩) | (exact ⟨xD, x0⟩) | (exact ⟨xD4 _, hG4.c0⟩) | (exact ⟨xD43 _ _, hG43.c0⟩))
    ((first | (go_at_call 30; refine (hdr _ hLU hCU hl).mono ?_; rintro e w2 ⟨rfl, hC2, hb2⟩; have hG2 := hhU.cels hCU hb2; have f3 := hG2.frozen 3; have f4 := hG2.frozen 4; have x0 := hG2.c0; have x3 := hG2.c3; have x4 := hG2.c4; have xD := hb2.cell cU hDB; have hG4 := hG2.setT (k := drawE base n vs k) rfl; have hG43 := hG4.setD true; have xD4 := fun v => ((But.refl [G] w2).set (p := ⟨G, 4, none⟩) (.inl (by simp)) v).cell xD hDG; have xD43 := fun v u => (((But.refl [G] w2).set (p := ⟨G, 4, none⟩) (.inl (by simp)) v).set (p := ⟨G, 3, none⟩) (.inl (by simp)) u).cell xD hDG)))
  all_goals
    have hL2 := hLU.cels hCU hb2
    have hb3 : But [B, V, G] w w2 := (hbU.mono (by simp)).next (hb2.mono (by simp))
    have hb4 := (hb3.set (p := ⟨G, 4, none⟩) (.inl (by simp)) (.int .u16 (drawE base n vs k : Int))).set (p := ⟨G, 3, none⟩) (.inl (by simp)) (.bool true)
    have hg := ((But.refl [G] w2).set (p := ⟨G, 4, none⟩) (.inl (by simp)) (.int .u16 (drawE base n vs k : Int))).set (p := ⟨G, 3, none⟩) (.inl (by simp)) (.bool true)
    have hL4 := hL2.guard hG2 hg
    have hC4 := hC2.guard hG2 hg
    have hall := all_any _ hG43
    rw [show Gs.all { s with t := drawE base n vs k, d := true } = false from hs] at hall
    have hD4 := xD43 (.int .u16 (drawE base n vs k : Int)) (.bool true)
    clear hhU hLU hCU hbU cU c0U
    go_wp2_with fail
    refine hall.mono ?_
    rintro e w4 ⟨rfl, m4, rfl⟩
    go_wp2_with fail
    go_ret2
    exact ⟨rfl, hG43.drewN _, hL4.drewN _, hC4.drewN _, hb4.drewN _⟩

set_option maxHeartbeats 800000 in
theorem step_not {G L P Q B V base n c : Nat} {vs : List Nat} {a : Option Addr} {cap : Nat} {s : Gs} (w : World) (h : Gd w G L a cap s) (hL : Lks w L P Q B base n) (hC : Cels w B V vs c) (hl : base + 2 * n ≤ vs.length) (hs : s.all = false) (hd : s.d = true) (hm : mineE base n vs (atI s.l s.h) s.t = false) :
    Calls Try.prog 10 #[.pointer (some ⟨G, 0, none⟩)] w (StepPost w G L P Q B V base n a cap s vs (countUp n c (atI s.l s.h)) false 0) := by
  have hb := box_next w G
  have h1 := h.next hb
  have hL1 := hL.but hb (by simp) (by simp) (by simp)
  have hC1 := hC.but hb (by simp) (by simp)
  have hx := Boxed.new w 41 (.pointer (some ⟨G, 0, none⟩))
  have hask := asked_step (G := G) _ (step1_any _ hx h1)
  rw [show stepE s = 0 by unfold stepE; rw [hs]; rfl] at hask
  have hlt : s.h < s.l.length := by have := h.le; have := of_decide_eq_false hs; omega
  have hlt' : (s.h : Int) < (s.l.length : Int) := by omega
  have cD := hx.cell
  have e0 := h1.c0
  have e1 := h1.c1
  have e2 := h1.c2
  have e3 := h1.c3
  rw [hd] at e3
  have e4 := h1.c4
  obtain ⟨b, off, cs, z, rfl, -, hrow⟩ := h1.row.row (by omega)
  have cr := hrow _ hlt
  have hDB : w.heap.size ∉ [B, V] := by have := hC.ltB; have := hC.ltV; simp; omega
  have hGB : G ∉ [B, V] := by simpa using ⟨type_ne h.head hC.head (by decide), type_ne h.head hC.row (by decide)⟩
  have hDG : w.heap.size ∉ [G] := by have := h.lt; simp; omega
  have hGD : ¬ G = w.heap.size := by have := h.lt; omega
  have hdr := fun W => mine_any (B := B) (V := V) (c := c) (vs := vs) (L := L) (P := P) (Q := Q) (base := base) (n := n) (atI s.l s.h) s.t W
  simp only [hm] at hdr
  obtain ⟨k, hk⟩ : ∃ k, k = atI s.l s.h := ⟨_, rfl⟩
  rw [← hk] at cr hdr hm
  rw [← hk]
  have hh := h1
  clear h hL hC hd hrow hk
  go_enter Try.func10, Try.ntmps10
  go_wp2_with fail
  refine hask.mono ?_
  rintro e w1 ⟨rfl, m, rfl⟩
  go_wp2_with fail
  go_quiet (fail)
  go_wp2_with fail
  generalize hU : World.drewN (w.alloc (.cells #[.pointer (some ⟨G, 0, none⟩)] 41)) (m + nq) = U
  have hhU : Gd U.drew G L _ cap s := hU ▸ (h1.drewN _).drew
  have hLU : Lks U.drew L P Q B base n := hU ▸ (hL1.drewN _).drew
  have hCU : Cels U.drew B V vs c := hU ▸ (hC1.drewN _).drew
  have hbU : But [] w U.drew := hU ▸ (hb.drewN _).drew
  have cU : U.drew.cell? ⟨w.heap.size, 0, none⟩ = some (.pointer (some ⟨G, 0, none⟩)) := hU ▸ cD
  have c0U := hhU.c0
  have c4U := hhU.c4
  clear h1 hL1 hC1 hb cD e0 e1 e2 e3 e4 cr hx hask hU hh
  go_region_held3 (fun w' => w'.cell? ⟨w.heap.size, 0, none⟩ = some (.pointer (some ⟨G, 0, none⟩)) ∧ w'.cell? ⟨G, 0, none⟩ = some (.pointer (some ⟨L, 0, none⟩)) ∧ w'.cell? ⟨G, 4, none⟩ = some (.int .u16 (s.t : Int)))
    (with_reducible first | (exact ⟨cU, c0U, c4U⟩) | (exact ⟨xD, x0, x4⟩))
    ((first | (go_at_call 31; refine (hdr _ hLU hCU hl).mono ?_; rintro e w2 ⟨rfl, hC2, hb2⟩; have hG2 := hhU.cels hCU hb2; have x0 := hG2.c0; have x4 := hG2.c4; have xD := hb2.cell cU hDB)))
  all_goals
    have hL2 := hLU.cels hCU hb2
    have hb3 : But [B, V, G] w w2 := (hbU.mono (by simp)).next (hb2.mono (by simp))
    have x2 := hG2.c2
    have x3 := hG2.c3
    have f2 := hG2.frozen 2
    have f3 := hG2.frozen 3
    have f4 := hG2.frozen 4
    have hle := hG2.len
    have hwr : IntKind.i64.wrap ((s.h : Int) + 1) = ((s.h + 1 : Nat) : Int) := by rw [IntWalk.i64_in _ (by omega)]; omega
    clear hhU hLU hCU hbU cU c0U c4U
    have hall := all_any _ hG2
    rw [hs] at hall
    go_wp2_with fail
    refine hall.mono ?_
    rintro e w4 ⟨rfl, m4, rfl⟩
    go_wp2_with fail
    go_ret2
    exact ⟨rfl, hG2.drewN _, hL2.drewN _, hC2.drewN _, hb3.drewN _⟩

set_option maxHeartbeats 800000 in
theorem step_mine {G L P Q B V base n c : Nat} {vs : List Nat} {a : Option Addr} {cap : Nat} {s : Gs} (w : World) (h : Gd w G L a cap s) (hL : Lks w L P Q B base n) (hC : Cels w B V vs c) (hl : base + 2 * n ≤ vs.length) (hs : s.all = false) (hd : s.d = true) (hm : mineE base n vs (atI s.l s.h) s.t = true) :
    Calls Try.prog 10 #[.pointer (some ⟨G, 0, none⟩)] w (StepPost w G L P Q B V base n a cap { s with h := s.h + 1, d := false, t := 0 } vs (countUp n c (atI s.l s.h)) (decide (s.h + 1 = s.l.length)) 0) := by
  have hb := box_next w G
  have h1 := h.next hb
  have hL1 := hL.but hb (by simp) (by simp) (by simp)
  have hC1 := hC.but hb (by simp) (by simp)
  have hx := Boxed.new w 41 (.pointer (some ⟨G, 0, none⟩))
  have hask := asked_step (G := G) _ (step1_any _ hx h1)
  rw [show stepE s = 0 by unfold stepE; rw [hs]; rfl] at hask
  have hlt : s.h < s.l.length := by have := h.le; have := of_decide_eq_false hs; omega
  have hlt' : (s.h : Int) < (s.l.length : Int) := by omega
  have cD := hx.cell
  have e0 := h1.c0
  have e1 := h1.c1
  have e2 := h1.c2
  have e3 := h1.c3
  rw [hd] at e3
  have e4 := h1.c4
  obtain ⟨b, off, cs, z, rfl, -, hrow⟩ := h1.row.row (by omega)
  have cr := hrow _ hlt
  have hDB : w.heap.size ∉ [B, V] := by have := hC.ltB; have := hC.ltV; simp; omega
  have hGB : G ∉ [B, V] := by simpa using ⟨type_ne h.head hC.head (by decide), type_ne h.head hC.row (by decide)⟩
  have hDG : w.heap.size ∉ [G] := by have := h.lt; simp; omega
  have hGD : ¬ G = w.heap.size := by have := h.lt; omega
  have hdr := fun W => mine_any (B := B) (V := V) (c := c) (vs := vs) (L := L) (P := P) (Q := Q) (base := base) (n := n) (atI s.l s.h) s.t W
  simp only [hm] at hdr
  obtain ⟨k, hk⟩ : ∃ k, k = atI s.l s.h := ⟨_, rfl⟩
  rw [← hk] at cr hdr hm
  rw [← hk]
  have hh := h1
  clear h hL hC hd hrow hk
  go_enter Try.func10, Try.ntmps10
  go_wp2_with fail
  refine hask.mono ?_
  rintro e w1 ⟨rfl, m, rfl⟩
  go_wp2_with fail
  go_quiet (fail)
  go_wp2_with fail
  generalize hU : World.drewN (w.alloc (.cells #[.pointer (some ⟨G, 0, none⟩)] 41)) (m + nq) = U
  have hhU : Gd U.drew G L _ cap s := hU ▸ (h1.drewN _).drew
  have hLU : Lks U.drew L P Q B base n := hU ▸ (hL1.drewN _).drew
  have hCU : Cels U.drew B V vs c := hU ▸ (hC1.drewN _).drew
  have hbU : But [] w U.drew := hU ▸ (hb.drewN _).drew
  have cU : U.drew.cell? ⟨w.heap.size, 0, none⟩ = some (.pointer (some ⟨G, 0, none⟩)) := hU ▸ cD
  have c0U := hhU.c0
  have c4U := hhU.c4
  clear h1 hL1 hC1 hb cD e0 e1 e2 e3 e4 cr hx hask hU hh
  go_region_held3 (fun w' => w'.cell? ⟨w.heap.size, 0, none⟩ = some (.pointer (some ⟨G, 0, none⟩)) ∧ w'.cell? ⟨G, 0, none⟩ = some (.pointer (some ⟨L, 0, none⟩)) ∧ w'.cell? ⟨G, 4, none⟩ = some (.int .u16 (s.t : Int)))
    (with_reducible first | (exact ⟨cU, c0U, c4U⟩) | (exact ⟨xD, x0, x4⟩))
    ((first | (go_at_call 31; refine (hdr _ hLU hCU hl).mono ?_; rintro e w2 ⟨rfl, hC2, hb2⟩; have hG2 := hhU.cels hCU hb2; have x0 := hG2.c0; have x4 := hG2.c4; have xD := hb2.cell cU hDB)))
  all_goals
    have hL2 := hLU.cels hCU hb2
    have hb3 : But [B, V, G] w w2 := (hbU.mono (by simp)).next (hb2.mono (by simp))
    have x2 := hG2.c2
    have x3 := hG2.c3
    have f2 := hG2.frozen 2
    have f3 := hG2.frozen 3
    have f4 := hG2.frozen 4
    have hle := hG2.len
    have hwr : IntKind.i64.wrap ((s.h : Int) + 1) = ((s.h + 1 : Nat) : Int) := by rw [IntWalk.i64_in _ (by omega)]; omega
    clear hhU hLU hCU hbU cU c0U c4U
    go_wp2_with fail
    have hG3 := hG2.setH (x := (s.h : Int) + 1) (k := s.h + 1) (by omega) (by omega)
    have hg := (But.refl [G] w2).set (p := ⟨G, 2, none⟩) (.inl (by simp)) (.int .i64 ((s.h : Int) + 1))
    have hL3 := hL2.guard hG2 hg
    have hC3 := hC2.guard hG2 hg
    have hb4 := hb3.set (p := ⟨G, 2, none⟩) (.inl (by simp)) (.int .i64 ((s.h : Int) + 1))
    have xD3 := hg.cell xD hDG
    clear hG2 hL2 hC2 hb3 hg x0 x4 xD x2 x3 f2 f3 f4 hb2
    generalize w2.setCell ⟨G, 2, none⟩ (.int .i64 ((s.h : Int) + 1)) = W3 at hG3 hL3 hC3 hb4 xD3 ⊢
    have x3 := hG3.c3
    have x4 := hG3.c4
    have f3 := hG3.frozen 3
    have f4 := hG3.frozen 4
    have hG4 := hG3.setT (x := 0) (k := 0) rfl
    have hG43 : Gd ((W3.setCell ⟨G, 4, none⟩ (.int .u16 0)).setCell ⟨G, 3, none⟩ (.bool false)) G L (some ⟨b, off, none⟩) cap ⟨s.l, s.h + 1, false, 0⟩ := hG4.setD false
    have hg := ((But.refl [G] W3).set (p := ⟨G, 4, none⟩) (.inl (by simp)) (.int .u16 0)).set (p := ⟨G, 3, none⟩) (.inl (by simp)) (.bool false)
    have hL4 := hL3.guard hG3 hg
    have hC4 := hC3.guard hG3 hg
    have hb5 := (hb4.set (p := ⟨G, 4, none⟩) (.inl (by simp)) (.int .u16 0)).set (p := ⟨G, 3, none⟩) (.inl (by simp)) (.bool false)
    have xD5 := hg.cell xD3 hDG
    have hall := all_any _ hG43.drew
    rw [show Gs.all ⟨s.l, s.h + 1, false, 0⟩ = decide (s.h + 1 = s.l.length) from rfl] at hall
    go_region
    all_goals
      go_wp2_with fail
      refine hall.mono ?_
      rintro e w4 ⟨rfl, m4, rfl⟩
      go_wp2_with fail
      go_ret2
      exact ⟨rfl, hG43.drewN _, hL4.drewN _, hC4.drewN _, hb5.drewN _⟩

theorem gstep_any {G L P Q B V base n c : Nat} {vs : List Nat} {a : Option Addr} {cap : Nat} {s : Gs} (w : World) (h : Gd w G L a cap s) (hL : Lks w L P Q B base n) (hC : Cels w B V vs c) (hl : base + 2 * n ≤ vs.length) :
    Calls Try.prog 10 #[.pointer (some ⟨G, 0, none⟩)] w (StepPost w G L P Q B V base n a cap (stepS base n vs s) (stepV base n vs s) (stepC n c s) (stepA base n vs s) (stepE s)) := by
  unfold stepS stepV stepC stepA stepE
  cases hs : s.all with
  | true => exact step_all w h hL hC hs
  | false =>
    unfold stepS
    rw [hs]
    cases hd : s.d with
    | false =>
      have := step_draw w h hL hC hl hs hd
      rw [show (if (false : Bool) = true then false else Gs.all (if (false : Bool) = true then s else if (false : Bool) = false then { s with t := drawE base n vs (atI s.l s.h), d := true } else if mineE base n vs (atI s.l s.h) s.t = true then { s with h := s.h + 1, d := false, t := 0 } else s)) = false from hs]
      exact this
    | true =>
      cases hm : mineE base n vs (atI s.l s.h) s.t with
      | true => exact step_mine w h hL hC hl hs hd hm
      | false =>
        have := step_not w h hL hC hl hs hd hm
        rw [← hs] at this
        simpa [hs, hd, hm] using this
end Go.Proofs.Ytbjfongjdlankaa
