/-
  The walk of the laws' same: a guard that is the document's.
-/
import Derived.Deep.RegionHeld3
import Derived.Test.YtbjfongjdlankaaUVWant
import Derived.Test.YtbjfongjdlankaaURightM
namespace Go.Proofs.Ytbjfongjdlankaa
open Go.RowKit

/-- A ticket is there just if it was drawn; whoever has one goes for something. -/
def Neat (s : Gs) : Prop := (s.d = true → s.h < s.l.length) ∧ (s.d = false → s.t = 0)
theorem Neat.none : Neat Gs.none := ⟨fun h => (by cases h), fun _ => rfl⟩
theorem Neat.all {s : Gs} (h : Neat s) (ha : s.all = true) : s.d = false ∧ s.t = 0 := by
  have hd : s.d = false := by
    cases hd : s.d with
    | false => rfl
    | true => have := h.1 hd; have := of_decide_eq_true ha; omega
  exact ⟨hd, h.2 hd⟩
theorem Neat.step {base n : Nat} {vs : List Nat} {s : Gs} (h : Neat s) (hle : s.h ≤ s.l.length) : Neat (stepS base n vs s) := by
  unfold stepS
  cases ha : s.all with
  | true => exact h
  | false =>
    have hlt : s.h < s.l.length := by have := of_decide_eq_false ha; omega
    simp only [Bool.false_eq_true, if_false]
    split
    · exact ⟨fun _ => hlt, fun hh => (by cases hh)⟩
    · split
      · exact ⟨fun hh => (by cases hh), fun _ => rfl⟩
      · exact h
theorem Neat.give {s : Gs} (h : Neat s) : Neat (giveS s) := by
  unfold giveS
  split
  · rename_i hE
    have hd : s.d = false := by
      unfold giveE at hE
      split at hE
      · cases hE
      · cases hd : s.d with
        | false => rfl
        | true => rw [hd] at hE; cases hE
    exact ⟨fun hh => (by rw [show s.d = true from hh] at hd; cases hd), fun _ => h.2 hd⟩
  · exact h
theorem Neat.want {n : Nat} {s : Gs} {l : List Int} (h : Neat s) : Neat (wantS n s l) := by
  unfold wantS
  split
  · rename_i hE
    have hd : s.d = false := by
      unfold wantE at hE
      split at hE
      · cases hE
      · rename_i hh
        cases hd : s.d with
        | false => rfl
        | true => exact absurd (.inr hd) hh
    exact ⟨fun hh => (by rw [show s.d = true from hh] at hd; cases hd), fun _ => h.2 hd⟩
  · exact h

set_option maxRecDepth 100000 in
set_option maxHeartbeats 1600000 in
theorem same_all {G L R Y : Nat} {a a2 : Option Addr} {cap cap2 : Nat} {s : Gs} (w : World) (h : Gd w G L a cap s) (hr : RefG w R Y a2 cap2 s) (hn : Neat s) (ha : s.all = true) :
    Calls Try.prog 18 #[.pointer (some ⟨G, 0, none⟩), .pointer (some ⟨R, 0, none⟩)] w fun e w' => e = .returned (.bool true) ∧ But [] w w' := by
  obtain ⟨hd, ht⟩ := hn.all ha
  have hnext := next_all w h ha
  have hlt0 : s.h ≤ s.l.length := h.le
  have hlen := h.len
  have hcap := hr.row.cap
  have H := Lib.hid (And.intro h hr)
  have HA := Lib.hid ha
  have HD := Lib.hid hd
  have HT := Lib.hid ht
  clear h hr hn ha hd ht
  go_enter Try.func18, Try.ntmps18
  go_wp2_with fail
  refine hnext.mono ?_
  rintro e w1 ⟨rfl, m, rfl⟩
  have hrall := rall_any _ (H.out.2.drewN m)
  rw [HA.out] at hrall
  clear hnext
  go_wp2_with fail
  refine hrall.mono ?_
  rintro e w2 ⟨rfl, m2, rfl⟩
  have hG := (H.out.1.drewN m).drewN m2
  have hR := (H.out.2.drewN m).drewN m2
  have hb0 : But [] w ((w.drewN m).drewN m2) := ((But.refl [] w).drewN m).drewN m2
  clear hrall
  rw [drewN_add] at hG hR hb0 ⊢
  go_upto_region 5 with fail
  generalize World.drewN w (m + m2) = wf at hG hR hb0 ⊢
  have hGd := hG.drew
  have hRd := hR.drew
  have x1 := hRd.c1
  have x2 := hRd.c2
  have x3 := hRd.c3
  have x4 := hRd.c4
  have x3 : wf.drew.cell? ⟨R, 3, none⟩ = some (.int .u16 0) := by have := hRd.c3; rw [HT.out] at this; exact this
  rw [HD.out] at x4
  have hle := hlt0
  have hlc : (s.h : Int) ≤ (cap2 : Int) := by omega
  have htk : Hid ((s.l.take s.h).length = s.h) := Lib.hid (by rw [List.length_take]; omega)
  have hall : ∀ W, But [] wf.drew W → Calls Try.prog 20 #[.pointer (some ⟨G, 0, none⟩)] W fun e w' => e = .returned (.bool true) ∧ But [] wf.drew w' := fun W hW => by
    have := all_any W (hGd.next hW)
    rw [HA.out] at this
    exact this.mono fun e w' ⟨h1, m, h2⟩ => ⟨h1, by rw [h2]; exact hW.drewN m⟩
  have hrall : ∀ W, But [] wf.drew W → Calls Try.prog 32 #[.pointer (some ⟨R, 0, none⟩)] W fun e w' => e = .returned (.bool true) ∧ But [] wf.drew w' := fun W hW => by
    have := rall_any W (hRd.next hW)
    rw [HA.out] at this
    exact this.mono fun e w' ⟨h1, m, h2⟩ => ⟨h1, by rw [h2]; exact hW.drewN m⟩
  have hheld : ∀ W, But [] wf.drew W → Calls Try.prog 23 #[.pointer (some ⟨G, 0, none⟩)] W fun e w' => ∃ a' cap', e = .returned (.slice a' s.h cap') ∧ RowT w' a' cap' (s.l.take s.h) ∧ But [] wf.drew w' := fun W hW => by
    refine (held_any W (hGd.next hW)).mono ?_
    rintro e w' ⟨a', cap', h1, h2, h3⟩
    exact ⟨a', cap', h1, h2, hW.next h3⟩
  have hsame : ∀ W a' cap', But [] wf.drew W → RowT W a' cap' (s.l.take s.h) → Calls Try.prog 22 #[.slice a' s.h cap', .slice a2 s.h cap2] W fun e w' => e = .returned (.bool true) ∧ But [] wf.drew w' := fun W a' cap' hW hr' => by
    have := same_eq cap' cap2 W hr'.any ((hRd.next hW).row.take s.h).any (by rw [htk.out]; omega)
    rw [htk.out] at this
    exact this.mono fun e w' ⟨h1, m, h2⟩ => ⟨h1, by rw [h2]; exact hW.drewN m⟩
  have k1 : ∀ W, But [] wf.drew W → W.cell? ⟨R, 1, none⟩ = some (.slice a2 s.l.length cap2) := fun W hW => hW.cell x1 (by simp)
  have k2 : ∀ W, But [] wf.drew W → W.cell? ⟨R, 2, none⟩ = some (.int .i64 (s.h : Int)) := fun W hW => hW.cell x2 (by simp)
  have k3 : ∀ W, But [] wf.drew W → W.cell? ⟨R, 3, none⟩ = some (.int .u16 0) := fun W hW => hW.cell x3 (by simp)
  have k4 : ∀ W, But [] wf.drew W → W.cell? ⟨R, 4, none⟩ = some (.bool false) := fun W hW => hW.cell x4 (by simp)
  have hD0 : But [] wf.drew wf.drew := But.refl _ _
  have zz : (true == true) = true := rfl
  have HB := Lib.hid hb0
  clear hGd hRd hG hR hb0 hle
  go_region_held3 (fun w' => w'.cell? ⟨R, 1, none⟩ = some (.slice a2 s.l.length cap2) ∧ w'.cell? ⟨R, 2, none⟩ = some (.int .i64 (s.h : Int)) ∧ w'.cell? ⟨R, 3, none⟩ = some (.int .u16 0) ∧ w'.cell? ⟨R, 4, none⟩ = some (.bool false) ∧ But [] wf.drew w')
    (with_reducible first | (exact ⟨x1, x2, x3, x4, hD0⟩) | (exact ⟨k1 _ hb1, k2 _ hb1, k3 _ hb1, k4 _ hb1, hb1⟩) | (exact ⟨k1 _ hb2, k2 _ hb2, k3 _ hb2, k4 _ hb2, hb2⟩) | (exact ⟨k1 _ hb3, k2 _ hb3, k3 _ hb3, k4 _ hb3, hb3⟩) | (exact ⟨k1 _ hb4, k2 _ hb4, k3 _ hb4, k4 _ hb4, hb4⟩))
    ((with_reducible first
      | (go_at_call 20; refine (hall _ (by assumption)).mono ?_; rintro e wa ⟨rfl, hb1⟩)
      | (go_at_call 32; refine (hrall _ (by assumption)).mono ?_; rintro e wb ⟨rfl, hb2⟩)
      | (go_at_call 23; refine (hheld _ (by assumption)).mono ?_; rintro e wc ⟨a', cap', rfl, hrow, hb3⟩)
      | (go_at_call 22; refine (hsame _ _ _ (by assumption) (by assumption)).mono ?_; rintro e wd ⟨rfl, hb4⟩)))
  all_goals
    have hbe := HB.out.drew.next hb4
    clear hall hrall hheld hsame k1 k2 k3 k4 hb1 hb2 hb3 hb4 hD0 hrow
    go_wp2_with fail
    go_ret
    exact ⟨rfl, hbe⟩


set_option maxRecDepth 100000 in
set_option maxHeartbeats 1600000 in
theorem same_more {G L R Y : Nat} {a a2 : Option Addr} {cap cap2 : Nat} {s : Gs} (w : World) (h : Gd w G L a cap s) (hr : RefG w R Y a2 cap2 s) (ha : s.all = false) :
    Calls Try.prog 18 #[.pointer (some ⟨G, 0, none⟩), .pointer (some ⟨R, 0, none⟩)] w fun e w' => e = .returned (.bool true) ∧ But [] w w' := by
  have hnext := next_more w h ha
  have hlt0 : s.h ≤ s.l.length := h.le
  have hlt : s.h < s.l.length := by have := of_decide_eq_false ha; omega
  have hlt' : (s.h : Int) < (s.l.length : Int) := by omega
  have hlen := h.len
  have hcap := hr.row.cap
  have H := Lib.hid (And.intro h hr)
  have HA := Lib.hid ha
  obtain ⟨x, hx⟩ : ∃ x, x = atI s.l s.h := ⟨_, rfl⟩
  rw [← hx] at hnext
  obtain ⟨t, ht⟩ : ∃ t, t = s.t := ⟨_, rfl⟩
  rw [← ht] at hnext
  obtain ⟨d, hd⟩ : ∃ d, d = s.d := ⟨_, rfl⟩
  rw [← hd] at hnext
  have HX := Lib.hid hx
  have HT := Lib.hid ht
  have HD := Lib.hid hd
  clear h hr ha hx ht hd
  go_enter Try.func18, Try.ntmps18
  go_wp2_with fail
  refine hnext.mono ?_
  rintro e w1 ⟨rfl, m, rfl⟩
  have hrall := rall_any _ (H.out.2.drewN m)
  rw [HA.out] at hrall
  clear hnext
  go_wp2_with fail
  refine hrall.mono ?_
  rintro e w2 ⟨rfl, m2, rfl⟩
  have hG := (H.out.1.drewN m).drewN m2
  have hR := (H.out.2.drewN m).drewN m2
  have hb0 : But [] w ((w.drewN m).drewN m2) := ((But.refl [] w).drewN m).drewN m2
  clear hrall
  rw [drewN_add] at hG hR hb0 ⊢
  have y1 := H.out.2.c1
  have y2 := H.out.2.c2
  obtain ⟨b, off, cs, z, rfl, -, hrow0⟩ := H.out.2.row.row (by omega)
  have yr := hrow0 _ hlt
  rw [← HX.out] at yr
  clear hrow0
  go_wp2_with fail
  go_quiet (fail)
  clear y1 y2 yr
  go_wp2_with fail
  generalize hU : World.drewN (World.drewN w (m + m2)) nq = wf
  have hG : Gd wf G L a cap s := by rw [← hU]; exact hG.drewN nq
  have hR : RefG wf R Y (some ⟨b, off, none⟩) cap2 s := by rw [← hU]; exact hR.drewN nq
  have hb0 : But [] w wf := by rw [← hU]; exact hb0.drewN nq
  clear hU
  have hGd := hG.drew
  have hRd := hR.drew
  have x1 := hRd.c1
  have x2 := hRd.c2
  have x3 := hRd.c3
  have x4 := hRd.c4
  rw [← HT.out] at x3
  rw [← HD.out] at x4
  have hle := hlt0
  have hlc : (s.h : Int) ≤ (cap2 : Int) := by omega
  have htk : Hid ((s.l.take s.h).length = s.h) := Lib.hid (by rw [List.length_take]; omega)
  have hall : ∀ W, But [] wf.drew W → Calls Try.prog 20 #[.pointer (some ⟨G, 0, none⟩)] W fun e w' => e = .returned (.bool false) ∧ But [] wf.drew w' := fun W hW => by
    have := all_any W (hGd.next hW)
    rw [HA.out] at this
    exact this.mono fun e w' ⟨h1, m, h2⟩ => ⟨h1, by rw [h2]; exact hW.drewN m⟩
  have hrall : ∀ W, But [] wf.drew W → Calls Try.prog 32 #[.pointer (some ⟨R, 0, none⟩)] W fun e w' => e = .returned (.bool false) ∧ But [] wf.drew w' := fun W hW => by
    have := rall_any W (hRd.next hW)
    rw [HA.out] at this
    exact this.mono fun e w' ⟨h1, m, h2⟩ => ⟨h1, by rw [h2]; exact hW.drewN m⟩
  have hheld : ∀ W, But [] wf.drew W → Calls Try.prog 23 #[.pointer (some ⟨G, 0, none⟩)] W fun e w' => ∃ a' cap', e = .returned (.slice a' s.h cap') ∧ RowT w' a' cap' (s.l.take s.h) ∧ But [] wf.drew w' := fun W hW => by
    refine (held_any W (hGd.next hW)).mono ?_
    rintro e w' ⟨a', cap', h1, h2, h3⟩
    exact ⟨a', cap', h1, h2, hW.next h3⟩
  have hsame : ∀ W a' cap', But [] wf.drew W → RowT W a' cap' (s.l.take s.h) → Calls Try.prog 22 #[.slice a' s.h cap', .slice (some ⟨b, off, none⟩) s.h cap2] W fun e w' => e = .returned (.bool true) ∧ But [] wf.drew w' := fun W a' cap' hW hr' => by
    have := same_eq cap' cap2 W hr'.any ((hRd.next hW).row.take s.h).any (by rw [htk.out]; omega)
    rw [htk.out] at this
    exact this.mono fun e w' ⟨h1, m, h2⟩ => ⟨h1, by rw [h2]; exact hW.drewN m⟩
  have k1 : ∀ W, But [] wf.drew W → W.cell? ⟨R, 1, none⟩ = some (.slice (some ⟨b, off, none⟩) s.l.length cap2) := fun W hW => hW.cell x1 (by simp)
  have k2 : ∀ W, But [] wf.drew W → W.cell? ⟨R, 2, none⟩ = some (.int .i64 (s.h : Int)) := fun W hW => hW.cell x2 (by simp)
  have k3 : ∀ W, But [] wf.drew W → W.cell? ⟨R, 3, none⟩ = some (.int .u16 (t : Int)) := fun W hW => hW.cell x3 (by simp)
  have k4 : ∀ W, But [] wf.drew W → W.cell? ⟨R, 4, none⟩ = some (.bool d) := fun W hW => hW.cell x4 (by simp)
  have hD0 : But [] wf.drew wf.drew := But.refl _ _
  have zz : (false == false) = true := rfl
  have z1 : (x == x) = true := by simp
  have z2 : (d == d) = true := by simp
  have z3 : ((t : Int) == (t : Int)) = true := by simp
  have HB := Lib.hid hb0
  clear hGd hRd hG hR hb0 hle
  go_region_held3 (fun w' => w'.cell? ⟨R, 1, none⟩ = some (.slice (some ⟨b, off, none⟩) s.l.length cap2) ∧ w'.cell? ⟨R, 2, none⟩ = some (.int .i64 (s.h : Int)) ∧ w'.cell? ⟨R, 3, none⟩ = some (.int .u16 (t : Int)) ∧ w'.cell? ⟨R, 4, none⟩ = some (.bool d) ∧ But [] wf.drew w')
    (with_reducible first | (exact ⟨x1, x2, x3, x4, hD0⟩) | (exact ⟨k1 _ hb1, k2 _ hb1, k3 _ hb1, k4 _ hb1, hb1⟩) | (exact ⟨k1 _ hb2, k2 _ hb2, k3 _ hb2, k4 _ hb2, hb2⟩) | (exact ⟨k1 _ hb3, k2 _ hb3, k3 _ hb3, k4 _ hb3, hb3⟩) | (exact ⟨k1 _ hb4, k2 _ hb4, k3 _ hb4, k4 _ hb4, hb4⟩))
    ((with_reducible first
      | (go_at_call 20; refine (hall _ (by assumption)).mono ?_; rintro e wa ⟨rfl, hb1⟩)
      | (go_at_call 32; refine (hrall _ (by assumption)).mono ?_; rintro e wb ⟨rfl, hb2⟩)
      | (go_at_call 23; refine (hheld _ (by assumption)).mono ?_; rintro e wc ⟨a', cap', rfl, hrow, hb3⟩)
      | (go_at_call 22; refine (hsame _ _ _ (by assumption) (by assumption)).mono ?_; rintro e wd ⟨rfl, hb4⟩)))
  all_goals
    have hbe := HB.out.drew.next hb4
    clear hall hrall hheld hsame k1 k2 k3 k4 hb1 hb2 hb3 hb4 hD0 hrow
    go_wp2_with fail
    go_ret
    exact ⟨rfl, hbe⟩

theorem same_any {G L R Y : Nat} {a a2 : Option Addr} {cap cap2 : Nat} {s : Gs} (w : World) (h : Gd w G L a cap s) (hr : RefG w R Y a2 cap2 s) (hn : Neat s) : Calls Try.prog 18 #[.pointer (some ⟨G, 0, none⟩), .pointer (some ⟨R, 0, none⟩)] w fun e w' => e = .returned (.bool true) ∧ But [] w w' := by
  cases ha : s.all with
  | true => exact same_all w h hr hn ha
  | false => exact same_more w h hr ha
end Go.Proofs.Ytbjfongjdlankaa
