/-
  The walks of tollbarref21's Give and Want.
-/
import Derived.Test.YtbjfongjdlankaaUVRef
import Derived.Test.YtbjfongjdlankaaURise
namespace Go.Proofs.Ytbjfongjdlankaa
open Go.RowKit

section
variable {R Y M base n g c : Nat} {vs : List Nat} {a : Option Addr} {cap : Nat} {s : Gs}
theorem rgive_no (w : World) (h : RefG w R Y a cap s) (hL : RefL w Y M base n) (hC : RefC w M g vs c) (hs : giveE s ≠ 0) :
    Calls Try.prog 15 #[.pointer (some ⟨R, 0, none⟩)] w fun e w' => e = .returned (.tuple #[.int .i64 0, .int .i64 (giveE s)]) ∧ RPost w R Y M base n g a cap s vs c w' := by
  have e2 := h.c2
  have e4 := h.c4
  have H := Lib.hid (And.intro h (And.intro hL hC))
  clear h hL hC
  by_cases h0 : s.h = 0
  · have t1 : ((s.h : Int) == 0) = true := by rw [h0]; rfl
    rw [show giveE s = 3 by unfold giveE; rw [if_pos h0]]
    clear h0 hs
    go_enter Try.func15, Try.ntmps15
    go_wp2_with fail
    go_ret2
    exact ⟨rfl, H.out.1, H.out.2.1, g, H.out.2.2, .inl rfl, But.refl _ _⟩
  · have t1 : ((s.h : Int) == 0) = false := by simp; omega
    have hd : s.d = true := by
      cases hd : s.d with
      | true => rfl
      | false => unfold giveE at hs; rw [if_neg h0, hd] at hs; exact absurd rfl hs
    rw [show giveE s = 9 by unfold giveE; rw [if_neg h0, hd]; rfl]
    rw [hd] at e4
    clear h0 hs hd
    go_enter Try.func15, Try.ntmps15
    go_wp2_with fail
    go_ret2
    exact ⟨rfl, H.out.1, H.out.2.1, g, H.out.2.2, .inl rfl, But.refl _ _⟩

set_option maxHeartbeats 800000 in
theorem rgive_yes (w : World) (h : RefG w R Y a cap s) (hL : RefL w Y M base n) (hC : RefC w M g vs c) (hl : base + 2 * n ≤ vs.length) (hs : giveE s = 0) (k : Nat) (hk : s.h = k + 1) :
    Calls Try.prog 15 #[.pointer (some ⟨R, 0, none⟩)] w fun e w' => e = .returned (.tuple #[.int .i64 (k : Int), .int .i64 0]) ∧ RPost w R Y M base n g a cap ⟨s.l.take k, k, s.d, s.t⟩ (giveV base n vs (atI s.l k)) (countUp n c (atI s.l k)) w' := by
  have hle := h.le
  have hlen := h.len
  have hcap := h.row.cap
  have e2 := h.c2
  have e4 := h.c4
  have f2 := h.frozen 2
  have t1 : ((s.h : Int) == 0) = false := by simp; omega
  have hd : s.d = false := by
    cases hd : s.d with
    | false => rfl
    | true => unfold giveE at hs; rw [if_neg (by omega), hd] at hs; cases hs
  rw [hd] at e4
  have hwr : IntKind.i64.wrap ((s.h : Int) - 1) = (k : Int) := by rw [IntWalk.i64_in _ (by omega)]; omega
  have hG2 : RefG (w.setCell ⟨R, 2, none⟩ (.int .i64 (k : Int))) R Y a cap ⟨s.l, k, s.d, s.t⟩ := h.setH rfl (by omega)
  have hg1 := (But.refl [R] w).set (p := ⟨R, 2, none⟩) (.inl (by simp)) (.int .i64 (k : Int))
  have hL2 := hL.guard h hg1
  have hC2 := hC.guard h hg1
  have hlt : k < s.l.length := by omega
  have hlt' : (k : Int) < (s.l.length : Int) := by omega
  have hkc : (k : Int) ≤ (cap : Int) := by omega
  have htk : Hid (k = (s.l.take k).length ∧ k ≤ (s.l.take k).length ∧ (s.l.take k).length ≤ 4096) := Lib.hid (by rw [List.length_take]; omega)
  have hgv := fun W => rgive_any (R := Y) (C := M) (g := g) (base := base) (n := n) (c := c) (vs := vs) (atI s.l k) W
  obtain ⟨b, off, cs, z, rfl, -, hrow⟩ := hG2.row.row (by show 0 < s.l.length; omega)
  have cr : (w.setCell ⟨R, 2, none⟩ (.int .i64 (k : Int))).cell? ⟨b, off + k, none⟩ = some (.int .i64 (atI s.l k)) := hrow k hlt
  obtain ⟨kk, hkk⟩ : ∃ kk, kk = atI s.l k := ⟨_, rfl⟩
  rw [← hkk] at hgv cr
  rw [← hkk]
  clear h hL hC hrow hs hkk
  go_enter Try.func15, Try.ntmps15
  go_wp2_with fail
  generalize hU : World.setCell w ⟨R, 2, none⟩ (.int .i64 (k : Int)) = U at hG2 hL2 hC2 hg1 cr ⊢
  clear hU e2 e4 f2
  have c0 := hG2.c0
  have c1 := hG2.c1
  have c2 := hG2.c2
  refine wp_region_still_tail 14 (by kernel_rfl) (by kernel_rfl) ?_
  simp only [List.take_succ_cons, List.take_zero, List.drop_succ_cons, List.drop_zero]
  change wpStill _ _ U.drew (fun a' => wpList _ _ _ _ a' U.drew) _ _
  repeat still_step
  refine wpStill_nil ?_
  go_wp2_with fail
  refine (hgv _ (hL2.drewN 1) hC2.drew hl).mono ?_
  rintro e w2 ⟨rfl, g2, hC3, hg3, hb3⟩
  have hG3 := hG2.drew.cells hC2.drew hb3
  have hL3 := (hL2.drewN 1).cells hC2.drew hb3
  have hb4 : But [M, R] w w2 := (hg1.drew.mono (by simp)).next (hb3.mono (by simp))
  have hgs : g2 = g ∨ w.heap.size ≤ g2 := by
    rcases hg3 with hg3 | hg3
    · exact .inl hg3
    · exact .inr (Nat.le_trans hg1.size hg3)
  have x1 := hG3.c1
  have x2 := hG3.c2
  have f1 := hG3.frozen 1
  have hG4 : RefG (w2.setCell ⟨R, 1, none⟩ (.slice (some ⟨b, off, none⟩) k cap)) R Y (some ⟨b, off, none⟩) cap ⟨s.l.take k, k, s.d, s.t⟩ := hG3.setL htk.out.1 (hG3.row.take k) htk.out.2.1 htk.out.2.2
  have hg4 := (But.refl [R] w2).set (p := ⟨R, 1, none⟩) (.inl (by simp)) (.slice (some ⟨b, off, none⟩) k cap)
  have hL4 := hL3.guard hG3 hg4
  have hC4 := hC3.guard hG3 hg4
  have hb5 := hb4.set (p := ⟨R, 1, none⟩) (.inl (by simp)) (.slice (some ⟨b, off, none⟩) k cap)
  have y2 := hG4.c2
  clear c0 c1 c2 cr hG2 hL2 hC2 hG3 hL3 hC3 hb3 hb4 hg4 hgv htk hg1 hg3
  go_wp2_with fail
  go_region
  all_goals
    go_wp2_with fail
    go_ret2
    exact ⟨rfl, hG4.drew, hL4.drewN 1, g2, hC4.drew, hgs, hb5.drew⟩

theorem rgive21_any (w : World) (h : RefG w R Y a cap s) (hL : RefL w Y M base n) (hC : RefC w M g vs c) (hl : base + 2 * n ≤ vs.length) :
    Calls Try.prog 15 #[.pointer (some ⟨R, 0, none⟩)] w fun e w' => e = .returned (.tuple #[.int .i64 (giveN s : Int), .int .i64 (giveE s)]) ∧ RPost w R Y M base n g a cap (giveS s) (giveVs base n vs s) (giveC n c s) w' := by
  unfold giveS giveVs giveC giveN
  by_cases h0 : giveE s = 0
  · rw [if_pos h0, if_pos h0, if_pos h0, if_pos h0, h0]
    obtain ⟨k, hk⟩ : ∃ k, s.h = k + 1 := by
      cases hh : s.h with
      | zero => unfold giveE at h0; rw [if_pos hh] at h0; cases h0
      | succ k => exact ⟨k, rfl⟩
    rw [hk, Nat.add_sub_cancel]
    exact rgive_yes w h hL hC hl h0 k hk
  · rw [if_neg h0, if_neg h0, if_neg h0, if_neg h0]
    exact rgive_no w h hL hC h0
end

/-! ### Want -/
/-- The last one of those that were gone over; -1 ahead of the first. -/
def lastI (xs : List Int) (j : Nat) : Int := if j = 0 then -1 else atI xs (j - 1)
theorem rises_from {n : Nat} {xs : List Int} {j : Nat} (hj : j < xs.length) (h : rises n xs = risesFrom n (lastI xs j) (xs.drop j)) (hx : atI xs j < (n : Int)) (hp : lastI xs j < atI xs j) : rises n xs = risesFrom n (lastI xs (j + 1)) (xs.drop (j + 1)) := by
  rw [h, rises_step hj, decide_eq_true hx, decide_eq_true hp, lastI, if_neg (by omega)]
  rfl
theorem rises_not {n : Nat} {xs : List Int} {j : Nat} (hj : j < xs.length) (h : rises n xs = risesFrom n (lastI xs j) (xs.drop j)) (hx : ¬ (atI xs j < (n : Int) ∧ lastI xs j < atI xs j)) : rises n xs = false := by
  rw [h, rises_step hj]
  by_cases h1 : atI xs j < (n : Int)
  · rw [decide_eq_false (fun h2 => hx ⟨h1, h2⟩)]; simp
  · rw [decide_eq_false h1]; rfl

def WPost (w : World) (R Y : Nat) (s' : Gs) (w' : World) : Prop := (∃ a cap, RefG w' R Y a cap s') ∧ But [R] w w'
/-- The slice that starts at b reads as l; of none it has no room. -/
def ArgI (w : World) (b : Option Addr) (kap : Nat) (l : List Int) : Prop := RowA w b l ∧ (b = none → kap = 0)
end Go.Proofs.Ytbjfongjdlankaa
