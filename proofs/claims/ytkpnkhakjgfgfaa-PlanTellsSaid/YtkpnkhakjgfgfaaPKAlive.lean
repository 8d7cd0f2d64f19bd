/-
  The walk of alive: the chapter's examples.
-/
import Derived.Test.YtkpnkhakjgfgfaaPKDo
namespace Go.Proofs.Ytkpnkhakjgfgfaa
open Go.RowKit
open Lq (But I64b)

theorem PlanAt.kept {W W' : World} {n : Nat} {d v : Int} (h : PlanAt W n d v) {S : List Nat} (hb : But S W W') (hn : n ∉ S) : PlanAt W' n d v := (hb.block n h.lt hn).trans h
theorem look_at {p : Pl} {h : Hs} (send : Bool) (w : World) (H : Hch w p h) (d v : Int) (hd : ((lookP h send).1 : Int) = d) (hv : (lookP h send).2 = v) :
    Calls Try.prog 11 #[ptrO p.C, .bool send] w fun e w' => e = .returned (.agg #[.int .u8 d, .int .i64 v]) ∧ But [] w w' := by
  rw [← hd, ← hv]; exact look_any send w H

set_option maxRecDepth 100000 in
set_option maxHeartbeats 4000000 in
theorem alive_any (w : World) :
    Calls Try.prog 5 #[] w fun e w' => e = .returned (.bool true) ∧ Below w.heap.size w w' := by
  go_enter Try.func5, Try.ntmps5
  go_wp2_with fail
  refine (hnew_ok 1 w (by decide)).mono ?_
  rintro e w1 ⟨p, rfl, H1, hb1, hp⟩
  go_wp2_with fail
  refine (look_at true w1 H1 3 0 rfl rfl).mono ?_
  rintro e w2 ⟨rfl, hb2⟩
  go_wp2_with fail
  refine (look_at false w2 (H1.fresh hb2) 5 0 rfl rfl).mono ?_
  rintro e w3 ⟨rfl, hb3⟩
  obtain ⟨W, hW⟩ : ∃ W, W = (w3.alloc (.cells #[.int .u8 3, .int .i64 0] 34)).alloc (.cells #[.int .u8 5, .int .i64 0] 34) := ⟨_, rfl⟩
  have hbW : But [] w1 W := by rw [hW]; exact (((hb2.next hb3)).alloc _).alloc _
  have A3 : PlanAt W w3.heap.size 3 0 := by rw [hW]; exact (plan_new w3 3 0).later (below1 _ _)
  have A4 : PlanAt W (w3.heap.size + 1) 5 0 := by
    have := plan_new (w3.alloc (.cells #[.int .u8 3, .int .i64 0] 34)) 5 0
    rw [World.size_alloc] at this
    rw [hW]; exact this
  have hp3 : ∀ x ∈ p.all, x < w3.heap.size := fun x hx => Nat.lt_of_lt_of_le (H1.ltAll x hx) (hb2.next hb3).size
  have H4 := H1.fresh hbW
  clear hb2 hb3
  go_wp2_with fail
  rw [← hW]
  clear hW
  refine (henq_any false 3 W H4).mono ?_
  rintro e w5 ⟨rfl, H5, hb5⟩
  rw [show (Hs.new 1).setQ false (Lq.putX ((Hs.new 1).q false) 3) = ⟨1, false, [], [], [3]⟩ from rfl] at H5
  have n3 : w3.heap.size ∉ p.all := fun h => by have := hp3 _ h; omega
  have n4 : w3.heap.size + 1 ∉ p.all := fun h => by have := hp3 _ h; omega
  have B3 := A3.kept hb5 n3
  have B4 := A4.kept hb5 n4
  have g5 : w3.heap.size + 1 < w5.heap.size := B4.lt
  go_wp2_with fail
  refine (look_at true w5 H5 2 3 rfl rfl).mono ?_
  rintro e w6 ⟨rfl, hb6⟩
  obtain ⟨V, hV⟩ : ∃ V, V = w6.alloc (.cells #[.int .u8 2, .int .i64 3] 34) := ⟨_, rfl⟩
  have hbV : But [] w5 V := by rw [hV]; exact hb6.alloc _
  have C5 : PlanAt V w6.heap.size 2 3 := by rw [hV]; exact plan_new w6 2 3
  have C3 := B3.kept hbV (by simp)
  have C4 := B4.kept hbV (by simp)
  have H6 := H5.fresh hbV
  have n5 : w6.heap.size ∉ p.all := fun h => by have := hp3 _ h; have := hb6.size; omega
  clear A3 A4 B3 B4
  go_wp2_with fail
  rw [← hV]
  clear hV
  refine (hshut_any V H6).mono ?_
  rintro e w7 ⟨rfl, H7, hb7⟩
  rw [show (Hs.shut ⟨1, false, [], [], [3]⟩) = ⟨1, true, [], [], [3]⟩ from rfl] at H7
  have D3 := C3.kept hb7 n3
  have D4 := C4.kept hb7 n4
  have D5 := C5.kept hb7 n5
  clear C3 C4 C5
  go_wp2_with fail
  refine (look_at true w7 H7 1 0 rfl rfl).mono ?_
  rintro e w8 ⟨rfl, hb8⟩
  obtain ⟨X, hX⟩ : ∃ X, X = w8.alloc (.cells #[.int .u8 1, .int .i64 0] 34) := ⟨_, rfl⟩
  have hbX : But [] w7 X := by rw [hX]; exact hb8.alloc _
  have E6 : PlanAt X w8.heap.size 1 0 := by rw [hX]; exact plan_new w8 1 0
  have E3 := D3.kept hbX (by simp)
  have E4 := D4.kept hbX (by simp)
  have E5 := D5.kept hbX (by simp)
  have H8 := H7.fresh hbX
  clear D3 D4 D5
  go_wp2_with fail
  rw [← hX]
  clear hX
  refine (wake_any X H8).mono ?_
  rintro e w9 ⟨rfl, hb9⟩
  rw [show wakeP ⟨1, true, [], [], [3]⟩ = (3, false, true) from rfl]
  have F3 := E3.kept hb9 (by simp)
  have F4 := E4.kept hb9 (by simp)
  have F5 := E5.kept hb9 (by simp)
  have F6 := E6.kept hb9 (by simp)
  have H9 := H8.fresh hb9
  have a0 := F3.c0
  have a1 := F3.c1
  have b0 := F4.c0
  have b1 := F4.c1
  have c0 := F5.c0
  have c1 := F5.c1
  have d0 := F6.c0
  have d1 := F6.c1
  clear E3 E4 E5 E6 F3 F4 F5 F6
  go_wp2_with fail
  refine (swaps_any false w9 H9).mono ?_
  rintro e w10 ⟨rfl, hb10⟩
  rw [show (!false && decide (0 < (Hs.mk 1 true [] [] [3]).m)) = true from rfl]
  go_wp2_with fail
  refine (swaps_any true w10 (H9.fresh hb10)).mono ?_
  rintro e w11 ⟨rfl, hb11⟩
  rw [show (!true && decide (0 < (Hs.mk 1 true [] [] [3]).m)) = false from rfl]
  go_wp2_with fail
  refine (quiet_any w11 (H9.fresh (hb10.next hb11))).mono ?_
  rintro e w12 ⟨rfl, hb12⟩
  rw [show quietP ⟨1, true, [], [], [3]⟩ = false from rfl]
  go_wp2_with fail
  go_ret
  refine ⟨rfl, ?_⟩
  have r1 : Below w.heap.size w W := (hb1.next hbW).below (Nat.le_refl _) (by simp)
  have r5 : Below w.heap.size W w5 := hb5.below r1.size hp
  have r6 : Below w.heap.size w5 V := hbV.below (r1.trans r5).size (by simp)
  have r7 : Below w.heap.size V w7 := hb7.below ((r1.trans r5).trans r6).size hp
  have r8 : Below w.heap.size w7 w12 := (((hbX.next hb9).next hb10).next (hb11.next hb12)).below (((r1.trans r5).trans r6).trans r7).size (by simp)
  exact (((r1.trans r5).trans r6).trans r7).trans r8
end Go.Proofs.Ytkpnkhakjgfgfaa
