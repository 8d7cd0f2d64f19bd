/-
  The walk of does: an operation that comes with the lock, as Look tells, by a slot of its own.
-/
import Derived.Test.YtkpnkhakjgfgfaaPKDo
import Derived.Test.YtkpnkhakjgfgfaaPLQuietM
namespace Go.Proofs.Ytkpnkhakjgfgfaa
open Go.RowKit
open Lq (But I64b)

theorem hid_app {p : Pl} {W W' : World} (h : But [] W W') : But p.all W W' := h.mono (by simp)
set_option maxRecDepth 100000 in
set_option maxHeartbeats 1000000 in
theorem does_s_claim {p : Pl} {m n : Nat} {b s t : List Int} {x : Int} (w : World) (hx : I64b x) (H : Hch w p ⟨m, false, b, s, x :: t⟩) :
    Calls Try.prog 15 #[ptrO p.C, .bool true, .int .i64 (n : Int)] w fun e w' => e = .returned (.bool true) ∧ Hch w' p ⟨m, false, b, s, t⟩ ∧ But p.all w w' := by
  have hl := look_any true w H
  rw [show lookP ⟨m, false, b, s, x :: t⟩ true = (2, x) by simp [lookP, Hs.q]] at hl
  simp only at hl
  go_enter Try.func15, Try.ntmps15
  go_wp2_with fail
  refine hl.mono ?_
  rintro e w1 ⟨rfl, hb⟩
  obtain ⟨W, hW⟩ : ∃ W, W = w1.alloc (.cells #[.int .u8 2, .int .i64 x] 34) := ⟨_, rfl⟩
  have P : PlanAt W w1.heap.size 2 x := by rw [hW]; exact plan_new w1 _ _
  have hb0 : But p.all w W := by rw [hW]; exact hid_app (hb.alloc _)
  have H0 : Hch W p ⟨m, false, b, s, x :: t⟩ := by rw [hW]; exact H.fresh (hb.alloc _)
  have c0 := P.c0
  have c1 := P.c1
  rw [hW] at c0 c1
  clear hl H hb
  go_wp2_with fail
  try rw [← hW]
  refine (hdeq_any false x hx W H0).mono ?_
  rintro e w2 ⟨rfl, H2, hb2⟩
  rw [show Lq.dropE ((Hs.mk m false b s (x :: t)).q false) x = 0 by simp [Lq.dropE, Hs.q]]
  rw [show ((Hs.mk m false b s (x :: t)).q false).erase x = t by simp [Hs.q]] at H2
  clear c0 c1
  go_wp2_with fail
  try rw [← hW]
  refine (swaps_any true w2 H2).mono ?_
  rintro e w3 ⟨rfl, hb3⟩
  go_wp2_with fail
  go_ret
  exact ⟨rfl, H2.fresh hb3, (hb0.next hb2).next (hid_app hb3)⟩
set_option maxRecDepth 100000 in
set_option maxHeartbeats 1000000 in
theorem does_s_put {p : Pl} {m n : Nat} {b s : List Int} (w : World) (hb' : b.length < m) (H : Hch w p ⟨m, false, b, s, []⟩) :
    Calls Try.prog 15 #[ptrO p.C, .bool true, .int .i64 (n : Int)] w fun e w' => e = .returned (.bool true) ∧ Hch w' p ⟨m, false, b ++ [(n : Int)], s, []⟩ ∧ But p.all w w' := by
  have hl := look_any true w H
  rw [show lookP ⟨m, false, b, s, []⟩ true = (3, 0) by simp [lookP, Hs.q, hb']] at hl
  simp only at hl
  go_enter Try.func15, Try.ntmps15
  go_wp2_with fail
  refine hl.mono ?_
  rintro e w1 ⟨rfl, hb⟩
  obtain ⟨W, hW⟩ : ∃ W, W = w1.alloc (.cells #[.int .u8 3, .int .i64 0] 34) := ⟨_, rfl⟩
  have P : PlanAt W w1.heap.size 3 0 := by rw [hW]; exact plan_new w1 _ _
  have hb0 : But p.all w W := by rw [hW]; exact hid_app (hb.alloc _)
  have H0 : Hch W p ⟨m, false, b, s, []⟩ := by rw [hW]; exact H.fresh (hb.alloc _)
  have c0 := P.c0
  have c1 := P.c1
  rw [hW] at c0 c1
  clear hl H hb
  go_wp2_with fail
  try rw [← hW]
  refine (hput_any (n : Int) W H0).mono ?_
  rintro e w2 ⟨rfl, H2, hb2⟩
  simp only at H2
  rw [show Rg.putE m b = 0 by unfold Rg.putE; rw [if_neg (by omega)]]
  rw [show Rg.putL m b (n : Int) = b ++ [(n : Int)] by unfold Rg.putL; rw [if_neg (by omega)]] at H2
  go_wp2_with fail
  go_ret
  exact ⟨rfl, H2, hb0.next hb2⟩
set_option maxRecDepth 100000 in
set_option maxHeartbeats 1000000 in
theorem does_s_wait {p : Pl} {m n : Nat} {b s : List Int} (w : World) (hb' : ¬ b.length < m) (hs : (n : Int) ∉ s) (H : Hch w p ⟨m, false, b, s, []⟩) (hn : n < 1024) :
    Calls Try.prog 15 #[ptrO p.C, .bool true, .int .i64 (n : Int)] w fun e w' => e = .returned (.bool true) ∧ Hch w' p ⟨m, false, b, s ++ [(n : Int)], []⟩ ∧ But p.all w w' := by
  have hl := look_any true w H
  rw [show lookP ⟨m, false, b, s, []⟩ true = (5, 0) by simp [lookP, Hs.q, hb']] at hl
  simp only at hl
  go_enter Try.func15, Try.ntmps15
  go_wp2_with fail
  refine hl.mono ?_
  rintro e w1 ⟨rfl, hb⟩
  obtain ⟨W, hW⟩ : ∃ W, W = w1.alloc (.cells #[.int .u8 5, .int .i64 0] 34) := ⟨_, rfl⟩
  have P : PlanAt W w1.heap.size 5 0 := by rw [hW]; exact plan_new w1 _ _
  have hb0 : But p.all w W := by rw [hW]; exact hid_app (hb.alloc _)
  have H0 : Hch W p ⟨m, false, b, s, []⟩ := by rw [hW]; exact H.fresh (hb.alloc _)
  have c0 := P.c0
  have c1 := P.c1
  rw [hW] at c0 c1
  clear hl H hb
  go_wp2_with fail
  try rw [← hW]
  refine (henq_any true (n : Int) W H0).mono ?_
  rintro e w2 ⟨rfl, H2, hb2⟩
  rw [show Lq.putE ((Hs.mk m false b s []).q true) (n : Int) = 0 by simp only [Lq.putE, Hs.q, if_true]; rw [if_neg (by omega), if_neg hs]]
  rw [show Lq.putX ((Hs.mk m false b s []).q true) (n : Int) = s ++ [(n : Int)] by simp only [Lq.putX, Hs.q, if_true]; rw [if_neg (by omega), if_neg hs]] at H2
  go_wp2_with fail
  go_ret
  exact ⟨rfl, H2, hb0.next hb2⟩
set_option maxRecDepth 100000 in
set_option maxHeartbeats 1000000 in
theorem does_r_claim0 {p : Pl} {n : Nat} {b r t : List Int} {x : Int} (w : World) (hx : I64b x) (H : Hch w p ⟨0, false, b, x :: t, r⟩) :
    Calls Try.prog 15 #[ptrO p.C, .bool false, .int .i64 (n : Int)] w fun e w' => e = .returned (.bool true) ∧ Hch w' p ⟨0, false, b, t, r⟩ ∧ But p.all w w' := by
  have hl := look_any false w H
  rw [show lookP ⟨0, false, b, x :: t, r⟩ false = (2, x) by simp [lookP, Hs.q]] at hl
  simp only at hl
  have hP : ∀ y ∈ p.all, y < w.heap.size := H.ltAll
  go_enter Try.func15, Try.ntmps15
  go_wp2_with fail
  refine hl.mono ?_
  rintro e w1 ⟨rfl, hb⟩
  obtain ⟨W, hW⟩ : ∃ W, W = w1.alloc (.cells #[.int .u8 2, .int .i64 x] 34) := ⟨_, rfl⟩
  have P : PlanAt W w1.heap.size 2 x := by rw [hW]; exact plan_new w1 _ _
  have hb0 : But p.all w W := by rw [hW]; exact hid_app (hb.alloc _)
  have H0 : Hch W p ⟨0, false, b, x :: t, r⟩ := by rw [hW]; exact H.fresh (hb.alloc _)
  have hP1 : w1.heap.size ∉ p.all := fun h => by have := hP _ h; have := hb.size; omega
  have c0 := P.c0
  have c1 := P.c1
  rw [hW] at c0 c1
  clear hl H hb
  go_wp2_with fail
  try rw [← hW]
  refine (hdeq_any true x hx W H0).mono ?_
  rintro e w2 ⟨rfl, H2, hb2⟩
  rw [show Lq.dropE ((Hs.mk 0 false b (x :: t) r).q true) x = 0 by simp [Lq.dropE, Hs.q]]
  rw [show ((Hs.mk 0 false b (x :: t) r).q true).erase x = t by simp [Hs.q]] at H2
  replace H2 : Hch w2 p ⟨0, false, b, t, r⟩ := H2
  have P2 : PlanAt w2 w1.heap.size 2 x := (hb2.block _ P.lt hP1).trans P
  have d1 := P2.c1
  clear c0 c1
  go_wp2_with fail
  try rw [← hW]
  refine (swaps_any false w2 H2).mono ?_
  rintro e w3 ⟨rfl, hb3⟩
  go_wp2_with fail
  go_ret
  exact ⟨rfl, H2.fresh hb3, (hb0.next hb2).next (hid_app hb3)⟩
set_option maxRecDepth 100000 in
set_option maxHeartbeats 1000000 in
theorem does_r_claim {p : Pl} {m n : Nat} {b r t : List Int} {x : Int} (w : World) (hx : I64b x) (hm : 0 < m) (hb' : b.length = m) (H : Hch w p ⟨m, false, b, x :: t, r⟩) :
    Calls Try.prog 15 #[ptrO p.C, .bool false, .int .i64 (n : Int)] w fun e w' => e = .returned (.bool true) ∧ Hch w' p ⟨m, false, b.tail ++ [x], t, r⟩ ∧ But p.all w w' := by
  have hl := look_any false w H
  rw [show lookP ⟨m, false, b, x :: t, r⟩ false = (2, x) by simp [lookP, Hs.q]] at hl
  simp only at hl
  have hP : ∀ y ∈ p.all, y < w.heap.size := H.ltAll
  go_enter Try.func15, Try.ntmps15
  go_wp2_with fail
  refine hl.mono ?_
  rintro e w1 ⟨rfl, hb⟩
  obtain ⟨W, hW⟩ : ∃ W, W = w1.alloc (.cells #[.int .u8 2, .int .i64 x] 34) := ⟨_, rfl⟩
  have P : PlanAt W w1.heap.size 2 x := by rw [hW]; exact plan_new w1 _ _
  have hb0 : But p.all w W := by rw [hW]; exact hid_app (hb.alloc _)
  have H0 : Hch W p ⟨m, false, b, x :: t, r⟩ := by rw [hW]; exact H.fresh (hb.alloc _)
  have hP1 : w1.heap.size ∉ p.all := fun h => by have := hP _ h; have := hb.size; omega
  have c0 := P.c0
  have c1 := P.c1
  rw [hW] at c0 c1
  clear hl H hb
  go_wp2_with fail
  try rw [← hW]
  refine (hdeq_any true x hx W H0).mono ?_
  rintro e w2 ⟨rfl, H2, hb2⟩
  rw [show Lq.dropE ((Hs.mk m false b (x :: t) r).q true) x = 0 by simp [Lq.dropE, Hs.q]]
  rw [show ((Hs.mk m false b (x :: t) r).q true).erase x = t by simp [Hs.q]] at H2
  replace H2 : Hch w2 p ⟨m, false, b, t, r⟩ := H2
  have P2 : PlanAt w2 w1.heap.size 2 x := (hb2.block _ P.lt hP1).trans P
  have d1 := P2.c1
  clear c0 c1
  go_wp2_with fail
  try rw [← hW]
  refine ((show Calls Try.prog 10 #[ptrO p.C, .bool false] w2 (fun e w' => e = .returned (.bool true) ∧ But [] w2 w') by
    have e1 : (!false && decide (0 < m)) = true := by simp [hm]
    exact (swaps_any false w2 H2).mono (fun e w' k => ⟨k.1.trans (congrArg (fun q => Ending.returned (.bool q)) e1), k.2⟩))).mono ?_
  rintro e w3 ⟨rfl, hb3⟩
  have H3 := H2.fresh hb3
  have d3 := (P2.later (hb3.below (Nat.le_refl _) (by simp))).c1
  clear d1
  go_wp2_with fail
  try rw [← hW]
  refine (hswap_any x w3 H3).mono ?_
  rintro e w4 ⟨rfl, H4, hb4⟩
  simp only at H4
  have hne : ¬ (b.length < m ∨ b = []) := by
    rintro (h1 | rfl)
    · omega
    · simp at hb'; omega
  rw [show Rg.swapE m b = 0 by unfold Rg.swapE; rw [if_neg hne], show Rg.swapV m b = Rg.swapV m b from rfl]
  rw [show Rg.swapL m b x = b.tail ++ [x] by unfold Rg.swapL; rw [if_neg hne]] at H4
  go_wp2_with fail
  go_ret
  exact ⟨rfl, H4, ((hb0.next hb2).next (hid_app hb3)).next hb4⟩
set_option maxRecDepth 100000 in
set_option maxHeartbeats 1000000 in
theorem does_r_take {p : Pl} {m n : Nat} {b r : List Int} (w : World) (hb' : 0 < b.length) (H : Hch w p ⟨m, false, b, [], r⟩) :
    Calls Try.prog 15 #[ptrO p.C, .bool false, .int .i64 (n : Int)] w fun e w' => e = .returned (.bool true) ∧ Hch w' p ⟨m, false, b.tail, [], r⟩ ∧ But p.all w w' := by
  have hl := look_any false w H
  rw [show lookP ⟨m, false, b, [], r⟩ false = (3, 0) by simp [lookP, Hs.q, hb']] at hl
  simp only at hl
  go_enter Try.func15, Try.ntmps15
  go_wp2_with fail
  refine hl.mono ?_
  rintro e w1 ⟨rfl, hb⟩
  obtain ⟨W, hW⟩ : ∃ W, W = w1.alloc (.cells #[.int .u8 3, .int .i64 0] 34) := ⟨_, rfl⟩
  have P : PlanAt W w1.heap.size 3 0 := by rw [hW]; exact plan_new w1 _ _
  have hb0 : But p.all w W := by rw [hW]; exact hid_app (hb.alloc _)
  have H0 : Hch W p ⟨m, false, b, [], r⟩ := by rw [hW]; exact H.fresh (hb.alloc _)
  have c0 := P.c0
  have c1 := P.c1
  rw [hW] at c0 c1
  clear hl H hb
  go_wp2_with fail
  try rw [← hW]
  refine (htake_any W H0).mono ?_
  rintro e w2 ⟨rfl, H2, hb2⟩
  simp only at H2
  rw [show Rg.takeE b = 0 by cases b with | nil => simp at hb' | cons y u => simp [Rg.takeE]]
  go_wp2_with fail
  go_ret
  exact ⟨rfl, H2, hb0.next hb2⟩
set_option maxRecDepth 100000 in
set_option maxHeartbeats 1000000 in
theorem does_r_wait {p : Pl} {m n : Nat} {b r : List Int} (w : World) (hb' : b.length = 0) (hr : (n : Int) ∉ r) (H : Hch w p ⟨m, false, b, [], r⟩) (hn : n < 1024) :
    Calls Try.prog 15 #[ptrO p.C, .bool false, .int .i64 (n : Int)] w fun e w' => e = .returned (.bool true) ∧ Hch w' p ⟨m, false, b, [], r ++ [(n : Int)]⟩ ∧ But p.all w w' := by
  have hl := look_any false w H
  rw [show lookP ⟨m, false, b, [], r⟩ false = (5, 0) by simp [lookP, Hs.q, hb']] at hl
  simp only at hl
  go_enter Try.func15, Try.ntmps15
  go_wp2_with fail
  refine hl.mono ?_
  rintro e w1 ⟨rfl, hb⟩
  obtain ⟨W, hW⟩ : ∃ W, W = w1.alloc (.cells #[.int .u8 5, .int .i64 0] 34) := ⟨_, rfl⟩
  have P : PlanAt W w1.heap.size 5 0 := by rw [hW]; exact plan_new w1 _ _
  have hb0 : But p.all w W := by rw [hW]; exact hid_app (hb.alloc _)
  have H0 : Hch W p ⟨m, false, b, [], r⟩ := by rw [hW]; exact H.fresh (hb.alloc _)
  have c0 := P.c0
  have c1 := P.c1
  rw [hW] at c0 c1
  clear hl H hb
  go_wp2_with fail
  try rw [← hW]
  refine (henq_any false (n : Int) W H0).mono ?_
  rintro e w2 ⟨rfl, H2, hb2⟩
  rw [show Lq.putE ((Hs.mk m false b [] r).q false) (n : Int) = 0 by simp only [Lq.putE, Hs.q, Bool.false_eq_true, if_false]; rw [if_neg (by omega), if_neg hr]]
  rw [show Lq.putX ((Hs.mk m false b [] r).q false) (n : Int) = r ++ [(n : Int)] by simp only [Lq.putX, Hs.q, Bool.false_eq_true, if_false]; rw [if_neg (by omega), if_neg hr]] at H2
  go_wp2_with fail
  go_ret
  exact ⟨rfl, H2, hb0.next hb2⟩

theorem small64 {x : Int} {n : Nat} (h : 0 ≤ x ∧ x < (n : Int)) (hn : n < 1024) : I64b x := by unfold I64b; omega
/-- An operation comes, as Look tells: it can be done, and the channel stays so. -/
theorem does_any {p : Pl} {h : Hs} {n : Nat} (send : Bool) (w : World) (H : Hch w p h) (I : Inv h n) (hn : n < 1024) :
    Calls Try.prog 15 #[ptrO p.C, .bool send, .int .i64 (n : Int)] w fun e w' => e = .returned (.bool true) ∧ (∃ h', Hch w' p h' ∧ Inv h' (n + 1)) ∧ But p.all w w' := by
  obtain ⟨m, c, b, s, r⟩ := h
  obtain rfl : c = false := I.open'
  cases send with
  | true =>
    cases r with
    | cons x t => exact (does_s_claim w (small64 (I.rr x (by simp)) hn) H).mono (fun e w' k => ⟨k.1, ⟨_, k.2.1, I.s_claim.more⟩, k.2.2⟩)
    | nil =>
      by_cases hb : b.length < m
      · exact (does_s_put w hb H).mono (fun e w' k => ⟨k.1, ⟨_, k.2.1, (I.s_put hb _).more⟩, k.2.2⟩)
      · obtain ⟨h1, h2⟩ := I.s_wait hb
        exact (does_s_wait w hb h1 H hn).mono (fun e w' k => ⟨k.1, ⟨_, k.2.1, h2⟩, k.2.2⟩)
  | false =>
    cases s with
    | cons x t =>
      have hx := small64 (I.rs x (by simp)) hn
      by_cases hm : m = 0
      · subst hm
        exact (does_r_claim0 w hx H).mono (fun e w' k => ⟨k.1, ⟨_, k.2.1, I.r_claim0.more⟩, k.2.2⟩)
      · obtain ⟨h1, h2, h3⟩ := I.r_claim (by omega) x
        exact (does_r_claim w hx (Nat.pos_of_ne_zero hm) (I.snd (by simp)).1 H).mono (fun e w' k => ⟨k.1, ⟨_, k.2.1, h3.more⟩, k.2.2⟩)
    | nil =>
      by_cases hb : 0 < b.length
      · exact (does_r_take w hb H).mono (fun e w' k => ⟨k.1, ⟨_, k.2.1, (I.r_take hb).more⟩, k.2.2⟩)
      · obtain ⟨h1, h2⟩ := I.r_wait (by omega)
        exact (does_r_wait w (by omega) h1 H hn).mono (fun e w' k => ⟨k.1, ⟨_, k.2.1, h2⟩, k.2.2⟩)
end Go.Proofs.Ytkpnkhakjgfgfaa
