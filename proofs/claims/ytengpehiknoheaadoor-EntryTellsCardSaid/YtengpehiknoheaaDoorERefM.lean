/-
  The walk of the document's May.
-/
import Derived.Deep.Cut
import Derived.Deep.CutRange
import Derived.Test.YtengpehiknoheaaDoorERefM0
import Derived.Test.YtengpehiknoheaaDoorERefM1
import Derived.Test.YtengpehiknoheaaDoorERefM2
import Derived.Test.YtengpehiknoheaaDoorERefM3
namespace Go.Proofs.YtengpehiknoheaaDoor
open Go.RowKit Go.Shelf

attribute [local go_sem] Oper.semAt_some
theorem ok_unknown {x : En} (h : known x.k = false) : okB x = false := by
  unfold okB mayAll
  rw [namesOf_out h, h]
  rfl
set_option maxRecDepth 100000 in
set_option maxHeartbeats 3200000 in
theorem rmay_un (x : En) (h : known x.k = false) (w0 : World) :
    Calls Tryd.prog 14 #[.agg #[.int .i64 x.a, .int .u8 (x.k : Int), .int .i64 x.w, .int .i64 x.t, .int .i64 x.p, .int .i64 x.c, .int .i64 x.b, .int .i64 x.q, .int .i64 x.v, .int .i64 x.u, .bool x.o, .int .i64 x.e, .int .u64 (x.s : Int)]] w0 fun e' W' => e' = .returned (.bool false) ∧ But [] w0 W' := by
  obtain ⟨W0, hW0⟩ : ∃ W0, W0 = w0.alloc (.cells #[.int .i64 x.a, .int .u8 (x.k : Int), .int .i64 x.w, .int .i64 x.t, .int .i64 x.p, .int .i64 x.c, .int .i64 x.b, .int .i64 x.q, .int .i64 x.v, .int .i64 x.u, .bool x.o, .int .i64 x.e, .int .u64 (x.s : Int)] 26) := ⟨_, rfl⟩
  have hb0 : But [] w0 W0 := by rw [hW0]; exact (But.refl [] w0).alloc _
  have hbox : EnAt W0 w0.heap.size x := by rw [hW0]; exact enAt_new w0 x
  have hof := rof_any x.k W0
  have hkn : ∀ W, Calls Tryd.prog 34 #[.int .u8 (x.k : Int)] W fun e w' => e = .returned (.bool false) ∧ w' = W := fun W => by
    have := rknown_any x.k W
    rwa [h] at this
  rcases kinds18 x.k with h' | ⟨_, hV, _⟩
  · have : known x.k = true := by rcases h' with e | e | e | e | e | e | e | e | e | e | e | e | e | e | e | e | e <;> rw [e] <;> rfl
    rw [h] at this
    cases this
  rw [hV] at hof
  rw [hW0] at hof
  clear h hV
  go_enter Tryd.func14, Tryd.ntmps14
  go_wp2_with fail
  refine hof.mono ?_
  rw [← hW0]
  rintro e' wk ⟨rfl, hk⟩
  obtain ⟨W1, hW1⟩ : ∃ W1, W1 = wk.alloc (.cells #[.bool false, .bool false, .bool false, .bool false, .bool false, .bool false, .bool false, .bool false, .bool false, .bool false, .bool false] 56) := ⟨_, rfl⟩
  have hb1 : But [] wk W1 := by rw [hW1]; exact (But.refl [] wk).alloc _
  have hX := hbox.of_block ((hk.next hb1).block _ hbox.lt (by simp))
  have hB1 : But [] w0 W1 := hb0.next (hk.next hb1)
  have y1 : W1.cell? ⟨w0.heap.size, 1, none⟩ = some (.int .u8 (x.k : Int)) := hX.c1
  rw [hW1] at y1
  clear hof hk hb0 hb1 hbox hW0 hX
  go_wp2_with fail
  refine (hkn _).mono ?_
  rintro e' w' ⟨rfl, rfl⟩
  go_wp2_with fail
  go_ret
  exact ⟨rfl, by rw [← hW1]; exact hB1⟩
theorem rmay_any (x : En) (hx : x.ok) (w : World) :
    Calls Tryd.prog 14 #[x.val] w fun e' W' => e' = .returned (.bool (okB x)) ∧ But [] w W' := by
  cases h : known x.k with
  | false => rw [ok_unknown h]; exact rmay_un x h w
  | true =>
    have hs := hx.s
    obtain ⟨a, k, ww, t, p, c, b, q, v, u, o, e, s⟩ := x
    rcases known_cases h with rfl | rfl | rfl | rfl | rfl | rfl | rfl | rfl | rfl | rfl | rfl | rfl | rfl | rfl | rfl | rfl | rfl
    · exact rmay_1 a ww t p c b q v u o e s w
    · exact rmay_2 a ww t p c b q v u o e s w
    · exact rmay_3 a ww t p c b q v u o e s w
    · exact rmay_4 a ww t p c b q v u o e s w
    · exact rmay_5 a ww t p c b q v u o e s w
    · exact rmay_6 a ww t p c b q v u o e s w
    · exact rmay_7 a ww t p c b q v u o e s w
    · exact rmay_8 a ww t p c b q v u o e s w
    · exact rmay_9 a ww t p c b q v u o e s w
    · exact rmay_10 a ww t p c b q v u o e s w
    · exact rmay_11 a ww t p c b q v u o e s w
    · exact rmay_21 a ww t p c b q v u o e s w
    · exact rmay_22 a ww t p c b q v u o e s w
    · exact rmay_23 a ww t p c b q v u o e s w
    · exact rmay_24 a ww t p c b q v u o e s w
    · exact rmay_25 a ww t p c b q v u o e s hs w
    · exact rmay_26 a ww t p c b q v u o e s w
end Go.Proofs.YtengpehiknoheaaDoor
