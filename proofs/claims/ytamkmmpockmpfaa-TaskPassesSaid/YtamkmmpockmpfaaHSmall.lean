/-
  The walks of frame.Check, Spawn, Begin, registers, flag, noReceipt, frames, and of what deeds are made of.
-/
import Derived.Test.YtamkmmpockmpfaaHBase
namespace Go.Proofs.Ytamkmmpockmpfaa
open Go.RowKit

theorem fatP_any {lo hi : Nat} {v1 v2 v3 : Value} {p : Prg} (w : World) (h : PrgAt lo hi w v1 v2 v3 p) (hs : Small p) (f : Fra) :
    Calls Try.prog 39 #[.agg #[v1, v2, v3], fraV f] w fun e w' => ∃ y : In, e = .returned (.tuple #[.agg #[.int .u8 (y.o : Int), .int .i64 y.a, .int .i64 y.b, .int .i64 y.c, .int .i64 y.k], .bool (atF p f).isSome]) ∧ y = (atF p f).getD In.zero ∧ Below w.heap.size w w' :=
  (fat_any w h hs f).mono fun _ _ ⟨h1, h2⟩ => ⟨_, h1, rfl, h2⟩
def okE (b : Bool) : Int := if b then 0 else 2

set_option maxRecDepth 100000 in
set_option maxHeartbeats 800000 in
theorem fcheck_any {lo hi : Nat} {v1 v2 v3 : Value} {p : Prg} (w : World) (h : PrgAt lo hi w v1 v2 v3 p) (hs : Small p) (f : Fra) :
    Calls Try.prog 17 #[.agg #[v1, v2, v3], fraV f] w fun e w' => e = .returned (.int .i64 (okE (atF p f).isSome)) ∧ Below w.heap.size w w' := by
  obtain ⟨wf, hwf⟩ : ∃ wf, wf = (w.alloc (.cells #[v1, v2, v3] 26)).alloc (.cells (fraA f) 38) := ⟨_, rfl⟩
  have hB : Below w.heap.size w wf := by rw [hwf]; exact below2 w _ _
  have hc := fatP_any wf (h.later hB) hs f
  go_enter Try.func17, Try.ntmps17
  go_wp2_with fail
  rw [← hwf]
  clear hwf
  refine hc.mono ?_
  rintro e w1 ⟨y, rfl, -, hb⟩
  have hB1 := (below_next hB hb (Nat.le_refl _)).alloc (below_next hB hb (Nat.le_refl _)).size (.cells #[.int .u8 (y.o : Int), .int .i64 y.a, .int .i64 y.b, .int .i64 y.c, .int .i64 y.k] 77)
  clear hc hB hb
  obtain ⟨b, hbe⟩ : ∃ b, b = (atF p f).isSome := ⟨_, rfl⟩
  have HB := Lib.hid hbe
  rw [← hbe]
  clear hbe
  cases b with
  | true =>
    go_wp2_with fail
    go_ret
    exact ⟨by rw [← HB.out]; rfl, hB1⟩
  | false =>
    go_wp2_with fail
    go_ret
    exact ⟨by rw [← HB.out]; rfl, hB1⟩

def regB (v : Int) : Bool := withinB v 0 7
end Go.Proofs.Ytamkmmpockmpfaa
