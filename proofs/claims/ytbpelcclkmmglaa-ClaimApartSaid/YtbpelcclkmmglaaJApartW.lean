/-
  The walk of the law ClaimApart, whatever comes in.
-/
import Derived.Test.YtbpelcclkmmglaaJApart
namespace Go.Proofs.Ytbpelcclkmmglaa
open Go.RowKit

set_option maxRecDepth 100000 in
theorem apart_big (q : Int) (a : Option Addr) (n cap : Nat) (w : World) (hn : 300 < n) :
    Calls Try.prog 5 #[.slice a n cap, .int .u8 q] w fun e w' => e = .returned (.bool true) ∧ Below w.heap.size w w' := by
  have hl2 : (300 : Int) < (n : Int) := by omega
  go_enter Try.func5, Try.ntmps5
  go_wp2_with fail
  refine (alive_any _).mono ?_
  rintro e w1 ⟨rfl, hb⟩
  go_wp2_with fail
  go_ret
  exact ⟨rfl, hb⟩

set_option maxRecDepth 100000 in
theorem apart_nil (q : Int) (a : Option Addr) (cap : Nat) (w : World) :
    Calls Try.prog 5 #[.slice a 0 cap, .int .u8 q] w fun e w' => e = .returned (.bool true) ∧ Below w.heap.size w w' := by
  go_enter Try.func5, Try.ntmps5
  go_wp2_with fail
  refine (cell_new_at (n := 20) _ (Lib.hid rfl) (by omega) (by omega)).mono ?_
  rintro e w1 ⟨B, V, rfl, hC, hV, hB, hz⟩
  go_wp2_with fail
  refine (knew_at (base := 0) (n := 8) _ hC (by omega) (by omega) (by simp) (Lib.hid ⟨rfl, rfl⟩)).mono ?_
  rintro e w2 ⟨L, P, Q, rfl, hL, hg, -⟩
  have hz2 := hz.next hg
  clear hC hL hz hg hV hB
  go_wp2_with fail
  refine wp_loop_rounds 1 ?_
  rw [rounds_succ]
  go_wp2_with fail
  refine (alive_any _).mono ?_
  rintro e wz ⟨rfl, hbz⟩
  have hB' : Below w.heap.size w wz := (hz2.below (Nat.le_refl _) (by simp)).trans (hbz.mono hz2.size)
  clear hz2 hbz
  go_wp2_with fail
  go_ret
  exact ⟨rfl, hB'⟩

theorem apart_walk (q : Nat) (hq : q < 256) (v : Value) (ss : List (Int × Int × Nat)) (w : World) (hs : Steps w v ss) :
    Calls Try.prog 5 #[v, .int .u8 (q : Int)] w fun e w' => e = .returned (.bool true) ∧ Below w.heap.size w w' := by
  rcases hs with ⟨_, a, cap, rfl⟩ | ⟨b, off, cap, rfl, h0, hc⟩
  · exact apart_nil _ a cap w
  · by_cases hl : ss.length ≤ 300
    · exact apart_loop q b off cap ss hq w hl h0 hc
    · exact apart_big _ _ _ cap w (by omega)
end Go.Proofs.Ytbpelcclkmmglaa
