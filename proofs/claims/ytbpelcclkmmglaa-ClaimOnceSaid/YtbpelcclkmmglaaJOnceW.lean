/-
  The walk of the law ClaimOnce, whatever comes in.
-/
import Derived.Test.YtbpelcclkmmglaaJOnce
namespace Go.Proofs.Ytbpelcclkmmglaa
open Go.RowKit

set_option maxRecDepth 100000 in
theorem once_big (a : Option Addr) (n cap : Nat) (w : World) (hn : 300 < n) :
    Calls Try.prog 4 #[.slice a n cap] w fun e w' => e = .returned (.bool true) ∧ Below w.heap.size w w' := by
  have hl2 : (300 : Int) < (n : Int) := by omega
  go_enter Try.func4, Try.ntmps4
  go_wp2_with fail
  refine (alive_any _).mono ?_
  rintro e w1 ⟨rfl, hb⟩
  go_wp2_with fail
  go_ret
  exact ⟨rfl, hb⟩

set_option maxRecDepth 100000 in
theorem once_nil (a : Option Addr) (cap : Nat) (w : World) :
    Calls Try.prog 4 #[.slice a 0 cap] w fun e w' => e = .returned (.bool true) ∧ Below w.heap.size w w' := by
  obtain ⟨i0, hi, iz0, iz1, iz2⟩ := info_parts infoSl
  obtain ⟨i1, hj1, jz0, jz1, jz2⟩ := info_parts infoI64
  go_enter Try.func4, Try.ntmps4
  go_wp2_with fail
  refine (cell_new_at (n := 40) _ (Lib.hid rfl) (by omega) (by omega)).mono ?_
  rintro e w1 ⟨B, V, rfl, hC, hV, hB, hz⟩
  go_wp2_with fail
  refine (knew_at (base := 3) (n := 6) _ hC (by omega) (by omega) (by simp) (Lib.hid ⟨rfl, rfl⟩)).mono ?_
  rintro e w2 ⟨L, P, Q, rfl, -, hg, -⟩
  have hz2 := hz.next hg
  clear hC hz hg hV hB
  go_wp2_with (at_make; first | (refine wpList_make_full _ rfl _ _ 48 rfl w2.heap.size 32 i0 (.slice none 0 0) 1 Try.underlying48 hi iz0 iz1 .i64 .i64 6 6 6 rfl rfl rfl rfl (by rw [iz2]; omega) (by unfold maxLen; omega) (Nat.le_refl _) ?_; intro w3 _ hgrow1) | (refine wpList_make_full _ rfl _ _ 49 rfl w3.heap.size 3 i1 (.int .i64 0) 1 Try.underlying49 hj1 jz0 jz1 .i64 .i64 6 6 6 rfl rfl rfl rfl (by rw [jz2]; omega) (by unfold maxLen; omega) (Nat.le_refl _) ?_; intro w4 _ hgrow2))
  have hz4 := (hz2.next (But.of_none hgrow1 [])).next (But.of_none hgrow2 [])
  clear hz2 hgrow1 hgrow2
  refine wp_loop_rounds 1 ?_
  rw [rounds_succ]
  go_wp2_with fail
  refine (alive_any _).mono ?_
  rintro e wz ⟨rfl, hbz⟩
  have hB' : Below w.heap.size w wz := (hz4.below (Nat.le_refl _) (by simp)).trans (hbz.mono hz4.size)
  clear hz4 hbz
  go_wp2_with fail
  go_ret
  exact ⟨rfl, hB'⟩

theorem once_walk (v : Value) (ss : List (Int × Int × Nat)) (w : World) (hs : Steps w v ss) :
    Calls Try.prog 4 #[v] w fun e w' => e = .returned (.bool true) ∧ Below w.heap.size w w' := by
  rcases hs with ⟨_, a, cap, rfl⟩ | ⟨b, off, cap, rfl, h0, hc⟩
  · exact once_nil a cap w
  · by_cases hl : ss.length ≤ 300
    · exact once_loop b off cap ss w hl h0 hc
    · exact once_big _ _ cap w (by omega)
end Go.Proofs.Ytbpelcclkmmglaa
