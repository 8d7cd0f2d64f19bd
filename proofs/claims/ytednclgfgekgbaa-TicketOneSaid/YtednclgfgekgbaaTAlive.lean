/-
  The walk of the law's alive.
-/
import Derived.Test.YtednclgfgekgbaaTAny
namespace Go.Proofs.Ytednclgfgekgbaa
open Go.RowKit

theorem cell_new_at {k : Int} {n : Nat} (w : World) (H : Hid (k = (n : Int))) (h1 : 1 ≤ n) (h2 : n ≤ 4096) : Calls Try.prog 8 #[.int .i64 k] w (MadeCells w n) := by
  obtain rfl := H.out
  exact cell_new n h1 h2 w
theorem tnew_at {B V c base n : Nat} {b k : Int} {vs : List Nat} (w : World) (hC : Cels w B V vs c) (h1 : 1 ≤ n) (h2 : n ≤ 300) (h3 : base + 2 * n ≤ vs.length) (H : Hid (b = (base : Int) ∧ k = (n : Int))) :
    Calls Try.prog 14 #[.pointer (some ⟨B, 0, none⟩), .int .i64 b, .int .i64 k] w (MadeLocks w B base n) := by
  obtain ⟨rfl, rfl⟩ := H.out
  exact tnew_ok w hC h1 h2 h3
theorem But.own {w a b : World} (h : But [] w a) {B V : Nat} (k : But [B, V] a b) (h1 : w.heap.size ≤ B) (h2 : w.heap.size ≤ V) : But [] w b := h.trans k (by simp; omega)

set_option maxRecDepth 100000 in
set_option maxHeartbeats 400000 in
theorem alive_any (w : World) : Calls Try.prog 6 #[] w fun e w' => e = .returned (.bool true) ∧ Below w.heap.size w w' := by
  go_enter Try.func6, Try.ntmps6
  go_wp2_with fail
  refine (cell_new_at (n := 8) _ (Lib.hid rfl) (by omega) (by omega)).mono ?_
  rintro e w1 ⟨B, V, rfl, hC, hV, hB, hz⟩
  have hC1 : Cels w1 B V [0, 0, 0, 0, 0, 0, 0, 0] 0 := hC
  clear hC
  go_wp2_with fail
  refine (tnew_at (base := 2) (n := 3) _ hC1 (by omega) (by omega) (by simp) (Lib.hid ⟨rfl, rfl⟩)).mono ?_
  rintro e w2 ⟨L, P, Q, rfl, hL, hg⟩
  have hC2 := hC1.but hg (by simp) (by simp)
  have hz2 := hz.next hg
  clear hC1 hg hz
  go_wp2_with fail
  refine (tnew_bad _ hC2 (by omega) (by omega) (by omega) (by omega) (by simp)).mono ?_
  rintro e w3 ⟨rfl, hg⟩
  have hC3 := hC2.but hg (by simp) (by simp)
  have hL3 := hL.but hg (by simp) (by simp) (by simp)
  have hz3 := hz2.next hg
  clear hC2 hg hz2 hL
  go_wp2_with fail
  refine (tnew_nil _ _ _).mono ?_
  rintro e w4 ⟨rfl, hg⟩
  have hC4 := hC3.but hg (by simp) (by simp)
  have hL4 := hL3.but hg (by simp) (by simp) (by simp)
  have hz4 := hz3.next hg
  clear hC3 hg hz3 hL3
  go_wp2_with fail
  refine (draw_at _ hL4 hC4 (by simp) (Lib.hid al1)).mono ?_
  rintro e w5 ⟨rfl, hC5, hg⟩
  have hL5 := hL4.cels hC4 hg
  have hz5 := hz4.own hg hB hV
  clear hC4 hg hz4 hL4
  go_wp2_with fail
  refine (draw_at _ hL5 hC5 (by simp) (Lib.hid al2)).mono ?_
  rintro e w6 ⟨rfl, hC6, hg⟩
  have hL6 := hL5.cels hC5 hg
  have hz6 := hz5.own hg hB hV
  clear hC5 hg hz5 hL5
  go_wp2_with fail
  refine (mine_at _ hL6 hC6 (by simp) (Lib.hid al3)).mono ?_
  rintro e w7 ⟨rfl, hC7, hg⟩
  have hL7 := hL6.cels hC6 hg
  have hz7 := hz6.own hg hB hV
  clear hC6 hg hz6 hL6
  go_wp2_with fail
  refine (give_at _ hL7 hC7 (by simp) (Lib.hid al4)).mono ?_
  rintro e w8 ⟨rfl, hC8, hg⟩
  have hL8 := hL7.cels hC7 hg
  have hz8 := hz7.own hg hB hV
  clear hC7 hg hz7 hL7
  go_wp2_with fail
  refine (mine_at _ hL8 hC8 (by simp) (Lib.hid al5)).mono ?_
  rintro e w9 ⟨rfl, hC9, hg⟩
  have hL9 := hL8.cels hC8 hg
  have hz9 := hz8.own hg hB hV
  clear hC8 hg hz8 hL8
  go_wp2_with fail
  refine (wait_at _ hL9 hC9 (by simp) (Lib.hid al6)).mono ?_
  rintro e wa ⟨rfl, ma, rfl⟩
  go_wp2_with fail
  refine (free_at _ (hL9.drewN _) (hC9.drewN _) (by simp) (Lib.hid al7.1)).mono ?_
  rintro e wa ⟨rfl, mb, rfl⟩
  go_wp2_with fail
  refine (free_at _ (hL9.drewN _) (hC9.drewN _) (by simp) (Lib.hid al7.2.1)).mono ?_
  rintro e wa ⟨rfl, mc, rfl⟩
  go_wp2_with fail
  refine (free_at _ (hL9.drewN _) (hC9.drewN _) (by simp) (Lib.hid al7.2.2)).mono ?_
  rintro e wa ⟨rfl, md, rfl⟩
  go_wp2_with fail
  refine (tlen_any _ (hL9.drewN _)).mono ?_
  rintro e wa ⟨rfl, rfl⟩
  go_wp2_with fail
  go_ret
  exact ⟨rfl, (hz9.drewN _).below (Nat.le_refl _) (by simp)⟩
end Go.Proofs.Ytednclgfgekgbaa
