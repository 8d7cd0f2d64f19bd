/-
  The walks of Buffer, Closed, Shut, New.
-/
import Derived.Test.YtkpnkhakjgfgfaaHCBuf
namespace Go.Proofs.Ytkpnkhakjgfgfaa
open Go.RowKit
open Lq (But I64b)

theorem hclosed_any {p : Pl} {h : Hs} (w : World) (H : Hch w p h) :
    Calls Try.prog 28 #[ptrO p.C] w fun e w' => e = .returned (.bool h.c) ∧ But [] w w' := by
  have h0 := own_any w H
  have f0 := part2 (ptrO p.R) (ptrO p.S) (ptrO p.T) h.c
  go_enter Try.func28, Try.ntmps28
  go_wp2_with fail
  refine h0.mono ?_
  rintro e w1 ⟨rfl, hb⟩
  clear h0
  go_wp2_with fail
  go_ret
  exact ⟨rfl, hb⟩
theorem hclosed_nil (w : World) :
    Calls Try.prog 28 #[.pointer none] w fun e w' => e = .returned (.bool false) ∧ But [] w w' := by
  have h0 := own_nil w
  have f0 := part2 (.pointer none) (.pointer none) (.pointer none) false
  go_enter Try.func28, Try.ntmps28
  go_wp2_with fail
  refine h0.mono ?_
  rintro e w1 ⟨rfl, hb⟩
  clear h0
  go_wp2_with fail
  go_ret
  exact ⟨rfl, hb⟩

def shutE (h : Hs) : Int := if h.c then 9 else 0
theorem hshut_any {p : Pl} {h : Hs} (w : World) (H : Hch w p h) :
    Calls Try.prog 17 #[ptrO p.C] w fun e w' => e = .returned (.int .i64 (shutE h)) ∧ Hch w' p h.shut ∧ But p.all w w' := by
  obtain ⟨-, -, -, c3⟩ := H.cells
  have z3 := H.frozen 3
  have H2 := H.turnC
  have hb : But p.all w (w.setCell ⟨p.C, 3, none⟩ (.bool true)) := (Lq.But.refl _ w).set (.inl (by simp [Pl.all])) _
  cases hc : h.c with
  | true =>
    have H' : Hch w p h.shut := by
      have : h.shut = h := by unfold Hs.shut; rw [← hc]
      rw [this]; exact H
    have e : shutE h = 9 := by simp [shutE, hc]
    rw [e]
    rw [hc] at c3
    clear H H2 hb hc e
    go_enter Try.func17, Try.ntmps17
    go_wp2_with fail
    go_ret
    exact ⟨rfl, H', Lq.But.refl _ _⟩
  | false =>
    have e : shutE h = 0 := by simp [shutE, hc]
    rw [e]
    rw [hc] at c3
    clear H hc e
    go_enter Try.func17, Try.ntmps17
    go_wp2_with fail
    go_ret
    exact ⟨rfl, H2, hb⟩
theorem hshut_nil (w : World) :
    Calls Try.prog 17 #[.pointer none] w fun e w' => e = .returned (.int .i64 1) ∧ w' = w := by
  go_enter Try.func17, Try.ntmps17
  go_wp2_with fail
  go_ret
  exact ⟨rfl, rfl⟩

theorem hnew_bad (k : Int) (w : World) (h1 : -9223372036854775808 ≤ k) (h2 : k ≤ 9223372036854775807) (h : k < 0 ∨ 8 < k) :
    Calls Try.prog 14 #[.int .i64 k] w fun e w' => e = .returned (.tuple #[.pointer none, .int .i64 2]) ∧ w' = w := by
  have h0 := Rg.new_bad k w h1 h2 h
  clear h h1 h2
  go_enter Try.func14, Try.ntmps14
  go_wp2_with fail
  refine h0.mono ?_
  rintro e w1 ⟨rfl, rfl⟩
  go_wp2_with fail
  go_ret2
  exact ⟨rfl, rfl⟩
theorem hnew_ok (m : Nat) (w : World) (h : m ≤ 8) :
    Calls Try.prog 14 #[.int .i64 (m : Int)] w fun e w' => ∃ p : Pl, e = .returned (.tuple #[ptrO p.C, .int .i64 0]) ∧ Hch w' p (.new m) ∧ But [] w w' ∧ ∀ x ∈ p.all, w.heap.size ≤ x := by
  have h0 := Rg.new_ok m w h
  clear h
  go_enter Try.func14, Try.ntmps14
  go_wp2_with fail
  refine h0.mono ?_
  rintro e w1 ⟨rfl, hR, hg⟩
  have hb1 : But [] w w1 := Lq.But.of_none hg []
  clear h0
  go_wp2_with fail
  refine (Lq.made_any w1).mono ?_
  rintro e w2 ⟨rfl, hS, hb2⟩
  go_wp2_with fail
  refine (Lq.made_any w2).mono ?_
  rintro e w3 ⟨rfl, hT, hb3⟩
  go_wp2_with fail
  go_ret2
  have hb4 : But [] w3 (w3.alloc (.cells #[ptrO w.heap.size, ptrO (w1.heap.size + 1), ptrO (w2.heap.size + 1), .bool false] 84)) := (Lq.But.refl _ _).alloc _
  have q1 := hR.lt
  have q2 := hS.ltB
  have q3 := hS.ltM
  have q4 := hT.ltB
  have q5 := hT.ltM
  have s1 := hb1.size
  have s2 := hb2.size
  have s3 := hb3.size
  refine ⟨⟨w3.heap.size, w.heap.size, w1.heap.size + 1, w1.heap.size, w2.heap.size + 1, w2.heap.size⟩, rfl, ⟨World.alloc_heap_new w3 _, rng_but (rng_but (rng_but hR hb2 (by simp)) hb3 (by simp)) hb4 (by simp), (hS.fresh hb3).fresh hb4, hT.fresh hb4, ?_, ?_⟩, ((hb1.next hb2).next hb3).next hb4, ?_⟩
  · show w1.heap.size + 1 ≠ w2.heap.size + 1
    omega
  · show w1.heap.size ≠ w2.heap.size
    omega
  · simp [Pl.all]
    omega
end Go.Proofs.Ytkpnkhakjgfgfaa
