/-
  The walk of the law ProgNext.
-/
import Derived.Test.YtbbgeopgigeioaaGNext
namespace Go.Proofs.Ytbbgeopgigeioaa
open Go.RowKit

set_option maxRecDepth 100000 in
set_option maxHeartbeats 6400000 in
theorem next_any {lo hi : Nat} {v1 v2 v3 : Value} {p : Prg} (w : World) (h : PrgAt lo hi w v1 v2 v3 p) :
    Calls Try.prog 3 #[.agg #[v1, v2, v3]] w fun e w' => e = .returned (.bool true) ∧ Below w.heap.size w w' := by
  obtain ⟨a1, c1, rfl⟩ := h.caps.slice
  obtain ⟨a2, c2, rfl⟩ := h.codes.slice
  obtain ⟨a3, c3, rfl⟩ := h.sites.slice
  have hb0 : Below w.heap.size w (w.alloc (.cells #[.slice a1 p.caps.length c1, .slice a2 p.codes.length c2, .slice a3 p.sites.length c3] 26)) := (Below.refl _ w).alloc (Nat.le_refl _) _
  have hk0 := blk_new w 26 #[.slice a1 p.caps.length c1, .slice a2 p.codes.length c2, .slice a3 p.sites.length c3]
  have hlong := long_any _ (h.later hb0)
  go_enter Try.func3, Try.ntmps3
  go_wp2_with fail
  refine hlong.mono ?_
  rintro e w1 ⟨b, rfl, hT, hb1⟩
  have hB1 := below_next hb0 hb1 (Nat.le_refl _)
  have hK1 := hk0.later hb1 hk0.lt
  clear hb0 hk0 hlong hb1
  cases b with
  | true =>
    go_wp2_with fail
    refine (alive_any _).mono ?_
    rintro e w2 ⟨rfl, hb2⟩
    go_wp2_with fail
    go_ret
    exact ⟨rfl, below_next hB1 hb2 (Nat.le_refl _)⟩
  | false =>
    have hs := (hT rfl).small
    clear hT
    have e0 : w1.cell? ⟨w.heap.size, 0, none⟩ = some (.slice a1 p.caps.length c1) := hK1.cell rfl
    have e1 : w1.cell? ⟨w.heap.size, 1, none⟩ = some (.slice a2 p.codes.length c2) := hK1.cell rfl
    have e2 : w1.cell? ⟨w.heap.size, 2, none⟩ = some (.slice a3 p.sites.length c3) := hK1.cell rfl
    have hck := progCheck_any w1 (h.later hB1) hs
    obtain ⟨u, v, z, ht⟩ : ∃ u v z, checkT p = (u, v, z) := ⟨_, _, _, rfl⟩
    have hz : z = 0 ↔ checkW p = none := by rw [← check_zero, ht]
    rw [ht] at hck
    simp only at hck
    clear ht
    go_wp2_with fail
    refine hck.mono ?_
    rintro e w2 ⟨rfl, hb2⟩
    have hB2 := below_next hB1 hb2 (Nat.le_refl _)
    have hK2 := hK1.later hb2 hK1.lt
    clear hck e0 e1 e2 hb2 hK1 hB1
    by_cases hz0 : z = 0
    rotate_left 1
    · have hz1 : (z != 0) = true := by simpa using hz0
      go_wp2_with fail
      refine (alive_any _).mono ?_
      rintro e w3 ⟨rfl, hb3⟩
      go_wp2_with fail
      go_ret
      exact ⟨rfl, below_next hB2 hb3 (Nat.le_refl _)⟩
    · subst hz0
      have HC := Lib.hid (hz.1 rfl)
      clear hz
      go_wp2_with fail
      go_loopw [6] (fun iv wr => ∃ m : Nat, m ≤ p.codes.length ∧ iv = .int .i64 (m : Int) ∧ Below w.heap.size w wr ∧ Blk wr w.heap.size 26 #[.slice a1 p.caps.length c1, .slice a2 p.codes.length c2, .slice a3 p.sites.length c3]) (fun iv _ => p.codes.length - (intOf iv).toNat)
      case atStart => exact ⟨0, Nat.zero_le _, rfl, hB2, hK2⟩
      case round =>
        clear hB2 hK2
        obtain ⟨m, hm, rfl, hB, hK⟩ := hrel
        have m0 : (0 : Int) ≤ (m : Int) := by omega
        have hml := hs.codes
        have hw1 : IntKind.i64.wrap ((m : Int) + 1) = (m : Int) + 1 := by rw [IntKind.wrap_i64]; omega
        have e0 : wr.cell? ⟨w.heap.size, 0, none⟩ = some (.slice a1 p.caps.length c1) := hK.cell rfl
        have e1 : wr.cell? ⟨w.heap.size, 1, none⟩ = some (.slice a2 p.codes.length c2) := hK.cell rfl
        have e2 : wr.cell? ⟨w.heap.size, 2, none⟩ = some (.slice a3 p.sites.length c3) := hK.cell rfl
        by_cases hlt : m < p.codes.length
        rotate_left 1
        · have hlt' : ¬ (m : Int) < (p.codes.length : Int) := by omega
          have hat := atP_any wr (h.later hB) hs 0 0
          rw [at_first HC.out] at hat
          go_wp2_with fail
          refine hat.mono ?_
          rintro e w3 ⟨y0, rfl, -, hb3⟩
          have hB3 := below_next hB hb3 (Nat.le_refl _)
          go_wp2_with fail
          refine (alive_any _).mono ?_
          rintro e w4 ⟨rfl, hb4⟩
          go_wp2_with fail
          go_ret
          exact ⟨rfl, below_next hB3 (((Below.refl _ w3).alloc (Nat.le_refl _) _).trans (hb4.mono (by simp))) (Nat.le_refl _)⟩
        · have hlt' : (m : Int) < (p.codes.length : Int) := by omega
          clear hm
          obtain ⟨bc, oc, ra, rc, c, hra, -, hbc, hc, hcw, -⟩ := h.codes.at hlt
          have hcl := hs.code c (List.mem_of_getElem? hc)
          have HX := Lib.hid hc
          clear hc
          subst hra
          go_wp2_with fail
          clear e0 e1 e2
          go_loopw [7] (fun iv wr => ∃ n : Nat, n ≤ c.length ∧ iv = .int .i64 (n : Int) ∧ Below w.heap.size w wr ∧ Blk wr w.heap.size 26 #[.slice a1 p.caps.length c1, .slice (some ⟨bc, oc, none⟩) p.codes.length c2, .slice a3 p.sites.length c3]) (fun iv _ => c.length - (intOf iv).toNat)
          case atStart => exact ⟨0, Nat.zero_le _, rfl, hB, hK⟩
          case round =>
            clear hB hK
            obtain ⟨n, hn, rfl, hB, hK⟩ := hrel
            have n0 : (0 : Int) ≤ (n : Int) := by omega
            have hw2 : IntKind.i64.wrap ((n : Int) + 1) = (n : Int) + 1 := by rw [IntKind.wrap_i64]; omega
            have e0 : wr.cell? ⟨w.heap.size, 0, none⟩ = some (.slice a1 p.caps.length c1) := hK.cell rfl
            have e1 : wr.cell? ⟨w.heap.size, 1, none⟩ = some (.slice (some ⟨bc, oc, none⟩) p.codes.length c2) := hK.cell rfl
            have e2 : wr.cell? ⟨w.heap.size, 2, none⟩ = some (.slice a3 p.sites.length c3) := hK.cell rfl
            have hcc := cell_stay hcw (hB.block bc (Nat.lt_of_lt_of_le hbc h.top))
            by_cases hlt2 : n < c.length
            rotate_left 1
            · have hlt2' : ¬ (n : Int) < (c.length : Int) := by omega
              go_wp2_with fail
              go_round
              case rel => exact ⟨m + 1, by omega, by go_num, hB, hK⟩
              case measure => simp [intOf]; omega
            · have hlt2' : (n : Int) < (c.length : Int) := by omega
              obtain ⟨x0, hx⟩ : ∃ x, c[n]? = some x := ⟨_, List.getElem?_eq_getElem hlt2⟩
              have hxok : x0.ok := h.fit.codes c (List.mem_of_getElem? HX.out) x0 (List.mem_of_getElem? hx)
              have HN := Lib.hid hx
              clear hx
              have hat := atP_any wr (h.later hB) hs (m : Int) (n : Int)
              rw [at_some HX.out HN.out] at hat
              go_wp2_with fail
              refine hat.mono ?_
              rintro e w3 ⟨x, rfl, hy0, hb3⟩
              simp only [Option.getD_some] at hy0
              subst hy0
              have hB3 := below_next hB hb3 (Nat.le_refl _)
              have hK3 := hK.later hb3 hK.lt
              clear hat hB hK e0 e1 e2 hcc hb3
              obtain ⟨W3, hW3⟩ : ∃ W3, W3 = w3.alloc (.cells #[.int .u8 (x.o : Int), .int .i64 x.a, .int .i64 x.b, .int .i64 x.c, .int .i64 x.k] 34) := ⟨_, rfl⟩
              have hb : Below w3.heap.size w3 W3 := by rw [hW3]; exact (Below.refl _ w3).alloc (Nat.le_refl _) _
              have hBx := below_next hB3 hb (Nat.le_refl _)
              have hKx := hK3.later hb hK3.lt
              have hX : Blk W3 w3.heap.size 34 #[.int .u8 (x.o : Int), .int .i64 x.a, .int .i64 x.b, .int .i64 x.c, .int .i64 x.k] := by rw [hW3]; exact blk_new w3 _ _
              obtain ⟨X, hXe⟩ : ∃ X, X = w3.heap.size := ⟨_, rfl⟩
              rw [← hXe] at hX
              have hcc := cell_stay hcw (hBx.block bc (Nat.lt_of_lt_of_le hbc h.top))
              have hcall := insCheck_any x hxok p.caps.length p.sites.length p.codes.length c.length W3.drew
              rw [show checkE x p.caps.length p.sites.length p.codes.length c.length = 0 by unfold checkE; rw [may_ins HC.out HX.out HN.out]; rfl] at hcall
              clear hb hB3 hK3
              go_wp2_with fail
              rw [← hW3, ← hXe]
              have e0 : W3.cell? ⟨w.heap.size, 0, none⟩ = some (.slice a1 p.caps.length c1) := hKx.cell rfl
              have e1 : W3.cell? ⟨w.heap.size, 1, none⟩ = some (.slice (some ⟨bc, oc, none⟩) p.codes.length c2) := hKx.cell rfl
              have e2 : W3.cell? ⟨w.heap.size, 2, none⟩ = some (.slice a3 p.sites.length c3) := hKx.cell rfl
              have d0 : W3.cell? ⟨X, 0, none⟩ = some (.int .u8 (x.o : Int)) := hX.cell rfl
              have d1 : W3.cell? ⟨X, 1, none⟩ = some (.int .i64 x.a) := hX.cell rfl
              have d2 : W3.cell? ⟨X, 2, none⟩ = some (.int .i64 x.b) := hX.cell rfl
              have d3 : W3.cell? ⟨X, 3, none⟩ = some (.int .i64 x.c) := hX.cell rfl
              have d4 : W3.cell? ⟨X, 4, none⟩ = some (.int .i64 x.k) := hX.cell rfl
              clear hW3 hXe
              refine wp_region_still_tail 19 (by kernel_rfl) (by kernel_rfl) ?_
              simp only [List.take_succ_cons, List.take_zero, List.drop_succ_cons, List.drop_zero]
              change wpStill _ _ W3.drew (fun a' => wpList _ _ _ _ a' W3.drew) _ _
              repeat still_step
              refine wpStill_nil ?_
              go_wp2_with fail
              refine hcall.mono ?_
              rintro e w4 ⟨rfl, hb4⟩
              have hB4 := below_next hBx.drew hb4 (Nat.le_refl _)
              have hK4 := hKx.drew.later hb4 hKx.lt
              have hX4 := hX.drew.later hb4 hX.lt
              clear e0 e1 e2 d0 d1 d2 d3 d4 hcall hb4 hBx hKx hX hcc
              have hat2 := atP_any w4 (h.later hB4) hs (m : Int) ((n : Int) + 1)
              have hnx := at_next HC.out HX.out HN.out
              generalize (atIn p (m : Int) ((n : Int) + 1)).isSome = nb at hat2 hnx
              have e0 : w4.cell? ⟨w.heap.size, 0, none⟩ = some (.slice a1 p.caps.length c1) := hK4.cell rfl
              have e1 : w4.cell? ⟨w.heap.size, 1, none⟩ = some (.slice (some ⟨bc, oc, none⟩) p.codes.length c2) := hK4.cell rfl
              have e2 : w4.cell? ⟨w.heap.size, 2, none⟩ = some (.slice a3 p.sites.length c3) := hK4.cell rfl
              go_wp2_with fail
              refine hat2.mono ?_
              rintro e w5 ⟨y2, rfl, -, hb5⟩
              have hB5 := below_next hB4 hb5 (Nat.le_refl _)
              have hK5 := hK4.later hb5 hK4.lt
              have hX5 := hX4.later hb5 hX4.lt
              clear e0 e1 e2 hat2 hb5 hB4 hK4 hX4
              obtain ⟨W5, hW5⟩ : ∃ W5, W5 = w5.alloc (.cells #[.int .u8 (y2.o : Int), .int .i64 y2.a, .int .i64 y2.b, .int .i64 y2.c, .int .i64 y2.k] 34) := ⟨_, rfl⟩
              have hb : Below w5.heap.size w5 W5 := by rw [hW5]; exact (Below.refl _ w5).alloc (Nat.le_refl _) _
              have hB6 := below_next hB5 hb (Nat.le_refl _)
              have hK6 := hK5.later hb hK5.lt
              have hX6 := hX5.later hb hX5.lt
              have lX5 := hX5.lt
              have lK5 := hK5.lt
              clear hB5 hK5 hX5 hb
              have hpl := fun ho => at_place HC.out HX.out HN.out ho
              have hat3 := atP_any W5 (h.later hB6) hs (m : Int) x.k
              generalize (atIn p (m : Int) x.k).isSome = tb at hat3 hpl
              by_cases h3 : x.o = 3
              · obtain rfl : tb = true := hpl (.inl h3)
                have h3i : (x.o : Int) = 3 := by omega
                clear hpl hnx
                cases nb
                · have e0 : W5.cell? ⟨w.heap.size, 0, none⟩ = some (.slice a1 p.caps.length c1) := hK6.cell rfl
                  have e1 : W5.cell? ⟨w.heap.size, 1, none⟩ = some (.slice (some ⟨bc, oc, none⟩) p.codes.length c2) := hK6.cell rfl
                  have e2 : W5.cell? ⟨w.heap.size, 2, none⟩ = some (.slice a3 p.sites.length c3) := hK6.cell rfl
                  have d0 : W5.cell? ⟨X, 0, none⟩ = some (.int .u8 3) := by rw [← h3i]; exact hX6.cell rfl
                  have d1 : W5.cell? ⟨X, 1, none⟩ = some (.int .i64 x.a) := hX6.cell rfl
                  have d2 : W5.cell? ⟨X, 2, none⟩ = some (.int .i64 x.b) := hX6.cell rfl
                  have d3 : W5.cell? ⟨X, 3, none⟩ = some (.int .i64 x.c) := hX6.cell rfl
                  have d4 : W5.cell? ⟨X, 4, none⟩ = some (.int .i64 x.k) := hX6.cell rfl
                  rw [hW5] at e0 e1 e2 d0 d1 d2 d3 d4 hat3
                  go_wp2_with fail
                  refine hat3.mono ?_
                  rintro e w7 ⟨y3, rfl, -, hb7⟩
                  rw [← hW5] at hb7
                  have hB8 := below_next hB6 hb7 (Nat.le_refl _)
                  have hK8 := hK6.later hb7 hK6.lt
                  have hX8 := hX6.later hb7 hX6.lt
                  clear e0 e1 e2 d0 d1 d2 d3 d4 hat3
                  have lX8 := hX8.lt
                  have d0 : w7.cell? ⟨X, 0, none⟩ = some (.int .u8 3) := by rw [← h3i]; exact hX8.cell rfl
                  have d1 : w7.cell? ⟨X, 1, none⟩ = some (.int .i64 x.a) := hX8.cell rfl
                  have d2 : w7.cell? ⟨X, 2, none⟩ = some (.int .i64 x.b) := hX8.cell rfl
                  have d3 : w7.cell? ⟨X, 3, none⟩ = some (.int .i64 x.c) := hX8.cell rfl
                  have d4 : w7.cell? ⟨X, 4, none⟩ = some (.int .i64 x.k) := hX8.cell rfl
                  go_wp2_with fail
                  go_round
                  case rel => exact ⟨n + 1, by omega, by go_num, hB8.trans ((Below.refl _ w7).alloc (Nat.le_refl _) _ |>.mono (Nat.le_trans (Nat.le_refl _) hB8.size)), hK8.alloc _⟩
                  case measure => simp [intOf]; omega
                · have e0 : W5.cell? ⟨w.heap.size, 0, none⟩ = some (.slice a1 p.caps.length c1) := hK6.cell rfl
                  have e1 : W5.cell? ⟨w.heap.size, 1, none⟩ = some (.slice (some ⟨bc, oc, none⟩) p.codes.length c2) := hK6.cell rfl
                  have e2 : W5.cell? ⟨w.heap.size, 2, none⟩ = some (.slice a3 p.sites.length c3) := hK6.cell rfl
                  have d0 : W5.cell? ⟨X, 0, none⟩ = some (.int .u8 3) := by rw [← h3i]; exact hX6.cell rfl
                  have d1 : W5.cell? ⟨X, 1, none⟩ = some (.int .i64 x.a) := hX6.cell rfl
                  have d2 : W5.cell? ⟨X, 2, none⟩ = some (.int .i64 x.b) := hX6.cell rfl
                  have d3 : W5.cell? ⟨X, 3, none⟩ = some (.int .i64 x.c) := hX6.cell rfl
                  have d4 : W5.cell? ⟨X, 4, none⟩ = some (.int .i64 x.k) := hX6.cell rfl
                  rw [hW5] at e0 e1 e2 d0 d1 d2 d3 d4 hat3
                  go_wp2_with fail
                  refine hat3.mono ?_
                  rintro e w7 ⟨y3, rfl, -, hb7⟩
                  rw [← hW5] at hb7
                  have hB8 := below_next hB6 hb7 (Nat.le_refl _)
                  have hK8 := hK6.later hb7 hK6.lt
                  have hX8 := hX6.later hb7 hX6.lt
                  clear e0 e1 e2 d0 d1 d2 d3 d4 hat3
                  have lX8 := hX8.lt
                  have d0 : w7.cell? ⟨X, 0, none⟩ = some (.int .u8 3) := by rw [← h3i]; exact hX8.cell rfl
                  have d1 : w7.cell? ⟨X, 1, none⟩ = some (.int .i64 x.a) := hX8.cell rfl
                  have d2 : w7.cell? ⟨X, 2, none⟩ = some (.int .i64 x.b) := hX8.cell rfl
                  have d3 : w7.cell? ⟨X, 3, none⟩ = some (.int .i64 x.c) := hX8.cell rfl
                  have d4 : w7.cell? ⟨X, 4, none⟩ = some (.int .i64 x.k) := hX8.cell rfl
                  go_wp2_with fail
                  go_round
                  case rel => exact ⟨n + 1, by omega, by go_num, hB8.trans ((Below.refl _ w7).alloc (Nat.le_refl _) _ |>.mono (Nat.le_trans (Nat.le_refl _) hB8.size)), hK8.alloc _⟩
                  case measure => simp [intOf]; omega
              by_cases h4 : x.o = 4
              · obtain rfl : tb = true := hpl (.inr h4)
                have h4i : (x.o : Int) = 4 := by omega
                obtain rfl : nb = true := by rcases hnx with h | ⟨_, h | h⟩ <;> first | exact h | omega
                clear hpl hnx
                have e0 : W5.cell? ⟨w.heap.size, 0, none⟩ = some (.slice a1 p.caps.length c1) := hK6.cell rfl
                have e1 : W5.cell? ⟨w.heap.size, 1, none⟩ = some (.slice (some ⟨bc, oc, none⟩) p.codes.length c2) := hK6.cell rfl
                have e2 : W5.cell? ⟨w.heap.size, 2, none⟩ = some (.slice a3 p.sites.length c3) := hK6.cell rfl
                have d0 : W5.cell? ⟨X, 0, none⟩ = some (.int .u8 4) := by rw [← h4i]; exact hX6.cell rfl
                have d1 : W5.cell? ⟨X, 1, none⟩ = some (.int .i64 x.a) := hX6.cell rfl
                have d2 : W5.cell? ⟨X, 2, none⟩ = some (.int .i64 x.b) := hX6.cell rfl
                have d3 : W5.cell? ⟨X, 3, none⟩ = some (.int .i64 x.c) := hX6.cell rfl
                have d4 : W5.cell? ⟨X, 4, none⟩ = some (.int .i64 x.k) := hX6.cell rfl
                rw [hW5] at e0 e1 e2 d0 d1 d2 d3 d4 hat3
                go_wp2_with fail
                refine hat3.mono ?_
                rintro e w7 ⟨y3, rfl, -, hb7⟩
                rw [← hW5] at hb7
                have hB8 := below_next hB6 hb7 (Nat.le_refl _)
                have hK8 := hK6.later hb7 hK6.lt
                have hX8 := hX6.later hb7 hX6.lt
                clear e0 e1 e2 d0 d1 d2 d3 d4 hat3
                have lX8 := hX8.lt
                have d0 : w7.cell? ⟨X, 0, none⟩ = some (.int .u8 4) := by rw [← h4i]; exact hX8.cell rfl
                have d1 : w7.cell? ⟨X, 1, none⟩ = some (.int .i64 x.a) := hX8.cell rfl
                have d2 : w7.cell? ⟨X, 2, none⟩ = some (.int .i64 x.b) := hX8.cell rfl
                have d3 : w7.cell? ⟨X, 3, none⟩ = some (.int .i64 x.c) := hX8.cell rfl
                have d4 : w7.cell? ⟨X, 4, none⟩ = some (.int .i64 x.k) := hX8.cell rfl
                go_wp2_with fail
                go_round
                case rel => exact ⟨n + 1, by omega, by go_num, hB8.trans ((Below.refl _ w7).alloc (Nat.le_refl _) _ |>.mono (Nat.le_trans (Nat.le_refl _) hB8.size)), hK8.alloc _⟩
                case measure => simp [intOf]; omega
              have h3b : ((x.o : Int) == 3) = false := by rw [beq_eq_false_iff_ne]; omega
              have h4b : ((x.o : Int) == 4) = false := by rw [beq_eq_false_iff_ne]; omega
              rcases hnx with rfl | ⟨rfl, h10⟩
              · clear hpl
                have e0 : W5.cell? ⟨w.heap.size, 0, none⟩ = some (.slice a1 p.caps.length c1) := hK6.cell rfl
                have e1 : W5.cell? ⟨w.heap.size, 1, none⟩ = some (.slice (some ⟨bc, oc, none⟩) p.codes.length c2) := hK6.cell rfl
                have e2 : W5.cell? ⟨w.heap.size, 2, none⟩ = some (.slice a3 p.sites.length c3) := hK6.cell rfl
                have d0 : W5.cell? ⟨X, 0, none⟩ = some (.int .u8 (x.o : Int)) := hX6.cell rfl
                have d1 : W5.cell? ⟨X, 1, none⟩ = some (.int .i64 x.a) := hX6.cell rfl
                have d2 : W5.cell? ⟨X, 2, none⟩ = some (.int .i64 x.b) := hX6.cell rfl
                have d3 : W5.cell? ⟨X, 3, none⟩ = some (.int .i64 x.c) := hX6.cell rfl
                have d4 : W5.cell? ⟨X, 4, none⟩ = some (.int .i64 x.k) := hX6.cell rfl
                rw [hW5] at e0 e1 e2 d0 d1 d2 d3 d4 hat3
                go_wp2_with fail
                refine hat3.mono ?_
                rintro e w7 ⟨y3, rfl, -, hb7⟩
                rw [← hW5] at hb7
                have hB8 := below_next hB6 hb7 (Nat.le_refl _)
                have hK8 := hK6.later hb7 hK6.lt
                have hX8 := hX6.later hb7 hX6.lt
                clear e0 e1 e2 d0 d1 d2 d3 d4 hat3
                have lX8 := hX8.lt
                have d0 : w7.cell? ⟨X, 0, none⟩ = some (.int .u8 (x.o : Int)) := hX8.cell rfl
                have d1 : w7.cell? ⟨X, 1, none⟩ = some (.int .i64 x.a) := hX8.cell rfl
                have d2 : w7.cell? ⟨X, 2, none⟩ = some (.int .i64 x.b) := hX8.cell rfl
                have d3 : w7.cell? ⟨X, 3, none⟩ = some (.int .i64 x.c) := hX8.cell rfl
                have d4 : w7.cell? ⟨X, 4, none⟩ = some (.int .i64 x.k) := hX8.cell rfl
                go_wp2_with fail
                go_round
                case rel => exact ⟨n + 1, by omega, by go_num, hB8.trans ((Below.refl _ w7).alloc (Nat.le_refl _) _ |>.mono (Nat.le_trans (Nat.le_refl _) hB8.size)), hK8.alloc _⟩
                case measure => simp [intOf]; omega
              · have h10i : (x.o : Int) = 10 := by omega
                clear hpl h3b h4b
                have e0 : W5.cell? ⟨w.heap.size, 0, none⟩ = some (.slice a1 p.caps.length c1) := hK6.cell rfl
                have e1 : W5.cell? ⟨w.heap.size, 1, none⟩ = some (.slice (some ⟨bc, oc, none⟩) p.codes.length c2) := hK6.cell rfl
                have e2 : W5.cell? ⟨w.heap.size, 2, none⟩ = some (.slice a3 p.sites.length c3) := hK6.cell rfl
                have d0 : W5.cell? ⟨X, 0, none⟩ = some (.int .u8 10) := by rw [← h10i]; exact hX6.cell rfl
                have d1 : W5.cell? ⟨X, 1, none⟩ = some (.int .i64 x.a) := hX6.cell rfl
                have d2 : W5.cell? ⟨X, 2, none⟩ = some (.int .i64 x.b) := hX6.cell rfl
                have d3 : W5.cell? ⟨X, 3, none⟩ = some (.int .i64 x.c) := hX6.cell rfl
                have d4 : W5.cell? ⟨X, 4, none⟩ = some (.int .i64 x.k) := hX6.cell rfl
                rw [hW5] at e0 e1 e2 d0 d1 d2 d3 d4 hat3
                go_wp2_with fail
                refine hat3.mono ?_
                rintro e w7 ⟨y3, rfl, -, hb7⟩
                rw [← hW5] at hb7
                have hB8 := below_next hB6 hb7 (Nat.le_refl _)
                have hK8 := hK6.later hb7 hK6.lt
                have hX8 := hX6.later hb7 hX6.lt
                clear e0 e1 e2 d0 d1 d2 d3 d4 hat3
                have lX8 := hX8.lt
                have d0 : w7.cell? ⟨X, 0, none⟩ = some (.int .u8 10) := by rw [← h10i]; exact hX8.cell rfl
                have d1 : w7.cell? ⟨X, 1, none⟩ = some (.int .i64 x.a) := hX8.cell rfl
                have d2 : w7.cell? ⟨X, 2, none⟩ = some (.int .i64 x.b) := hX8.cell rfl
                have d3 : w7.cell? ⟨X, 3, none⟩ = some (.int .i64 x.c) := hX8.cell rfl
                have d4 : w7.cell? ⟨X, 4, none⟩ = some (.int .i64 x.k) := hX8.cell rfl
                go_wp2_with fail
                go_round
                case rel => exact ⟨n + 1, by omega, by go_num, hB8.trans ((Below.refl _ w7).alloc (Nat.le_refl _) _ |>.mono (Nat.le_trans (Nat.le_refl _) hB8.size)), hK8.alloc _⟩
                case measure => simp [intOf]; omega
end Go.Proofs.Ytbbgeopgigeioaa
