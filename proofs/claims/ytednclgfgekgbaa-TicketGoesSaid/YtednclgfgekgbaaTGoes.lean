/-
  The walk of the law TicketGoes.
-/
import Derived.Maps.AppendAt
import Derived.Test.YtednclgfgekgbaaTPair
namespace Go.Proofs.Ytednclgfgekgbaa
open Go.RowKit

/-- What stands at the head of a round of the first loop. -/
def Drawn (w0 W : World) (L P Q B V f k c : Nat) (v : Value) : Prop :=
  Lks W L P Q B 0 1 ∧ Cels W B V [f + k, f] (c + k) ∧ W.ownsRow w0.heap.size 30 1 v k (U16 (ticks f k)) ∧ But [] w0 W ∧ w0.heap.size ≤ B ∧ w0.heap.size ≤ V

/-- What stands at the head of a round of the second loop. -/
def Asked (w0 W : World) (L P Q B V f n i c a g cap : Nat) : Prop :=
  Lks W L P Q B 0 1 ∧ Cels W B V [f + n, f + i] (c + n + a + i) ∧ W.ownsRow w0.heap.size 30 1 (.slice (some ⟨g, 0, none⟩) n cap) n (U16 (ticks f n)) ∧ But [] w0 W ∧ w0.heap.size ≤ B ∧ w0.heap.size ≤ V

set_option maxRecDepth 100000 in
set_option maxHeartbeats 2000000 in
theorem goes_zero (f : Nat) (hf : f < 65536) (w : World) :
    Calls Try.prog 5 #[.int .u16 (f : Int), .int .u8 0] w fun e w' => e = .returned (.bool true) ∧ Below w.heap.size w w' := by
  go_enter Try.func5, Try.ntmps5
  go_wp2_with fail
  refine (cell_new_at (n := 2) _ (Lib.hid rfl) (by omega) (by omega)).mono ?_
  rintro e w1 ⟨B, V, rfl, hC, hV, hB, hz⟩
  have hC1 : Cels w1 B V [0, 0] 0 := hC
  clear hC
  go_wp2_with fail
  refine (tnew_at (base := 0) (n := 1) _ hC1 (by omega) (by omega) (by simp) (Lib.hid ⟨rfl, rfl⟩)).mono ?_
  rintro e w2 ⟨L, P, Q, rfl, hL, hg⟩
  have hC2 := hC1.but hg (by simp) (by simp)
  have hz2 := hz.next hg
  clear hC1 hg hz
  go_wp2_with fail
  refine (write_at (y := f) (vs' := [f, 0]) (c' := 1) _ hC2 (by omega) (by omega) (by omega) (Lib.hid ⟨rfl, rfl⟩)).mono ?_
  rintro e w3 ⟨rfl, hC3, hg⟩
  have hL3 := hL.cels hC2 hg
  have hz3 := hz2.own hg hB hV
  clear hC2 hg hz2 hL
  go_wp2_with fail
  refine (write_at (y := f) (vs' := [f, f]) (c' := 2) _ hC3 (by omega) (by omega) (by omega) (Lib.hid ⟨rfl, rfl⟩)).mono ?_
  rintro e w4 ⟨rfl, hC4, hg⟩
  have hL4 := hL3.cels hC3 hg
  have hz4 := hz3.own hg hB hV
  clear hC3 hg hz3 hL3
  obtain ⟨c, hc⟩ : ∃ c, c = 2 := ⟨_, rfl⟩
  rw [← hc] at hC4
  have hc2 : c ≤ 2 := by omega
  clear hc
  go_wp2_with fail
  refine (count_any _ hC4).mono ?_
  rintro e w5 ⟨rfl, rfl⟩
  have hfr : Hid (decide (tick (minus f f) = 0) = true) := Lib.hid (decide_eq_true (by unfold tick minus; omega))
  have hb : ((c : Int) == (c : Int)) = true := by simp
  go_wp2_with fail
  refine wp_loop_rounds 1 ?_
  rw [rounds_succ]
  go_wp2_with fail
  refine wp_loop_rounds 1 ?_
  rw [rounds_succ]
  go_wp2_with fail
  refine (free2 _ hL4 hC4 hfr).mono ?_
  rintro e wx ⟨rfl, m, rfl⟩
  go_wp2_with fail
  refine (count_any _ (hC4.drewN m)).mono ?_
  rintro e wx ⟨rfl, rfl⟩
  go_wp2_with fail
  refine (alive_any _).mono ?_
  rintro e wz ⟨rfl, hbz⟩
  have hB' : Below w.heap.size w wz := ((hz4.drewN m).below (Nat.le_refl _) (by simp)).trans (hbz.mono hz4.size)
  clear hz4 hbz
  go_wp2_with fail
  go_ret
  exact ⟨rfl, hB'⟩

set_option maxRecDepth 100000 in
set_option maxHeartbeats 2000000 in
theorem goes_walk (f n : Nat) (hf : f < 65536) (hn : n < 256) (hn0 : 0 < n) (w : World) :
    Calls Try.prog 5 #[.int .u16 (f : Int), .int .u8 (n : Int)] w fun e w' => e = .returned (.bool true) ∧ Below w.heap.size w w' := by
  obtain ⟨i0, hi, iz0, iz1, iz2⟩ := info_parts infoU16
  go_enter Try.func5, Try.ntmps5
  go_wp2_with fail
  refine (cell_new_at (n := 2) _ (Lib.hid rfl) (by omega) (by omega)).mono ?_
  rintro e w1 ⟨B, V, rfl, hC, hV, hB, hz⟩
  have hC1 : Cels w1 B V [0, 0] 0 := hC
  clear hC
  go_wp2_with fail
  refine (tnew_at (base := 0) (n := 1) _ hC1 (by omega) (by omega) (by simp) (Lib.hid ⟨rfl, rfl⟩)).mono ?_
  rintro e w2 ⟨L, P, Q, rfl, hL, hg⟩
  have hC2 := hC1.but hg (by simp) (by simp)
  have hz2 := hz.next hg
  clear hC1 hg hz
  go_wp2_with fail
  refine (write_at (y := f) (vs' := [f, 0]) (c' := 1) _ hC2 (by omega) (by omega) (by omega) (Lib.hid ⟨rfl, rfl⟩)).mono ?_
  rintro e w3 ⟨rfl, hC3, hg⟩
  have hL3 := hL.cels hC2 hg
  have hz3 := hz2.own hg hB hV
  clear hC2 hg hz2 hL
  go_wp2_with fail
  refine (write_at (y := f) (vs' := [f, f]) (c' := 2) _ hC3 (by omega) (by omega) (by omega) (Lib.hid ⟨rfl, rfl⟩)).mono ?_
  rintro e w4 ⟨rfl, hC4, hg⟩
  have hL4 := hL3.cels hC3 hg
  have hz4 := hz3.own hg hB hV
  clear hC3 hg hz3 hL3
  obtain ⟨c, hc⟩ : ∃ c, c = 2 := ⟨_, rfl⟩
  rw [← hc] at hC4
  have hc2 : c ≤ 2 := by omega
  clear hc
  go_wp2_with fail
  refine (count_any _ hC4).mono ?_
  rintro e w5 ⟨rfl, rfl⟩
  have hD : Drawn w w5 L P Q B V f 0 c (.slice none 0 0) := ⟨hL4, hC4, World.ownsRow_nil _ _ _ _, hz4, hB, hV⟩
  clear hC4 hL4 hz4
  go_wp2_with fail
  go_loopw [10, 11] (fun tv iv wr => ∃ (k : Nat), k ≤ n ∧ iv = .int .i64 (k : Int) ∧ Drawn w wr L P Q B V f k c tv) (fun _ iv _ => n - (intOf iv).toNat)
  case atStart => exact ⟨0, Nat.zero_le _, rfl, hD⟩
  case round =>
    clear hD
    obtain ⟨k, hk, rfl, hL, hC, hrow, hz, -, -⟩ := hrel
    by_cases hlt : k < n
    · have hlt' : (k : Int) < (n : Int) := by omega
      go_wp2_with fail
      refine (draw2 _ hL hC (by omega) (by omega)).mono ?_
      rintro e wa ⟨rfl, hC', hg⟩
      have hL' := hL.cels hC hg
      have hrow' := row_cels hrow hC hg (by decide) (by decide)
      have hz' := hz.own hg hB hV
      clear hL hC hrow hz hg
      go_wp2_with (at_builtin; refine wpList_append_own _ rfl _ _ 58 rfl w.heap.size 30 i0 (.int .u16 0) 1 2 Try.underlying58 hi iz0 iz1 iz2 rfl (by decide) _ _ _ rfl (hrow'.alloc _) ⟨wa.heap.size, 0, none⟩ 1 1 [.int .u16 (tick (f + k) : Int)] rfl rfl ?c1 ?c2 ?c3 ?c4 ?c5 ?_)
      case c1 => exact cell_one_new _ _ _
      case c2 => first | rfl | (intro x hx; simp at hx; subst hx; rfl)
      case c3 => unfold maxLen; omega
      case c4 => omega
      try (case c5 => first | exact Nat.le_refl _ | omega | (have := hz'.size; simp; omega))
      intro v' wb hown hgrow _
      have hg := row_grown hgrow
      have hD : Drawn w wb L P Q B V f (k + 1) c v' := ⟨lks_row hrow' hg hL' (by decide) (by decide), cels_row hrow' hg hC' (by decide) (by decide), by rw [ticks_succ, U16_snoc]; exact hown, row_but hz' hrow' hg, hB, hV⟩
      clear hL' hC' hrow' hz' hown hgrow hg
      go_wp2_with fail
      go_roundw
      case rel => exact ⟨k + 1, by omega, by go_num, hD⟩
      case measure => simp [intOf]; omega
    · obtain rfl : n = k := by omega
      have hlt' : ¬ (n : Int) < (n : Int) := by omega
      obtain ⟨g, cap, rfl⟩ : ∃ g cap, u10 = Value.slice (some ⟨g, 0, none⟩) n cap := by
        rcases hrow.2 with ⟨_, h0⟩ | ⟨g, cap, cur, he, _⟩
        · omega
        · exact ⟨g, cap, he⟩
      have hA : Asked w wr L P Q B V f n 0 c 0 g cap := ⟨hL, hC, hrow, hz, hB, hV⟩
      clear hL hC hrow hz
      go_wp2_with fail
      go_loopw [13, 14] (fun av iv wq => ∃ (i a : Nat), i ≤ n ∧ a ≤ i * 256 ∧ iv = .int .i64 (i : Int) ∧ av = .int .i64 (a : Int) ∧ Asked w wq L P Q B V f n i c a g cap) (fun _ iv _ => n - (intOf iv).toNat)
      case atStart => exact ⟨0, 0, Nat.zero_le _, by omega, rfl, rfl, hA⟩
      case round =>
        clear hA
        obtain ⟨i, a, hi, ha, rfl, rfl, hA⟩ := hrel
        by_cases hit : i < n
        · have hit' : (i : Int) < (n : Int) := by omega
          go_wp2_with fail
          obtain ⟨wo, rfl⟩ : ∃ wo : World, wo = wr := ⟨_, rfl⟩
          go_loopw [13, 15] (fun av kv wq => ∃ (k a : Nat), i ≤ k ∧ k ≤ n ∧ a ≤ i * 256 + (k - i) ∧ kv = .int .i64 (k : Int) ∧ av = .int .i64 (a : Int) ∧ Asked w wq L P Q B V f n i c a g cap) (fun _ kv _ => n - (intOf kv).toNat)
          case atStart => exact ⟨i, a, Nat.le_refl _, hi, by omega, rfl, rfl, hA⟩
          case round =>
            clear hA ha
            obtain ⟨k, a, hik, hk, ha, rfl, rfl, hA⟩ := hrel
            obtain ⟨hL, hC, hrow, hz, -, -⟩ := hA
            by_cases hkt : k < n
            · have hkt' : (k : Int) < (n : Int) := by omega
              have hcell : wr.cell? ⟨g, k, none⟩ = some (.int .u16 (tick (f + k) : Int)) := by
                have := hrow.cellAt k (by simp; omega)
                rw [ticks_get hkt] at this
                by_cases h0 : k = 0
                · subst h0; simpa [Addr.add] using this
                · simpa [Addr.add, h0] using this
              have hcap : Hid (n ≤ cap) := Lib.hid (by
                rcases hrow.2 with ⟨h0, _⟩ | ⟨_, _, _, he, _, _, h1, _⟩
                · cases h0
                · simp only [Value.slice.injEq] at he; omega)
              obtain ⟨x, hx1, hx2⟩ : ∃ x, decide (tick (f + i) = tick (f + k)) = x ∧ ((k : Int) == (i : Int)) = x := by
                by_cases h : k = i
                · subst h; exact ⟨true, by simp, by simp⟩
                · exact ⟨false, decide_eq_false (by unfold tick; omega), by simp; omega⟩
              have HX := Lib.hid hx1
              clear hx1
              go_wp2_with fail
              refine (mine2 (tick (f + k)) _ hL hC (by omega) HX).mono ?_
              rintro e wa ⟨rfl, hC', hg⟩
              have hA' : Asked w wa L P Q B V f n i c (a + 1) g cap := ⟨hL.cels hC hg, by rw [show c + n + (a + 1) + i = c + n + a + i + 1 by omega]; exact hC', row_cels hrow hC hg (by decide) (by decide), hz.own hg hB hV, hB, hV⟩
              clear hL hC hrow hz hg hC' HX hcell
              have hxx : (x != x) = false := by cases x <;> rfl
              go_wp2_with fail
              go_roundw
              case rel => exact ⟨k + 1, a + 1, by omega, by omega, by omega, by go_num, by go_num, hA'⟩
              case measure => simp [intOf]; omega
            · obtain rfl : n = k := by omega
              have hkt' : ¬ (n : Int) < (n : Int) := by omega
              go_wp2_with fail
              refine (give2 _ hL hC (by omega) (by omega)).mono ?_
              rintro e wa ⟨rfl, hC', hg⟩
              have hA' : Asked w wa L P Q B V f n (i + 1) c a g cap := ⟨hL.cels hC hg, hC', row_cels hrow hC hg (by decide) (by decide), hz.own hg hB hV, hB, hV⟩
              clear hL hC hrow hz hg hC'
              go_wp2_with fail
              go_roundw
              case rel => exact ⟨i + 1, a, by omega, by omega, by go_num, rfl, hA'⟩
              case measure => simp [intOf]; omega
        · obtain rfl : n = i := by omega
          have hit' : ¬ (n : Int) < (n : Int) := by omega
          obtain ⟨hL, hC, -, hz, -, -⟩ := hA
          have hfr : Hid (decide (tick (minus (f + n) (f + n)) = 0) = true) := Lib.hid (decide_eq_true (by unfold tick minus; omega))
          go_wp2_with fail
          refine (free2 _ hL hC hfr).mono ?_
          rintro e wx ⟨rfl, m, rfl⟩
          have hb : (((c + n + a + n : Nat) : Int) == (c : Int) + 2 * (n : Int) + (a : Int)) = true := by simp; omega
          go_wp2_with fail
          refine (count_any _ (hC.drewN m)).mono ?_
          rintro e wx ⟨rfl, rfl⟩
          go_wp2_with fail
          refine (alive_any _).mono ?_
          rintro e wz ⟨rfl, hbz⟩
          have hB' : Below w.heap.size w wz := ((hz.drewN m).below (Nat.le_refl _) (by simp)).trans (hbz.mono hz.size)
          clear hz hbz
          go_wp2_with fail
          go_ret
          exact ⟨rfl, hB'⟩

theorem goes_any (f n : Nat) (hf : f < 65536) (hn : n < 256) (w : World) :
    Calls Try.prog 5 #[.int .u16 (f : Int), .int .u8 (n : Int)] w fun e w' => e = .returned (.bool true) ∧ Below w.heap.size w w' := by
  by_cases h : n = 0
  · subst h; exact goes_zero f hf w
  · exact goes_walk f n hf hn (by omega) w
end Go.Proofs.Ytednclgfgekgbaa
