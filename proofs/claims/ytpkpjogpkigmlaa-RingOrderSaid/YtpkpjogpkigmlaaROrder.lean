/-
  The walk of the law RingOrder.
-/
import Derived.Test.YtpkpjogpkigmlaaROrderM
namespace Go.Proofs.Ytpkpjogpkigmlaa
open Go.RowKit

set_option maxRecDepth 100000 in
set_option maxHeartbeats 3200000 in
theorem order_loop (q : Nat) (hq : q ≤ 255) (b off cap : Nat) (ss : List (Int × Int)) (w : World) (hl : ss.length ≤ 300) (h0 : 0 < ss.length) (hb : b < w.heap.size)
    (hc : ∀ j, j < ss.length → w.cell? ⟨b, off + j * 2, none⟩ = some (.int .i64 (ss[j]?.getD (0, 0)).1) ∧ w.cell? ⟨b, off + j * 2 + 1, none⟩ = some (.int .i64 (ss[j]?.getD (0, 0)).2)) :
    Calls Try.prog 4 #[.int .u8 (q : Int), .slice (some ⟨b, off, none⟩) ss.length cap] w fun e w' => e = .returned (.bool true) ∧ Below w.heap.size w w' := by
  obtain ⟨i0, hi, hz0, hz1, hz2⟩ := info_parts info64
  have hl1 : decide ((300 : Int) < (ss.length : Int)) = false := by simp; omega
  have hl2 : ¬ (300 : Int) < (ss.length : Int) := by omega
  obtain ⟨m, hm⟩ : ∃ m, m = q % 9 := ⟨_, rfl⟩
  have hm9 : m ≤ 8 := by omega
  have hm1 : ((q : Int) % 9) = (m : Int) := by omega
  have hm2 : ((q : Int).tmod 9) = (m : Int) := by rw [Int.tmod_eq_emod_of_nonneg (by omega)]; omega
  have hw : IntKind.i64.wrap (q : Int) = (q : Int) := by rw [IntKind.wrap_i64]; omega
  clear hm
  have hnew := fun w => new_ok m w hm9
  go_enter Try.func4, Try.ntmps4
  go_wp2_with fail
  refine (hnew _).mono ?_
  rintro e w2 ⟨rfl, hR, hg⟩
  have hb2 : Below w.heap.size w w2 := (Below.refl _ _).grown hg (Nat.le_refl _) (fun _ e => by cases e)
  obtain ⟨B, hBe⟩ : ∃ B, B = w.heap.size := ⟨_, rfl⟩
  have hBo : w.heap.size ≤ B := by omega
  rw [← hBe] at hR ⊢
  clear hg hnew hBe
  go_wp2_with fail
  have hF : Mem w w2 B m (.slice none ([] : List Int).length 0) (.slice none ([] : List Int).length 0) [] [] [] :=
    ⟨hR, World.ownsRow_nil _ _ _ _, World.ownsRow_nil _ _ _ _, fun _ h => by simp [Value.ownBlock] at h, hb2, hBo⟩
  clear hR hb2 hm1 hm2 hw
  go_loopw [7, 8, 9] (fun pv tv iv wr => ∃ (k : Nat) (P T l : List Int) (pa ta : Option Addr) (pc tc : Nat), k ≤ ss.length ∧ P.length ≤ k ∧ iv = .int .i64 (k : Int) ∧ pv = .slice pa P.length pc ∧ tv = .slice ta T.length tc ∧ Mem w wr B m (.slice pa P.length pc) (.slice ta T.length tc) P T l ∧ Hid (P = T ++ l)) (fun _ _ iv _ => ss.length - (intOf iv).toNat)
  case atStart => exact ⟨0, [], [], [], none, none, 0, 0, Nat.zero_le _, Nat.le_refl _, rfl, rfl, rfl, hF, Lib.hid rfl⟩
  case round =>
    clear hF
    obtain ⟨k, P, T, l, pa, ta, pc, tc, hk, hPk, rfl, rfl, rfl, hF, HS⟩ := hrel
    by_cases hlt : k < ss.length
    · have hlt' : (k : Int) < (ss.length : Int) := by omega
      have hBl := hF.below
      have hd : wr.cell? ⟨b, off + k * 2, none⟩ = some (.int .i64 (ss[k]?.getD (0, 0)).1) := (hBl.cell (p := ⟨b, off + k * 2, none⟩) hb).trans (hc k hlt).1
      have hv : wr.cell? ⟨b, off + k * 2 + 1, none⟩ = some (.int .i64 (ss[k]?.getD (0, 0)).2) := (hBl.cell (p := ⟨b, off + k * 2 + 1, none⟩) hb).trans (hc k hlt).2
      have hs0 : 0 < ss.length := h0
      obtain ⟨d, hde⟩ : ∃ d, (ss[k]?.getD (0, 0)).1 = d := ⟨_, rfl⟩
      obtain ⟨v, hve⟩ : ∃ v, (ss[k]?.getD (0, 0)).2 = v := ⟨_, rfl⟩
      rw [hde] at hd
      rw [hve] at hv
      clear hc hde hve hBl
      go_upto_region 10 with fail
      iterate 19 go_step
      go_cut [7, 8] from 31 to 139 (fun pv tv wx => ∃ (P T l : List Int) (pa ta : Option Addr) (pc tc : Nat), P.length ≤ k + 1 ∧ pv = .slice pa P.length pc ∧ tv = .slice ta T.length tc ∧ Mem w wx B m (.slice pa P.length pc) (.slice ta T.length tc) P T l ∧ Hid (P = T ++ l))
      case first =>
        have hsz0 := hF.below.size
        have hRlm := hF.ring.le
        have hTl : T.length ≤ P.length := by have := congrArg List.length HS.out; simp at this; omega
        by_cases e0 : d = 0
        · subst e0
          by_cases hfull : l.length = m
          · go_wp2_with fail
            refine (put_full v _ hF.ring hfull).mono ?_
            rintro e w1 ⟨rfl, hR1, hg1⟩
            have hF1 := hF.step hR1 (grownBy_but hg1 _)
            clear hg1 hR1
            go_wp2_with fail
            go_meet
            case rel => exact ⟨P, T, l, pa, ta, pc, tc, by omega, rfl, rfl, hF1, HS⟩
          · go_wp2_with fail
            refine (put_room v _ hF.ring hfull).mono ?_
            rintro e w1 ⟨rfl, hR1, hg1⟩
            have hF1 := hF.step hR1 hg1
            have hv1 : w1.cell? ⟨b, off + k * 2 + 1, none⟩ = some (.int .i64 v) := (World.grownBy.cell hg1 hv (by simp; have := hF.own; omega))
            have hsz1 := hF1.below.size
            clear hg1 hR1 hv hd
            go_wp2_with (at_builtin; refine wpList_append_own_at _ rfl _ _ 29 rfl w.heap.size 2 i0 (.int .i64 0) 1 8 Try.underlying29 hi hz0 hz1 hz2 rfl (by decide) _ P.length (I64 P) rfl (hF1.puts.alloc _) ⟨w1.heap.size, 0, none⟩ 1 1 [.int .i64 v] rfl rfl ?c1 ?c2 ?c3 ?c4 ?c5 ?_)
            case c1 => exact cell_one_new _ _ _
            case c2 => first | rfl | (intro y hy; simp at hy; subst hy; rfl)
            case c3 => unfold maxLen; omega
            case c4 => omega
            try (case c5 => first | exact Nat.le_refl _ | omega | (simp; done) | (simp; omega))
            intro v' w2 hown' hgrow _ hat
            obtain ⟨g', cap', rfl⟩ := ownsRow_succ hown'
            have hF2 := hF1.put hown' hgrow hat
            clear hown' hgrow hat hF1 hF
            go_wp2_with fail
            go_meet
            case rel => exact ⟨P ++ [v], T, l ++ [v], some ⟨g', 0, none⟩, ta, cap', tc, by simp; omega, by simp, rfl, by simpa using hF2, Lib.hid (by rw [HS.out, List.append_assoc])⟩
        by_cases e1 : d = 1
        · subst e1
          cases l with
          | nil =>
            go_wp2_with fail
            refine (take_none _ hF.ring).mono ?_
            rintro e w1 ⟨rfl, hR1, hg1⟩
            have hF1 := hF.step hR1 hg1
            clear hg1 hR1
            go_wp2_with fail
            go_meet
            case rel => exact ⟨P, T, [], pa, ta, pc, tc, by omega, rfl, rfl, hF1, HS⟩
          | cons x t =>
            go_wp2_with fail
            refine (take_some _ hF.ring).mono ?_
            rintro e w1 ⟨rfl, hR1, hg1⟩
            have hF1 := hF.step hR1 hg1
            have hsz1 := hF1.below.size
            clear hg1 hR1 hv hd
            go_wp2_with (at_builtin; refine wpList_append_own_at _ rfl _ _ 29 rfl w.heap.size 2 i0 (.int .i64 0) 1 8 Try.underlying29 hi hz0 hz1 hz2 rfl (by decide) _ T.length (I64 T) rfl (hF1.took.alloc _) ⟨w1.heap.size, 0, none⟩ 1 1 [.int .i64 x] rfl rfl ?c1 ?c2 ?c3 ?c4 ?c5 ?_)
            case c1 => exact cell_one_new _ _ _
            case c2 => first | rfl | (intro y hy; simp at hy; subst hy; rfl)
            case c3 => unfold maxLen; omega
            case c4 => omega
            try (case c5 => first | exact Nat.le_refl _ | omega | (simp; done) | (simp; omega))
            intro v' w2 hown' hgrow _ hat
            obtain ⟨g', cap', rfl⟩ := ownsRow_succ hown'
            have hF2 := hF1.take hown' hgrow hat
            clear hown' hgrow hat hF1 hF
            go_wp2_with fail
            go_meet
            case rel => exact ⟨P, T ++ [x], t, pa, some ⟨g', 0, none⟩, pc, cap', by omega, rfl, by simp, by simpa using hF2, Lib.hid (by rw [HS.out, List.append_assoc]; rfl)⟩
        by_cases e2 : d = 2
        · subst e2
          by_cases hno : l.length < m ∨ l = []
          · go_wp2_with fail
            refine (swap_idle v _ hF.ring hno).mono ?_
            rintro e w1 ⟨rfl, hR1, hg1⟩
            have hF1 := hF.step hR1 hg1
            clear hg1 hR1
            go_wp2_with fail
            go_meet
            case rel => exact ⟨P, T, l, pa, ta, pc, tc, by omega, rfl, rfl, hF1, HS⟩
          · obtain ⟨x, t, rfl⟩ : ∃ x t, l = x :: t := by
              cases l with
              | nil => exact absurd (.inr rfl) hno
              | cons x t => exact ⟨x, t, rfl⟩
            have hsw := swap_full v wr hF.ring hno
            clear hno
            go_wp2_with fail
            refine hsw.mono ?_
            rintro e w1 ⟨rfl, hR1, hg1⟩
            have hF1 := hF.step hR1 hg1
            have hv1 : w1.cell? ⟨b, off + k * 2 + 1, none⟩ = some (.int .i64 v) := (World.grownBy.cell hg1 hv (by simp; have := hF.own; omega))
            have hsz1 := hF1.below.size
            clear hg1 hR1 hv hd hsw
            go_wp2_with (at_builtin; refine wpList_append_own_at _ rfl _ _ 29 rfl w.heap.size 2 i0 (.int .i64 0) 1 8 Try.underlying29 hi hz0 hz1 hz2 rfl (by decide) _ T.length (I64 T) rfl (hF1.took.alloc _) ⟨w1.heap.size, 0, none⟩ 1 1 [.int .i64 x] rfl rfl ?c1 ?c2 ?c3 ?c4 ?c5 ?_)
            case c1 => exact cell_one_new _ _ _
            case c2 => first | rfl | (intro y hy; simp at hy; subst hy; rfl)
            case c3 => unfold maxLen; omega
            case c4 => omega
            try (case c5 => first | exact Nat.le_refl _ | omega | (simp; done) | (simp; omega))
            intro v' w2 hown' hgrow _ hat
            obtain ⟨g', cap', rfl⟩ := ownsRow_succ hown'
            have hF2 := hF1.take hown' hgrow hat
            have hv2 : w2.cell? ⟨b, off + k * 2 + 1, none⟩ = some (.int .i64 v) := by
              refine World.grownBy.cell hgrow ((World.cell?_of_block (w := w1) (Below.heap_alloc w1 _ b (by omega))).trans hv1) (fun e => ?_)
              have h9 : w.heap.size ≤ b := owns_ge hF1.took e.symm
              omega
            have hsz2 := hF2.below.size
            clear hown' hgrow hat hF1 hF hv1
            go_wp2_with (at_builtin; refine wpList_append_own_at _ rfl _ _ 29 rfl w.heap.size 2 i0 (.int .i64 0) 1 8 Try.underlying29 hi hz0 hz1 hz2 rfl (by decide) _ P.length (I64 P) rfl (hF2.puts.alloc _) ⟨w2.heap.size, 0, none⟩ 1 1 [.int .i64 v] rfl rfl ?c1 ?c2 ?c3 ?c4 ?c5 ?_)
            case c1 => exact cell_one_new _ _ _
            case c2 => first | rfl | (intro y hy; simp at hy; subst hy; rfl)
            case c3 => unfold maxLen; omega
            case c4 => omega
            try (case c5 => first | exact Nat.le_refl _ | omega | (simp; done) | (simp; omega))
            intro v'' w3 hown'' hgrow' _ hat'
            obtain ⟨g'', cap'', rfl⟩ := ownsRow_succ hown''
            have hF3 := hF2.put hown'' hgrow' hat'
            clear hown'' hgrow' hat' hF2
            go_wp2_with fail
            go_meet
            case rel => exact ⟨P ++ [v], T ++ [x], t ++ [v], some ⟨g'', 0, none⟩, some ⟨g', 0, none⟩, cap'', cap', by simp; omega, by simp, by simp, by simpa using hF3, Lib.hid (by rw [HS.out]; simp)⟩
        · go_wp2_with fail
          go_meet
          case rel => exact ⟨P, T, l, pa, ta, pc, tc, by omega, rfl, rfl, hF, HS⟩
      case rest =>
        obtain ⟨P', T', l', pa', ta', pc', tc', hP', rfl, rfl, hF', HS'⟩ := hcut
        clear hF HS hv hd
        have hlm := hF'.ring.le
        have hPl : P'.length = T'.length + l'.length := by have := congrArg List.length HS'.out; simpa using this
        have g1 : decide ((P'.length : Int) < (T'.length : Int)) = false := by simp; omega
        have g1' : ¬ (P'.length : Int) < (T'.length : Int) := by omega
        have g2 : ((l'.length : Int) != (P'.length : Int) - (T'.length : Int)) = false := by simp; omega
        have g3 : decide ((m : Int) < (l'.length : Int)) = false := by simp; omega
        have g1n : decide (P'.length < T'.length) = false := by simp; omega
        have g3n : decide (m < l'.length) = false := by simp; omega
        have hwr : IntKind.i64.wrap ((P'.length : Int) - (T'.length : Int)) = (l'.length : Int) := by rw [IntKind.wrap_i64]; omega
        have g2w : ((l'.length : Int) != IntKind.i64.wrap ((P'.length : Int) - (T'.length : Int))) = false := by rw [hwr]; simp
        have hPL := Lib.hid hPl
        clear hPl
        go_wp2_with fail
        have hD0 : Below wc.heap.size wc wc.drew := (Below.refl _ _).drew
        have hrT : RowI wc (.slice ta' T'.length tc') T' := RowI.of_owns hF'.took
        cases pa' with
        | none =>
          obtain ⟨rfl, rfl⟩ : P' = [] ∧ pc' = 0 := by
            rcases hF'.puts.2 with ⟨h, h0⟩ | ⟨g, cap, cur, h, _⟩
            · simp at h; exact ⟨List.length_eq_zero_iff.mp h0, h.2⟩
            · simp at h
          obtain ⟨rfl, rfl⟩ : T' = [] ∧ l' = [] := by
            have := HS'.out.symm
            simpa using this
          clear g1 g1n g1' g2 g3 g3n hwr g2w hPL
          have hwr0 : IntKind.i64.wrap ((0 : Int) - 0) = 0 := by rw [IntKind.wrap_i64]; omega
          have hwr1 : IntKind.i64.wrap (0 : Int) = 0 := by rw [IntKind.wrap_i64]; omega
          simp only [List.length_nil] at hrT hF' ⊢
          have hr1 : RowI wc (.slice none 0 0) [] := .inl ⟨rfl, _, _, rfl⟩
          go_region_held3 (fun w' => Below wc.heap.size wc w')
              (first | exact hD0 | assumption | exact below_next hD0 hbs | exact below_next (below_next hD0 hbs) hbl | exact below_next (below_next (below_next hD0 hbs) hbl) hbt)
              ((first
                | (go_at_call 16; refine (len_ring (B := B) (m := m) (l := []) _ ?_).mono ?_; (exact hF'.ring.below (by assumption)); rintro e w' ⟨rfl, rfl⟩)
                | (go_at_call 17; refine (cap_ring (B := B) (m := m) (l := []) _ ?_).mono ?_; (exact hF'.ring.below (by assumption)); rintro e w' ⟨rfl, rfl⟩)
                | (go_at_call 19; refine (list_ring (B := B) (m := m) (ys := []) _ ?_).mono ?_; (exact hF'.ring.below (below_next hD0 hbs)); rintro e wl ⟨vl, rfl, hown, hbl⟩)
                | (go_at_call 18; have hzz := hown; refine (same_yes vl (.slice none 0 0) [] _ ?_ ?_ ?_).mono ?_; (exact RowI.of_owns hzz); (exact .inl ⟨rfl, _, _, rfl⟩); (simp); rintro e wt ⟨rfl, hbt⟩)
                | (go_at_call 18; refine (same_yes (.slice ta' 0 tc') (.slice none 0 0) [] _ ?_ ?_ ?_).mono ?_; (exact hrT.below hD0); (exact hr1.below hD0); (simp); rintro e ws ⟨rfl, hbs⟩)
                ))
          have hF3 := hF'.later (below_next (below_next (below_next hD0 hbs) hbl) hbt)
          clear hF' hD0 hbs hbl hbt hr1 hrT hown hzz hwr0 hwr1
          go_wp2_with fail
          go_roundw
          case rel => exact ⟨k + 1, [], [], [], none, ta', 0, tc', by omega, by simp, by go_num, rfl, rfl, hF3, HS'⟩
          case measure => simp [intOf]; omega
        | some ad =>
          obtain ⟨g, rfl⟩ : ∃ g, ad = ⟨g, 0, none⟩ := by
            rcases hF'.puts.2 with ⟨h, _⟩ | ⟨g, cap, cur, h, _⟩
            · simp at h
            · simp at h; exact ⟨g, h.1⟩
          have hpc : P'.length ≤ pc' := by
            rcases hF'.puts.2 with ⟨h, _⟩ | ⟨g, cap, cur, h, _, _, hc, _⟩
            · simp at h
            · simp at h; omega
          have g4 : (T'.length : Int) ≤ (P'.length : Int) := by omega
          have g5 : (P'.length : Int) ≤ (pc' : Int) := by omega
          have g6 : (T'.length : Int) ≤ (pc' : Int) := by omega
          by_cases hc0 : pc' = T'.length
          · subst hc0
            obtain rfl : l' = [] := List.length_eq_zero_iff.mp (by have := hPL.out; omega)
            obtain rfl : P' = T' := by simpa using HS'.out
            have hr1 : RowI wc (.slice (some ⟨g, 0, none⟩) P'.length P'.length) P' := RowI.of_owns hF'.puts
            clear g1 g1n g1' g2 g3 g3n hwr g2w hPL g4 g5 g6
            have hwr0 : IntKind.i64.wrap ((P'.length : Int) - (P'.length : Int)) = 0 := by rw [IntKind.wrap_i64]; omega
            have hwr1 : IntKind.i64.wrap (0 : Int) = 0 := by rw [IntKind.wrap_i64]; omega
            have hwr2 : ((0 : Int) != IntKind.i64.wrap ((P'.length : Int) - (P'.length : Int))) = false := by rw [hwr0]; rfl
            go_region_held3 (fun w' => Below wc.heap.size wc w')
              (first | exact hD0 | assumption | exact below_next hD0 hbs | exact below_next (below_next hD0 hbs) hbl | exact below_next (below_next (below_next hD0 hbs) hbl) hbt)
              ((first
                | (go_at_call 16; refine (len_ring (B := B) (m := m) (l := []) _ ?_).mono ?_; (exact hF'.ring.below (by assumption)); rintro e w' ⟨rfl, rfl⟩)
                | (go_at_call 17; refine (cap_ring (B := B) (m := m) (l := []) _ ?_).mono ?_; (exact hF'.ring.below (by assumption)); rintro e w' ⟨rfl, rfl⟩)
                | (go_at_call 19; refine (list_ring (B := B) (m := m) (ys := []) _ ?_).mono ?_; (exact hF'.ring.below (below_next hD0 hbs)); rintro e wl ⟨vl, rfl, hown, hbl⟩)
                | (go_at_call 18; have hzz := hown; refine (same_yes vl (.slice (some ⟨g, 0, none⟩) 0 0) [] _ ?_ ?_ ?_).mono ?_; (exact RowI.of_owns hzz); (exact .inl ⟨rfl, _, _, rfl⟩); (simp); rintro e wt ⟨rfl, hbt⟩)
                | (go_at_call 18; refine (same_yes (.slice ta' P'.length tc') (.slice (some ⟨g, 0, none⟩) P'.length P'.length) P' _ ?_ ?_ ?_).mono ?_; (exact hrT.below hD0); (exact hr1.below hD0); (omega); rintro e ws ⟨rfl, hbs⟩)
                ))
            have hF3 := hF'.later (below_next (below_next (below_next hD0 hbs) hbl) hbt)
            clear hF' hD0 hbs hbl hbt hr1 hrT hown hzz hwr0 hwr1 hwr2
            go_wp2_with fail
            go_roundw
            case rel => exact ⟨k + 1, P', P', [], _, ta', P'.length, tc', by omega, hP', by go_num, rfl, rfl, hF3, HS'⟩
            case measure => simp [intOf]; omega
          · have g7 : ¬ pc' - T'.length = 0 := by omega
            have g8 : ¬ pc' ≤ T'.length := by omega
            have g9 : ¬ (pc' : Int) = (T'.length : Int) := by omega
            obtain ⟨hr1, hr2⟩ := rows_split HS'.out hF'.puts
            have hr3 : RowI wc (.slice (some ⟨g, T'.length, none⟩) (P'.length - T'.length) (pc' - T'.length)) l' := by
              rw [show P'.length - T'.length = l'.length by have := hPL.out; omega]; exact hr2 _
            clear hr2
            go_region_held3 (fun w' => Below wc.heap.size wc w')
              (first | exact hD0 | assumption | exact below_next hD0 hbs | exact below_next (below_next hD0 hbs) hbl | exact below_next (below_next (below_next hD0 hbs) hbl) hbt)
              ((first
                | (go_at_call 16; refine (len_ring (B := B) (m := m) (l := l') _ ?_).mono ?_; (exact hF'.ring.below (by assumption)); rintro e w' ⟨rfl, rfl⟩)
                | (go_at_call 17; refine (cap_ring (B := B) (m := m) (l := l') _ ?_).mono ?_; (exact hF'.ring.below (by assumption)); rintro e w' ⟨rfl, rfl⟩)
                | (go_at_call 19; refine (list_ring (B := B) (m := m) (ys := l') _ ?_).mono ?_; (exact hF'.ring.below (below_next hD0 hbs)); rintro e wl ⟨vl, rfl, hown, hbl⟩)
                | (go_at_call 18; have hzz := hown; refine (same_yes vl (.slice (some ⟨g, T'.length, none⟩) (P'.length - T'.length) (pc' - T'.length)) l' _ ?_ ?_ ?_).mono ?_; (exact RowI.of_owns hzz); (exact hr3.below (below_next (below_next hD0 hbs) hbl)); (omega); rintro e wt ⟨rfl, hbt⟩)
                | (go_at_call 18; refine (same_yes (.slice ta' T'.length tc') _ T' _ ?_ ?_ ?_).mono ?_; (exact hrT.below hD0); (exact hr1.below hD0); (omega); rintro e ws ⟨rfl, hbs⟩)
                ))
            have hF3 : Mem w wt B m (.slice (some ⟨g, 0, none⟩) P'.length pc') (.slice ta' T'.length tc') P' T' l' := hF'.later (below_next (below_next (below_next hD0 hbs) hbl) hbt)
            clear hF' hD0 hbs hbl hbt hr1 hr3 hrT hown hzz hwr g2w
            go_wp2_with fail
            go_roundw
            case rel => exact ⟨k + 1, P', T', l', _, ta', pc', tc', by omega, hP', by go_num, rfl, rfl, hF3, HS'⟩
            case measure => simp [intOf]; omega
    · obtain rfl : k = ss.length := by omega
      have hlt' : ¬ (ss.length : Int) < (ss.length : Int) := by omega
      have hBl := hF.below
      clear hc hF HS
      go_wp2_with fail
      refine (alive_any _).mono ?_
      rintro e wz ⟨rfl, hbz⟩
      have hB := below_next hBl hbz
      clear hBl hbz
      go_wp2_with fail
      go_ret
      exact ⟨rfl, hB⟩
end Go.Proofs.Ytpkpjogpkigmlaa
