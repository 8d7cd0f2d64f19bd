/-
  The walk of the law SchedPlays.
-/
import Derived.Test.YtfdinodcbeipcaaZPlaysM
namespace Go.Proofs.Ytfdinodcbeipcaa
open Go.RowKit

set_option maxRecDepth 100000 in
set_option maxHeartbeats 400000 in
theorem plays_big (most : Int) (a : Option Addr) (n cap : Nat) (w : World) (hn : 200 < n) :
    Calls Try.prog 3 #[.int .i64 most, .slice a n cap] w fun e w' => e = .returned (.bool true) ∧ Below w.heap.size w w' := by
  have hl2 : (200 : Int) < (n : Int) := by omega
  have hl3 : decide ((200 : Int) < (n : Int)) = true := by simpa using hl2
  go_enter Try.func3, Try.ntmps3
  go_wp2_with fail
  refine (alive_any _).mono ?_
  rintro e w1 ⟨rfl, hb⟩
  go_wp2_with fail
  go_ret
  exact ⟨rfl, hb⟩
set_option maxRecDepth 100000 in
set_option maxHeartbeats 400000 in
theorem plays_bad (most : Int) (hm : most < 1 ∨ 32 < most) (a : Option Addr) (n cap : Nat) (w : World) (hn : n ≤ 200) :
    Calls Try.prog 3 #[.int .i64 most, .slice a n cap] w fun e w' => e = .returned (.bool true) ∧ Below w.heap.size w w' := by
  have hl2 : ¬ (200 : Int) < (n : Int) := by omega
  have hl3 : decide ((200 : Int) < (n : Int)) = false := by simpa using hl2
  have hbad := fun w => znew_bad most w hm
  have key : (decide (most < 1) = true) ∨ (decide (most < 1) = false ∧ decide (32 < most) = true) := by
    rcases hm with hm | hm
    · exact .inl (decide_eq_true hm)
    · by_cases h : most < 1
      · exact .inl (decide_eq_true h)
      · exact .inr ⟨decide_eq_false h, decide_eq_true hm⟩
  rcases key with t1 | ⟨t1, t2⟩
  · go_enter Try.func3, Try.ntmps3
    go_wp2_with fail
    refine (nothing_any _).mono ?_
    rintro e w1 ⟨rfl, hb1⟩
    go_wp2_with fail
    refine (hbad _).mono ?_
    rintro e w1 ⟨rfl, rfl⟩
    go_wp2_with fail
    refine (alive_any _).mono ?_
    rintro e w2 ⟨rfl, hb2⟩
    have hb := below_next hb1 hb2
    clear hb1 hb2 hbad
    go_wp2_with fail
    go_ret
    exact ⟨rfl, hb⟩
  · go_enter Try.func3, Try.ntmps3
    go_wp2_with fail
    refine (nothing_any _).mono ?_
    rintro e w1 ⟨rfl, hb1⟩
    go_wp2_with fail
    refine (hbad _).mono ?_
    rintro e w1 ⟨rfl, rfl⟩
    go_wp2_with fail
    refine (alive_any _).mono ?_
    rintro e w2 ⟨rfl, hb2⟩
    have hb := below_next hb1 hb2
    clear hb1 hb2 hbad
    go_wp2_with fail
    go_ret
    exact ⟨rfl, hb⟩

set_option maxRecDepth 100000 in
set_option maxHeartbeats 6400000 in
theorem plays_loop (m : Nat) (hm0 : 1 ≤ m) (hm1 : m ≤ 32) (a : Option Addr) (cap : Nat) (ss : List (Int × Int)) (w : World) (hl : ss.length ≤ 200) (hs : Steps w (.slice a ss.length cap) ss) :
    Calls Try.prog 3 #[.int .i64 (m : Int), .slice a ss.length cap] w fun e w' => e = .returned (.bool true) ∧ Below w.heap.size w w' := by
  have hl2 : ¬ (200 : Int) < (ss.length : Int) := by omega
  have hl3 : decide ((200 : Int) < (ss.length : Int)) = false := by simpa using hl2
  have t0 : ¬ (m : Int) < 1 := by omega
  have t1 : decide ((m : Int) < 1) = false := decide_eq_false t0
  have t2 : ¬ (32 : Int) < (m : Int) := by omega
  have t3 : decide ((32 : Int) < (m : Int)) = false := decide_eq_false t2
  go_enter Try.func3, Try.ntmps3
  go_wp2_with fail
  refine (nothing_any _).mono ?_
  rintro e w1 ⟨rfl, hb1⟩
  go_wp2_with fail
  refine (w_new (w0 := w) m _ hm0 hm1 (But.of_below hb1 [])).mono ?_
  rintro e w2 ⟨S, F, rfl, hQ⟩
  have hbr : But [] w2 (w2.alloc (.cells #[.int .i64 (m : Int), .slice none 0 0, .int .i64 0, .int .i64 0, .int .i64 0] 31)) := (But.refl _ _).alloc _
  have hD : Duel w (w2.alloc (.cells #[.int .i64 (m : Int), .slice none 0 0, .int .i64 0, .int .i64 0, .int .i64 0] 31)) S F w2.heap.size (Ss.new m) :=
    ⟨hQ.fresh hbr, ⟨_, World.alloc_heap_new w2 _, World.ownsRow_nil _ _ _ _⟩, hQ.but.size⟩
  clear hQ hb1 hbr hl2 hl3
  go_wp2_with fail
  generalize w2.heap.size = R at hD ⊢
  clear t0 t1 t2 t3
  go_loopw [5, 8] (fun pv iv wr => ∃ (j S F : Nat) (s : Ss), j ≤ ss.length ∧ iv = .int .i64 (j : Int) ∧ pv = ptrO S ∧ Duel w wr S F R s ∧ s.busy ≤ j) (fun _ iv _ => ss.length - (intOf iv).toNat)
  case atStart => exact ⟨0, S, F, _, Nat.zero_le _, rfl, rfl, hD, Nat.le_refl _⟩
  case round =>
    clear hD
    obtain ⟨j, S, F, s, hj, rfl, rfl, hD, hbu⟩ := hrel
    by_cases hlt : j < ss.length
    · have hlt' : (j : Int) < (ss.length : Int) := by omega
      have j0 : (0 : Int) ≤ (j : Int) := by omega
      obtain ⟨b, off, d, v, rfl, hd, hv, hdb, hvb⟩ := hs.at hlt
      clear hs
      have x0 := hd wr hD.below
      have x1 := hv wr hD.below
      go_upto_region 15 with fail
      iterate 19 go_step
      clear x0 hd
      go_cut [5, 9] from 65 to 161 (fun pv bv wx => ∃ (S F : Nat) (t : Ss), pv = ptrO S ∧ bv = .bool true ∧ Duel w wx S F R t ∧ t.busy ≤ j + 1)
      case first =>
        by_cases e0 : d = 0
        · subst e0
          obtain ⟨x, e, t, h1, h2, hbt⟩ := d_make hD
          have xx : (x == x) = true := by simp
          have ee : (e == e) = true := by simp
          clear hD
          go_wp2_with fail
          refine h1.mono ?_
          rintro e9 wa ⟨rfl, hA⟩
          have h3 := h2 _ hA
          clear h1 h2 hA
          go_wp2_with fail
          refine h3.mono ?_
          rintro e9 wb ⟨rfl, hB⟩
          clear h3
          go_wp2_with fail
          go_meet
          case rel => exact ⟨S, F, t, rfl, rfl, hB, by omega⟩
        by_cases e1 : d = 1
        · subst e1
          obtain ⟨x, e, t, h1, h2, hbt⟩ := d_next hD (by omega)
          have xx : (x == x) = true := by simp
          have ee : (e == e) = true := by simp
          clear hD
          go_wp2_with fail
          refine h1.mono ?_
          rintro e9 wa ⟨rfl, hA⟩
          have h3 := h2 _ hA
          clear h1 h2 hA
          go_wp2_with fail
          refine h3.mono ?_
          rintro e9 wb ⟨rfl, hB⟩
          clear h3
          go_wp2_with fail
          go_meet
          case rel => exact ⟨S, F, t, rfl, rfl, hB, by omega⟩
        by_cases e2 : d = 2
        · subst e2
          obtain ⟨e, t, h1, h2, hbt⟩ := d_push v hD.drew
          have ee : (e == e) = true := by simp
          clear hD
          go_wp2_with fail
          go_region_held3 (fun w' => w'.cell? ⟨b, off + j * 2 + 1, none⟩ = some (.int .i64 v)) (first | go_keep | (exact hv _ hA.below) | (exact hv _ hB.below)) ((with_reducible first | (go_at_call 13; refine h1.mono ?_; rintro e9 wa ⟨rfl, hA⟩) | (go_at_call 14; refine (h2 _ hA).mono ?_; rintro e9 wb ⟨rfl, hB⟩)))
          all_goals go_wp2_with fail
          all_goals go_meet
          all_goals exact ⟨S, F, t, rfl, rfl, hB, by omega⟩
        by_cases e3 : d = 3
        · subst e3
          obtain ⟨e, t, h1, h2, hbt⟩ := d_back v hD.drew
          have ee : (e == e) = true := by simp
          clear hD
          go_wp2_with fail
          go_region_held3 (fun w' => w'.cell? ⟨b, off + j * 2 + 1, none⟩ = some (.int .i64 v)) (first | go_keep | (exact hv _ hA.below) | (exact hv _ hB.below)) ((with_reducible first | (go_at_call 15; refine h1.mono ?_; rintro e9 wa ⟨rfl, hA⟩) | (go_at_call 16; refine (h2 _ hA).mono ?_; rintro e9 wb ⟨rfl, hB⟩)))
          all_goals go_wp2_with fail
          all_goals go_meet
          all_goals exact ⟨S, F, t, rfl, rfl, hB, by omega⟩
        by_cases e4 : d = 4
        · subst e4
          obtain ⟨e, t, h1, h2, hbt⟩ := d_leave hD
          have ee : (e == e) = true := by simp
          clear hD
          go_wp2_with fail
          refine h1.mono ?_
          rintro e9 wa ⟨rfl, hA⟩
          have h3 := h2 _ hA
          clear h1 h2 hA
          go_wp2_with fail
          refine h3.mono ?_
          rintro e9 wb ⟨rfl, hB⟩
          clear h3
          go_wp2_with fail
          go_meet
          case rel => exact ⟨S, F, t, rfl, rfl, hB, by omega⟩
        by_cases e5 : d = 5
        · subst e5
          obtain ⟨e, t, h1, h2, hbt⟩ := d_end hD
          have ee : (e == e) = true := by simp
          clear hD
          go_wp2_with fail
          refine h1.mono ?_
          rintro e9 wa ⟨rfl, hA⟩
          have h3 := h2 _ hA
          clear h1 h2 hA
          go_wp2_with fail
          refine h3.mono ?_
          rintro e9 wb ⟨rfl, hB⟩
          clear h3
          go_wp2_with fail
          go_meet
          case rel => exact ⟨S, F, t, rfl, rfl, hB, by omega⟩
        by_cases e6 : d = 6
        · subst e6
          have h1 := d_copy hD
          clear hD
          go_wp2_with fail
          refine h1.mono ?_
          rintro e9 wa ⟨S', F', rfl, hT⟩
          obtain ⟨x, e, h2⟩ := t_make hT
          clear h1 hT
          go_wp2_with fail
          refine h2.mono ?_
          rintro e9 wb ⟨rfl, hT⟩
          obtain ⟨x', e', h3⟩ := t_next hT (by rw [make_busy]; omega)
          clear h2 hT
          go_wp2_with fail
          refine h3.mono ?_
          rintro e9 wc ⟨rfl, hB⟩
          clear h3
          go_wp2_with fail
          go_meet
          case rel => exact ⟨S', F', s, rfl, rfl, hB, by omega⟩
        · have n0 : (d == 0) = false := by simpa using e0
          have n1 : (d == 1) = false := by simpa using e1
          have n2 : (d == 2) = false := by simpa using e2
          have n3 : (d == 3) = false := by simpa using e3
          have n4 : (d == 4) = false := by simpa using e4
          have n5 : (d == 5) = false := by simpa using e5
          have n6 : (d == 6) = false := by simpa using e6
          go_wp2_with fail
          go_meet
          case rel => exact ⟨S, F, s, rfl, rfl, hD, by omega⟩
      case rest =>
        obtain ⟨S', F', t, rfl, rfl, hDt, hbt⟩ := hcut
        clear hD hbu
        obtain ⟨c0, c2, c3, c4⟩ := hDt.ref.cells
        obtain ⟨sv, c1, hown⟩ := hDt.ref.rowAt
        have hrl := RowI.of_owns (ownsRow_low hown)
        obtain ⟨lp, lc, rfl⟩ := hrl.slice
        have hRl := hDt.ref.lt
        have q2 : ((t.made : Int) != (t.made : Int)) = false := by simp
        have q3 : ((t.live : Int) != (t.live : Int)) = false := by simp
        have q4 : ((t.busy : Int) != (t.busy : Int)) = false := by simp
        have hlen := hDt.len
        have hk : ∀ W, Below wc.heap.size wc W → W.cell? ⟨R, 1, none⟩ = some (.slice lp t.l.length lc) ∧ W.cell? ⟨R, 2, none⟩ = some (.int .i64 (t.made : Int)) ∧ W.cell? ⟨R, 3, none⟩ = some (.int .i64 (t.live : Int)) ∧ W.cell? ⟨R, 4, none⟩ = some (.int .i64 (t.busy : Int)) ∧ Below wc.heap.size wc W := fun W hW =>
          ⟨(hW.cell (p := ⟨R, 1, none⟩) hRl).trans c1, (hW.cell (p := ⟨R, 2, none⟩) hRl).trans c2, (hW.cell (p := ⟨R, 3, none⟩) hRl).trans c3, (hW.cell (p := ⟨R, 4, none⟩) hRl).trans c4, hW⟩
        have bl : ∀ {W W' : World}, Below wc.heap.size wc W → But [] W W' → Below wc.heap.size wc W' := fun hW hb => below_next hW (hb.below (Nat.le_refl _) (by simp))
        have hmade : ∀ W, Below wc.heap.size wc W → Calls Try.prog 22 #[ptrO S'] W fun e w' => e = .returned (.int .i64 (t.made : Int)) ∧ Below wc.heap.size wc w' := fun W hW =>
          (zmade_any W (hDt.mine.scd.later hW)).mono fun _ _ ⟨h1, h2⟩ => ⟨h1, bl hW h2⟩
        have hlive : ∀ W, Below wc.heap.size wc W → Calls Try.prog 23 #[ptrO S'] W fun e w' => e = .returned (.int .i64 (t.live : Int)) ∧ Below wc.heap.size wc w' := fun W hW =>
          (zlive_any W (hDt.mine.scd.later hW)).mono fun _ _ ⟨h1, h2⟩ => ⟨h1, bl hW h2⟩
        have hbusy : ∀ W, Below wc.heap.size wc W → Calls Try.prog 24 #[ptrO S'] W fun e w' => e = .returned (.int .i64 (t.busy : Int)) ∧ Below wc.heap.size wc w' := fun W hW =>
          (zbusy_any W (hDt.mine.scd.later hW)).mono fun _ _ ⟨h1, h2⟩ => ⟨h1, bl hW h2⟩
        have hlist : ∀ W, Below wc.heap.size wc W → Calls Try.prog 26 #[ptrO S'] W fun e w' => ∃ v, e = .returned v ∧ RowI w' v t.l ∧ Below wc.heap.size wc w' := fun W hW => by
          refine (zlist_any W (hDt.mine.scd.later hW)).mono ?_
          rintro e w' ⟨v, rfl, ho, hb⟩
          exact ⟨v, rfl, RowI.of_owns ho, bl hW hb⟩
        have hsame : ∀ W v, Below wc.heap.size wc W → RowI W v t.l → Calls Try.prog 25 #[v, .slice lp t.l.length lc] W fun e w' => e = .returned (.bool true) ∧ Below wc.heap.size wc w' := fun W v hW hv => by
          have := same_any v _ t.l t.l W hv (hrl.below hW) (by omega) (by omega)
          simp only [decide_true] at this
          exact this.mono fun e w' ⟨h1, h2⟩ => ⟨h1, below_next hW h2⟩
        have hD0 : Below wc.heap.size wc wc.drew := (Below.refl _ _).drew
        have HD := Lib.hid hDt
        clear hDt hown hrl hRl bl c0 x1 hv
        go_wp2_with fail
        go_region_held3 (fun w' => w'.cell? ⟨R, 1, none⟩ = some (.slice lp t.l.length lc) ∧ w'.cell? ⟨R, 2, none⟩ = some (.int .i64 (t.made : Int)) ∧ w'.cell? ⟨R, 3, none⟩ = some (.int .i64 (t.live : Int)) ∧ w'.cell? ⟨R, 4, none⟩ = some (.int .i64 (t.busy : Int)) ∧ Below wc.heap.size wc w')
          (exact hk _ (by assumption))
          ((with_reducible first
            | (go_at_call 22; refine (hmade _ (by assumption)).mono ?_; rintro e w3 ⟨rfl, hb1⟩)
            | (go_at_call 23; refine (hlive _ (by assumption)).mono ?_; rintro e w4 ⟨rfl, hb2⟩)
            | (go_at_call 24; refine (hbusy _ (by assumption)).mono ?_; rintro e w5 ⟨rfl, hb3⟩)
            | (go_at_call 26; refine (hlist _ (by assumption)).mono ?_; rintro e wl ⟨lv, rfl, hrow, hb4⟩)
            | (go_at_call 25; refine (hsame _ _ (by assumption) (by assumption)).mono ?_; rintro e ws ⟨rfl, hb5⟩)))
        have hDe := HD.out.later hb5
        clear hmade hlive hbusy hlist hsame hk hb1 hb2 hb3 hb4 hb5 hD0 HD q2 q3 q4
        go_wp2_with fail
        go_roundw
        case rel => exact ⟨j + 1, S', F', t, by omega, by go_num, rfl, hDe, hbt⟩
        case measure => simp [intOf]; omega
    · obtain rfl : j = ss.length := by omega
      have hlt' : ¬ (ss.length : Int) < (ss.length : Int) := by omega
      have hBl := hD.below
      clear hs hD
      go_wp2_with fail
      refine (alive_any _).mono ?_
      rintro e wz ⟨rfl, hbz⟩
      have hB' := hBl.trans (hbz.mono hBl.size)
      clear hBl hbz
      go_wp2_with fail
      go_ret
      exact ⟨rfl, hB'⟩
theorem plays_any (most : Int) (v : Value) (ss : List (Int × Int)) (w : World) (hs : Steps w v ss) :
    Calls Try.prog 3 #[.int .i64 most, v] w fun e w' => e = .returned (.bool true) ∧ Below w.heap.size w w' := by
  obtain ⟨a, c, rfl⟩ := hs.slice
  by_cases hn : 200 < ss.length
  · exact plays_big most a _ c w hn
  · by_cases hm : most < 1 ∨ 32 < most
    · exact plays_bad most hm a _ c w (by omega)
    · obtain ⟨m, rfl⟩ : ∃ m : Nat, most = (m : Int) := ⟨most.toNat, by omega⟩
      exact plays_loop m (by omega) (by omega) a c ss w (by omega) hs
end Go.Proofs.Ytfdinodcbeipcaa
