/-
  The walk of the law FifoPlays.
-/
import Derived.Test.YtcllnblmcdgkiaaFPlaysM
namespace Go.Proofs.Ytcllnblmcdgkiaa
open Go.RowKit

set_option maxRecDepth 100000 in
set_option maxHeartbeats 400000 in
theorem plays_big (most : Int) (a : Option Addr) (n cap : Nat) (k : Int) (w : World) (hn : 300 < n) :
    Calls Try.prog 3 #[.int .i64 most, .slice a n cap, .int .i64 k] w fun e w' => e = .returned (.bool true) ∧ Below w.heap.size w w' := by
  have hl2 : (300 : Int) < (n : Int) := by omega
  go_enter Try.func3, Try.ntmps3
  go_wp2_with fail
  refine (alive_any _).mono ?_
  rintro e w1 ⟨rfl, hb⟩
  go_wp2_with fail
  go_ret
  exact ⟨rfl, hb⟩
set_option maxRecDepth 100000 in
set_option maxHeartbeats 400000 in
theorem plays_bad (most : Int) (hm : most < 1 ∨ 32 < most) (a : Option Addr) (n cap : Nat) (k : Int) (w : World) (hn : n ≤ 300) :
    Calls Try.prog 3 #[.int .i64 most, .slice a n cap, .int .i64 k] w fun e w' => e = .returned (.bool true) ∧ Below w.heap.size w w' := by
  have hl2 : ¬ (300 : Int) < (n : Int) := by omega
  have hbad := fun w => new_bad most w hm
  rcases hm with hm | hm
  · have t1 : decide (most < 1) = true := decide_eq_true hm
    go_enter Try.func3, Try.ntmps3
    go_wp2_with fail
    refine (nothing_any _).mono ?_
    rintro e w1 ⟨rfl, hb1⟩
    go_wp2_with fail
    refine (hbad _).mono ?_
    rintro e w1 ⟨rfl, rfl⟩
    go_wp2_with fail
    refine (alive_any _).mono ?_
    rintro e w2 ⟨rfl, hb2⟩
    have hb := below_next hb1 hb2
    clear hb1 hb2 hbad
    go_wp2_with fail
    go_ret
    exact ⟨rfl, hb⟩
  · have t0 : ¬ most < 1 := by omega
    have t1 : decide (most < 1) = false := decide_eq_false t0
    have t2 : decide (32 < most) = true := decide_eq_true hm
    go_enter Try.func3, Try.ntmps3
    go_wp2_with fail
    refine (nothing_any _).mono ?_
    rintro e w1 ⟨rfl, hb1⟩
    go_wp2_with fail
    refine (hbad _).mono ?_
    rintro e w1 ⟨rfl, rfl⟩
    go_wp2_with fail
    refine (alive_any _).mono ?_
    rintro e w2 ⟨rfl, hb2⟩
    have hb := below_next hb1 hb2
    clear hb1 hb2 hbad
    go_wp2_with fail
    go_ret
    exact ⟨rfl, hb⟩

set_option maxRecDepth 100000 in
set_option maxHeartbeats 6400000 in
theorem plays_loop (m : Nat) (hm0 : 1 ≤ m) (hm1 : m ≤ 32) (a : Option Addr) (cap : Nat) (k : Int) (ss : List (Int × Int)) (w : World) (hl : ss.length ≤ 300) (hs : Steps w (.slice a ss.length cap) ss) :
    Calls Try.prog 3 #[.int .i64 (m : Int), .slice a ss.length cap, .int .i64 k] w fun e w' => e = .returned (.bool true) ∧ Below w.heap.size w w' := by
  have hl2 : ¬ (300 : Int) < (ss.length : Int) := by omega
  have t0 : ¬ (m : Int) < 1 := by omega
  have t1 : decide ((m : Int) < 1) = false := decide_eq_false t0
  have t2 : ¬ (32 : Int) < (m : Int) := by omega
  have t3 : decide ((32 : Int) < (m : Int)) = false := decide_eq_false t2
  go_enter Try.func3, Try.ntmps3
  go_wp2_with fail
  refine (nothing_any _).mono ?_
  rintro e w1 ⟨rfl, hb1⟩
  go_wp2_with fail
  refine (m_new _ m hm0 hm1 (But.of_below hb1 [])).mono ?_
  rintro e w2 ⟨B, rfl, hQ, -, -⟩
  have hbr : But [] w2 (w2.alloc (.cells #[.int .i64 (m : Int), .slice none 0 0] 31)) := (But.refl _ _).alloc _
  have hD : Pair w (w2.alloc (.cells #[.int .i64 (m : Int), .slice none 0 0] 31)) B w2.heap.size m [] :=
    ⟨hQ.fresh hbr, ⟨_, World.alloc_heap_new w2 _, World.ownsRow_nil _ _ _ _⟩, hQ.but.size⟩
  clear hQ hb1 hbr hl2
  go_wp2_with fail
  generalize w2.heap.size = R at hD ⊢
  clear t0 t1 t2 t3
  go_loopw [7, 10] (fun pv iv wr => ∃ (j B : Nat) (xs : List Int), j ≤ ss.length ∧ iv = .int .i64 (j : Int) ∧ pv = .pointer (some ⟨B, 0, none⟩) ∧ Pair w wr B R m xs) (fun _ iv _ => ss.length - (intOf iv).toNat)
  case atStart => exact ⟨0, B, _, Nat.zero_le _, rfl, rfl, hD⟩
  case round =>
    clear hD
    obtain ⟨j, B, xs, hj, rfl, rfl, hD⟩ := hrel
    by_cases hlt : j < ss.length
    · have hlt' : (j : Int) < (ss.length : Int) := by omega
      have j0 : (0 : Int) ≤ (j : Int) := by omega
      obtain ⟨b, off, d, v, rfl, hb, hd, hv, hdb, hvb⟩ := hs.at hD.mine.below hlt
      clear hs
      go_upto_region 16 with fail
      iterate 10 go_step
      have hD1 : Pair w (wr.alloc (.cells #[.int .i64 d, .int .i64 v] 33)) B R m xs := hD.fresh ((But.refl [] wr).alloc _)
      obtain ⟨x0, x1⟩ := cell2' (World.alloc_heap_new wr (.cells #[.int .i64 d, .int .i64 v] 33))
      have hDB : B ≠ wr.heap.size := by have := hD.mine.fif.lt; omega
      have hDR : R ≠ wr.heap.size := by have := hD.ref.lt; omega
      have hDl : wr.heap.size < (wr.alloc (.cells #[.int .i64 d, .int .i64 v] 33)).heap.size := by simp
      clear hD hd hv
      generalize wr.alloc (.cells #[.int .i64 d, .int .i64 v] 33) = wy at *
      generalize wr.heap.size = D at *
      clear x0
      go_cut [7, 12] from 53 to 136 (fun pv bv wx => ∃ (B : Nat) (xs : List Int), pv = .pointer (some ⟨B, 0, none⟩) ∧ bv = .bool true ∧ Pair w wx B R m xs ∧ wx.cell? ⟨D, 1, none⟩ = some (.int .i64 v))
      case first =>
        have hxl := hD1.mine.fif.le
        have hnd := hD1.mine.fif.nd
        have hX1 : ∀ w1, But [B] wy.drew w1 → RefF w1 R m xs := fun w1 hg => hD1.drew.ref.row hD1.drew.mine.fif hg
        have hkB : ∀ {W W' : World}, But [B] W W' → W.cell? ⟨D, 1, none⟩ = some (.int .i64 v) → W'.cell? ⟨D, 1, none⟩ = some (.int .i64 v) := fun hg h => hg.keeps h (by simpa using hDB)
        have hkR : ∀ {W W' : World}, But [R] W W' → W.cell? ⟨D, 1, none⟩ = some (.int .i64 v) → W'.cell? ⟨D, 1, none⟩ = some (.int .i64 v) := fun hg h => hg.keeps h (by simpa using hDR)
        by_cases e0 : d = 0
        · subst e0
          obtain ⟨c, hc⟩ : ∃ c, c = pushE m xs v := ⟨_, rfl⟩
          have hrput : ∀ W, RefF W R m xs → Calls Try.prog 10 #[.pointer (some ⟨R, 0, none⟩), .int .i64 v] W fun e w' => e = .returned (.int .i64 c) ∧ RefF w' R m (pushX m xs v) ∧ But [R] W w' := fun W hW => by
            rw [hc]; exact rpush_any v W hW hxl hm1 hm0
          have hput := m_push v wy.drew hD1.drew.mine hc rfl
          have kk : (c == c) = true := by simp
          clear hc
          go_wp2_with fail
          go_region_held3 (fun w' => w'.cell? ⟨D, 1, none⟩ = some (.int .i64 v)) (first | go_keep | (exact hkB hg1 x1) | (exact hkR hg2 (hkB hg1 x1))) ((first | (go_at_call 9; refine hput.mono ?_; rintro e9 wa ⟨rfl, hM, hg1⟩) | (go_at_call 10; refine (hrput _ (hX1 _ hg1)).mono ?_; rintro e9 wb ⟨rfl, hN, hg2⟩)))
          all_goals go_wp2_with fail
          all_goals go_meet
          all_goals exact ⟨B, _, rfl, rfl, hD1.drew.step hM hg1 hN hg2, hkR hg2 (hkB hg1 x1)⟩
        by_cases e1 : d = 1
        · subst e1
          obtain ⟨c, hc⟩ : ∃ c, c = popE xs := ⟨_, rfl⟩
          obtain ⟨y, hy⟩ : ∃ y, y = xs.head?.getD 0 := ⟨_, rfl⟩
          have kk : (c == c) = true := by simp
          have yy : (y == y) = true := by simp
          go_wp2_with fail
          refine (m_pop _ hD1.mine hy hc rfl).mono ?_
          rintro e9 wa ⟨rfl, hM, hg1⟩
          have hR1 := hD1.ref.row hD1.mine.fif hg1
          have hrp := rpop_any wa hR1 (by omega)
          rw [← hc, ← hy] at hrp
          clear hc hy
          go_wp2_with fail
          refine hrp.mono ?_
          rintro e9 wb ⟨rfl, hN, hg2⟩
          have hD3 := hD1.step hM hg1 hN hg2
          have x3 := hkR hg2 (hkB hg1 x1)
          clear hD1 hM hg1 hN hg2 hrp hR1 hX1 x1 hkB hkR
          go_wp2_with fail
          go_meet
          case rel => exact ⟨B, _, rfl, rfl, hD3, x3⟩
        by_cases e2 : d = 2
        · subst e2
          obtain ⟨c, hc⟩ : ∃ c, c = dropE xs v := ⟨_, rfl⟩
          have hrd : ∀ W, RefF W R m xs → Calls Try.prog 14 #[.pointer (some ⟨R, 0, none⟩), .int .i64 v] W fun e w' => e = .returned (.int .i64 c) ∧ RefF w' R m (xs.erase v) ∧ But [R] W w' := fun W hW => by
            rw [hc]; exact rdrop_any v W hW hnd (by omega)
          have hdr := m_drop v wy.drew hD1.drew.mine hc rfl
          have kk : (c == c) = true := by simp
          clear hc
          go_wp2_with fail
          go_region_held3 (fun w' => w'.cell? ⟨D, 1, none⟩ = some (.int .i64 v)) (first | go_keep | (exact hkB hg1 x1) | (exact hkR hg2 (hkB hg1 x1))) ((first | (go_at_call 13; refine hdr.mono ?_; rintro e9 wa ⟨rfl, hM, hg1⟩) | (go_at_call 14; refine (hrd _ (hX1 _ hg1)).mono ?_; rintro e9 wb ⟨rfl, hN, hg2⟩)))
          all_goals go_wp2_with fail
          all_goals go_meet
          all_goals exact ⟨B, _, rfl, rfl, hD1.drew.step hM hg1 hN hg2, hkR hg2 (hkB hg1 x1)⟩
        by_cases e3 : d = 3
        · subst e3
          clear hX1 hkR
          go_wp2_with fail
          refine (m_copy _ hD1.mine).mono ?_
          rintro e9 wa ⟨B2, rfl, hM2, hB2, hg⟩
          have hltB := hD1.mine.fif.lt
          have x2 := hg.cell x1 (by simp)
          have hD2 := hD1.fresh hg
          clear hD1 hg x1
          go_wp2_with fail
          refine (m_pop _ hD2.mine rfl rfl rfl).mono ?_
          rintro e9 wb ⟨rfl, hM3, hg3⟩
          have hM4 := hM2.beside hg3 (by simp; omega) (by have := hD2.mine.own; simp; omega)
          have hR4 := hD2.ref.row hD2.mine.fif hg3
          have hoB := hD2.own
          have x4 := hkB hg3 x2
          clear hD2 hM2 hg3 x2
          go_wp2_with fail
          refine (m_push 31 _ hM3 rfl rfl).mono ?_
          rintro e9 wd ⟨rfl, hM5, hg5⟩
          have hM6 := hM4.beside hg5 (by simp; omega) (by have := hM3.own; simp; omega)
          have hR6 := hR4.row hM3.fif hg5
          have x6 := hkB hg5 x4
          clear hM3 hM4 hR4 hM5 hg5 x4 hkB
          go_wp2_with fail
          go_meet
          case rel => exact ⟨B2, xs, rfl, rfl, ⟨hM6, hR6, hoB⟩, x6⟩
        · clear hX1
          have e0' : (d == 0) = false := by simpa using e0
          have e1' : (d == 1) = false := by simpa using e1
          have e2' : (d == 2) = false := by simpa using e2
          have e3' : (d == 3) = false := by simpa using e3
          go_wp2_with fail
          go_meet
          case rel => exact ⟨B, xs, rfl, rfl, hD1, x1⟩
      case rest =>
        obtain ⟨B', xs', rfl, rfl, hD2, x2⟩ := hcut
        clear hD1 x1 hDB hDR hdb hvb hDl
        go_wp2_with fail
        refine (same_law k _ hD2.mine.fif hD2.ref).mono ?_
        rintro e9 w3 ⟨rfl, hb3⟩
        have hD3 := hD2.later hb3
        have x3 := (hb3.cell (p := ⟨D, 1, none⟩) (World.block_lt_of_cell? _ _ x2)).trans x2
        clear hD2 x2 hb3
        go_wp2_with fail
        refine (same_law v _ hD3.mine.fif hD3.ref).mono ?_
        rintro e9 w4 ⟨rfl, hb4⟩
        have hD4 := hD3.later hb4
        clear hD3 x3 hb4
        go_wp2_with fail
        go_roundw
        case rel => exact ⟨j + 1, B', xs', by omega, by go_num, rfl, hD4⟩
        case measure => simp [intOf]; omega
    · obtain rfl : j = ss.length := by omega
      have hlt' : ¬ (ss.length : Int) < (ss.length : Int) := by omega
      have hBl := hD.mine.below
      clear hs hD
      go_wp2_with fail
      refine (alive_any _).mono ?_
      rintro e wz ⟨rfl, hbz⟩
      have hB' := below_next hBl hbz
      clear hBl hbz
      go_wp2_with fail
      go_ret
      exact ⟨rfl, hB'⟩

theorem plays_any (most : Int) (v : Value) (k : Int) (ss : List (Int × Int)) (w : World) (hs : Steps w v ss) :
    Calls Try.prog 3 #[.int .i64 most, v, .int .i64 k] w fun e w' => e = .returned (.bool true) ∧ Below w.heap.size w w' := by
  obtain ⟨a, c, rfl⟩ := hs.slice
  by_cases hn : 300 < ss.length
  · exact plays_big most a _ c k w hn
  · by_cases hm : most < 1 ∨ 32 < most
    · exact plays_bad most hm a _ c k w (by omega)
    · obtain ⟨m, rfl⟩ : ∃ m : Nat, most = (m : Int) := ⟨most.toNat, by omega⟩
      exact plays_loop m (by omega) (by omega) a c k ss w (by omega) hs
end Go.Proofs.Ytcllnblmcdgkiaa
