/-
  The walk of the law RingPlays.
-/
import Derived.Deep.CutRange
import Derived.Deep.Light
import Derived.Deep.RegionHeld3
import Derived.Deep.DrawnRows
import Derived.Test.YtpkpjogpkigmlaaRAlive
namespace Go.Proofs.Ytpkpjogpkigmlaa
open Go.RowKit

/-- The slice value v reads as the steps ss. -/
def Steps (w : World) (v : Value) (ss : List (Int × Int)) : Prop :=
  (ss = [] ∧ ∃ a cap, v = .slice a 0 cap) ∨
  (∃ b off cap, v = .slice (some ⟨b, off, none⟩) ss.length cap ∧ 0 < ss.length ∧ b < w.heap.size ∧ ∀ j, j < ss.length → w.cell? ⟨b, off + j * 2, none⟩ = some (.int .i64 (ss[j]?.getD (0, 0)).1) ∧ w.cell? ⟨b, off + j * 2 + 1, none⟩ = some (.int .i64 (ss[j]?.getD (0, 0)).2))

/-- What stands at the head of a round. -/
def Both (w0 W : World) (B C m : Nat) (l : List Int) : Prop := Rng W B m l ∧ RefAt W C m l ∧ Below w0.heap.size w0 W ∧ w0.heap.size ≤ B ∧ w0.heap.size ≤ C

theorem Rng.le {W : World} {B m : Nat} {l : List Int} (h : Rng W B m l) : l.length ≤ m ∧ m ≤ 8 := by obtain ⟨_, _, _, _, _, h1, h2⟩ := h; exact ⟨h1, h2⟩
theorem Rng.drew {W : World} {B m : Nat} {l : List Int} (h : Rng W B m l) : Rng W.drew B m l := h
theorem Both.below {w0 W W' : World} {B C m : Nat} {l : List Int} (h : Both w0 W B C m l) (hb : Below W.heap.size W W') : Both w0 W' B C m l :=
  ⟨h.1.below hb, h.2.1.below hb, h.2.2.1.trans (hb.mono h.2.2.1.size), h.2.2.2⟩
theorem Both.drew {w0 W : World} {B C m : Nat} {l : List Int} (h : Both w0 W B C m l) : Both w0 W.drew B C m l := ⟨h.1.drew, h.2.1.drew, h.2.2.1.drew, h.2.2.2⟩
theorem same_yes (a b : Value) (xs : List Int) (w : World) (ha : RowI w a xs) (hb : RowI w b xs) (hxl : xs.length ≤ 1000) :
    Calls Try.prog 18 #[a, b] w fun e w' => e = .returned (.bool true) ∧ Below w.heap.size w w' := by
  have := same_any a b xs xs w ha hb (by omega) (by omega)
  simpa using this
theorem Both.step {w0 W W1 W2 : World} {B C m : Nat} {l l' : List Int} (h : Both w0 W B C m l) (hR1 : Rng W1 B m l') (hg1 : W.grownBy W1 (some B)) (hX2 : RefAt W2 C m l') (hg2 : W1.grownBy W2 (some C)) : Both w0 W2 B C m l' := by
  obtain ⟨hR, hX, hb, h5, h6⟩ := h
  have hb1 := below_own hb hg1 h5 hb.size
  exact ⟨hR1.kept hg2 (by simpa using hR.ne_ref hX), hX2, below_own hb1 hg2 h6 hb1.size, h5, h6⟩

set_option maxRecDepth 100000 in
set_option maxHeartbeats 2000000 in
theorem plays_loop (m : Nat) (hm : m ≤ 8) (b off cap : Nat) (ss : List (Int × Int)) (w : World) (hl : ss.length ≤ 300) (h0 : 0 < ss.length) (hb : b < w.heap.size)
    (hc : ∀ j, j < ss.length → w.cell? ⟨b, off + j * 2, none⟩ = some (.int .i64 (ss[j]?.getD (0, 0)).1) ∧ w.cell? ⟨b, off + j * 2 + 1, none⟩ = some (.int .i64 (ss[j]?.getD (0, 0)).2)) :
    Calls Try.prog 3 #[.int .i64 (m : Int), .slice (some ⟨b, off, none⟩) ss.length cap] w fun e w' => e = .returned (.bool true) ∧ Below w.heap.size w w' := by
  have hl1 : decide ((300 : Int) < (ss.length : Int)) = false := by simp; omega
  have hl2 : ¬ (300 : Int) < (ss.length : Int) := by omega
  have hm1 : ¬ (m : Int) < 0 := by omega
  have hm2 : ¬ (8 : Int) < (m : Int) := by omega
  have hnew := fun w => new_ok m w hm
  go_enter Try.func3, Try.ntmps3
  go_wp2_with fail
  refine (nothing_any _).mono ?_
  rintro e w1 ⟨rfl, hb1⟩
  go_wp2_with fail
  refine (hnew _).mono ?_
  rintro e w2 ⟨rfl, hR, hg⟩
  have hb2 : Below w.heap.size w w2 := hb1.grown hg hb1.size (fun _ e => by cases e)
  have hB := hb1.size
  obtain ⟨B, hBe⟩ : ∃ B, B = w1.heap.size := ⟨_, rfl⟩
  rw [← hBe] at hR hB ⊢
  clear hg hnew hb1 hBe
  obtain ⟨C, hCe⟩ : ∃ C, C = w2.heap.size := ⟨_, rfl⟩
  have hBoth : Both w (w2.alloc (.cells #[.int .i64 (m : Int), .slice none 0 0] 31)) B C m [] :=
    ⟨hR.kept (World.grownBy_alloc _ _ none) (by simp), ⟨_, by rw [hCe]; exact World.alloc_heap_new w2 _, World.ownsRow_nil _ _ _ _⟩, hb2.alloc hb2.size _, hB, by rw [hCe]; exact hb2.size⟩
  clear hR hb2 hB
  go_wp2_with fail
  rw [← hCe]
  clear hCe
  go_loopw [5, 8] (fun rv iv wr => ∃ (k B : Nat) (l : List Int), k ≤ ss.length ∧ iv = .int .i64 (k : Int) ∧ rv = .pointer (some ⟨B, 0, none⟩) ∧ Both w wr B C m l) (fun _ iv _ => ss.length - (intOf iv).toNat)
  case atStart => exact ⟨0, B, [], Nat.zero_le _, rfl, rfl, hBoth⟩
  case round =>
    clear hBoth
    obtain ⟨k, B, l, hk, rfl, rfl, hBo⟩ := hrel
    by_cases hlt : k < ss.length
    · have hlt' : (k : Int) < (ss.length : Int) := by omega
      have hBl := hBo.2.2.1
      have hd : wr.cell? ⟨b, off + k * 2, none⟩ = some (.int .i64 (ss[k]?.getD (0, 0)).1) := (hBl.cell (p := ⟨b, off + k * 2, none⟩) hb).trans (hc k hlt).1
      have hv : wr.cell? ⟨b, off + k * 2 + 1, none⟩ = some (.int .i64 (ss[k]?.getD (0, 0)).2) := (hBl.cell (p := ⟨b, off + k * 2 + 1, none⟩) hb).trans (hc k hlt).2
      obtain ⟨d, hde⟩ : ∃ d, (ss[k]?.getD (0, 0)).1 = d := ⟨_, rfl⟩
      obtain ⟨v, hve⟩ : ∃ v, (ss[k]?.getD (0, 0)).2 = v := ⟨_, rfl⟩
      rw [hde] at hd
      rw [hve] at hv
      clear hc hde hve hBl
      go_upto_region 15 with fail
      iterate 8 go_step
      have hBo1 : Both w (wr.alloc (.cells #[.int .i64 d, .int .i64 v] 33)) B C m l := hBo.below ((Below.refl _ _).alloc (Nat.le_refl _) _)
      obtain ⟨c0, c1, f0, f1⟩ := cell2 (World.alloc_heap_new wr (.cells #[.int .i64 d, .int .i64 v] 33))
      have hDB : B ≠ wr.heap.size := by have := hBo.1.lt; omega
      have hDB := hDB.symm
      have hDC : wr.heap.size ≠ C := by have := hBo.2.1.lt; omega
      clear hBo hd hv
      generalize wr.alloc (.cells #[.int .i64 d, .int .i64 v] 33) = wy at *
      generalize wr.heap.size = D at *
      clear f0 f1
      go_cut [5, 10] from 58 to 195 (fun rv bv wx => ∃ (B : Nat) (l : List Int), rv = .pointer (some ⟨B, 0, none⟩) ∧ bv = .bool true ∧ Both w wx B C m l)
      case first =>
        obtain ⟨hR, hX, hBw, h5, h6⟩ := id hBo1
        have hlm := hR.le
        by_cases e1 : d = 1
        · subst e1
          go_wp2_with fail
          refine (take_ring _ hR).mono ?_
          rintro e wa ⟨rfl, hR1, hg1⟩
          go_wp2_with fail
          refine (rtake_ring _ (hX.kept_ring hR hg1) (by omega)).mono ?_
          rintro e wb ⟨rfl, hX2, hg2⟩
          go_wp2_with fail
          go_meet
          case rel => exact ⟨B, l.tail, rfl, rfl, hBo1.step hR1 hg1 hX2 hg2⟩
        by_cases e0 : d = 0
        · subst e0
          go_wp2_with fail
          have hX1 : ∀ w1, Rng w1 B m (putL m l v) → wy.drew.grownBy w1 (some B) → RefAt w1 C m l := fun w1 _ hg => hX.drew.kept_ring hR.drew hg
          go_region_held3 (fun w' => w'.cell? ⟨D, 1, none⟩ = some (.int .i64 v)) (first | go_keep | (exact (World.grownBy.cell hg1 c1 (by simpa using hDB))) | (exact World.grownBy.cell hg2 (World.grownBy.cell hg1 c1 (by simpa using hDB)) (by simpa using hDC))) ((first | (go_at_call 8; refine (put_ring v _ hR.drew).mono ?_; rintro e wa ⟨rfl, hR1, hg1⟩) | (go_at_call 9; refine (rput_ring v _ (hX1 _ hR1 hg1) (by omega) (by omega)).mono ?_; rintro e wb ⟨rfl, hX2, hg2⟩)))
          all_goals go_wp2_with fail
          all_goals go_meet
          all_goals exact ⟨B, _, rfl, rfl, Both.step (W := wy.drew) hBo1.drew hR1 hg1 hX2 hg2⟩
        by_cases e2 : d = 2
        · subst e2
          go_wp2_with fail
          refine (swap_ring v _ hR).mono ?_
          rintro e wa ⟨rfl, hR1, hg1⟩
          have c1' := World.grownBy.cell hg1 c1 (by simpa using hDB)
          go_wp2_with fail
          refine (rswap_ring v _ (hX.kept_ring hR hg1) (by omega) (by omega)).mono ?_
          rintro e wb ⟨rfl, hX2, hg2⟩
          go_wp2_with fail
          go_meet
          case rel => exact ⟨B, _, rfl, rfl, hBo1.step hR1 hg1 hX2 hg2⟩
        by_cases e3 : d = 3
        · subst e3
          go_wp2_with fail
          refine (copy_ring _ hR).mono ?_
          rintro e wa ⟨rfl, hR1, hg1⟩
          have hB0 := hR.kept hg1 (by simp)
          have hX0 := hX.kept hg1 (fun _ _ _ _ e => by cases e)
          have hlt0 := hR.lt
          have hb0 : Below w.heap.size w wa := hBw.grown hg1 hBw.size (fun _ e => by cases e)
          have h7 : w.heap.size ≤ wy.heap.size := hBw.size
          obtain ⟨B', hB'⟩ : ∃ B', B' = wy.heap.size := ⟨_, rfl⟩
          rw [← hB'] at hR1 h7 hlt0 ⊢
          clear hg1 hB'
          go_wp2_with fail
          refine (take_ring _ hB0).mono ?_
          rintro e wb ⟨rfl, hRb, hgb⟩
          have hR2 := hR1.kept hgb (by simp; omega)
          have hX2 := hX0.kept_ring hB0 hgb
          have hb2 := below_own hb0 hgb h5 hb0.size
          clear hB0 hgb hR1 hX0 hb0
          go_wp2_with fail
          refine (put_ring 99 _ hRb).mono ?_
          rintro e wc ⟨rfl, hRc, hgc⟩
          have hR3 := hR2.kept hgc (by simp; omega)
          have hX3 := hX2.kept_ring hRb hgc
          have hb3 := below_own hb2 hgc h5 hb2.size
          clear hRb hgc hR2 hX2 hb2
          go_wp2_with fail
          go_meet
          case rel => exact ⟨B', l, rfl, rfl, hR3, hX3, hb3, h7, h6⟩
        · go_wp2_with fail
          go_meet
          case rel => exact ⟨B, l, rfl, rfl, hBo1⟩
      case rest =>
        obtain ⟨B', l', rfl, rfl, hBo'⟩ := hcut
        clear hBo1 c0 c1 hDB hDC
        have hlm := hBo'.1.le
        cases l' with
        | nil =>
          go_wp2_with fail
          refine (front_ring _ hBo'.1).mono ?_
          rintro e wf ⟨rfl, hbf⟩
          have hBo2 := hBo'.below hbf
          obtain ⟨sv, s1, s2⟩ := id hBo2.2.1
          obtain ⟨-, k1, -, -⟩ := cell2 s1
          obtain ⟨a, n, c, rfl⟩ := owns_slice s2
          obtain rfl : n = 0 := by rcases s2.2 with ⟨h, h'⟩ | ⟨g, cap, cur, h, _⟩ <;> simp at h <;> omega
          have hrx : RowI wf (.slice a 0 c) [] := RowI.of_owns s2
          have hCl := hBo2.2.1.lt
          clear hBo' hbf s1 s2
          simp only [List.head?_nil, Option.getD_none, Option.isSome_none]
          go_wp2_with fail
          have hD0 : Below wf.heap.size wf wf.drew := (Below.refl _ _).drew
          go_region_held3 (fun w' => w'.cell? ⟨C, 1, none⟩ = some (.slice a 0 c) ∧ Below wf.heap.size wf w')
            (refine ⟨?_, ?_⟩ <;> first | exact k1 | exact (Below.refl _ _).drew | assumption | exact below_next (by assumption) hbl | exact below_next (below_next hD0 hbl) hbs | exact (Below.cell (below_next hD0 hbl) (p := ⟨C, 1, none⟩) hCl).trans k1 | exact (Below.cell (below_next (below_next hD0 hbl) hbs) (p := ⟨C, 1, none⟩) hCl).trans k1)
            ((first
              | (go_at_call 16; refine (len_ring (B := B') (m := m) (l := []) _ ?_).mono ?_; (exact hBo2.1.below (by assumption)); rintro e w' ⟨rfl, rfl⟩)
              | (go_at_call 17; refine (cap_ring (B := B') (m := m) (l := []) _ ?_).mono ?_; (exact hBo2.1.below (by assumption)); rintro e w' ⟨rfl, rfl⟩)
              | (go_at_call 19; refine (list_ring (B := B') (m := m) (ys := []) _ ?_).mono ?_; (exact hBo2.1.below (by assumption)); rintro e wl ⟨v, rfl, hown, hbl⟩)
              | (go_at_call 18; refine (same_yes _ _ [] _ ?_ ?_ ?_).mono ?_; (exact RowI.of_owns hown); (exact hrx.below (below_next hD0 hbl)); (simp); rintro e ws ⟨rfl, hbs⟩)))
          have hBo3 := hBo2.below (below_next (below_next hD0 hbl) hbs)
          clear hBo2 hD0 hbl hbs hown hrx k1
          go_wp2_with fail
          go_roundw
          case rel => exact ⟨k + 1, B', [], by omega, by go_num, rfl, hBo3⟩
          case measure => simp [intOf]; omega
        | cons x t =>
          rw [List.length_cons] at hlm
          go_wp2_with fail
          refine (front_ring _ hBo'.1).mono ?_
          rintro e wf ⟨rfl, hbf⟩
          have hBo2 := hBo'.below hbf
          obtain ⟨sv, s1, s2⟩ := id hBo2.2.1
          obtain ⟨-, k1, -, -⟩ := cell2 s1
          rcases id s2.2 with ⟨_, h0'⟩ | ⟨g, cap0, cur, rfl, _⟩
          · simp at h0'
          have hrx : RowI wf (.slice (some ⟨g, 0, none⟩) (t.length + 1) cap0) (x :: t) := RowI.of_owns s2
          have hx0 : wf.cell? ⟨g, 0, none⟩ = some (.int .i64 x) := s2.cellAt 0 (by simp)
          have hCl := hBo2.2.1.lt
          rw [List.length_cons] at k1
          have hq1 : (0 : Int) < (t.length : Int) + 1 := by omega
          have hq2 : decide ((0 : Int) < (t.length : Int) + 1) = true := decide_eq_true hq1
          have hq3 : (true != decide ((0 : Int) < (t.length : Int) + 1)) = false := by rw [hq2]; rfl
          clear hBo' hbf s1 s2
          simp only [List.head?_cons, Option.getD_some, Option.isSome_some]
          go_wp2_with fail
          have hD0 : Below wf.heap.size wf wf.drew := (Below.refl _ _).drew
          go_region_held3 (fun w' => w'.cell? ⟨C, 1, none⟩ = some (.slice (some ⟨g, 0, none⟩) (t.length + 1) cap0) ∧ Below wf.heap.size wf w')
            (refine ⟨?_, ?_⟩ <;> first | exact k1 | exact (Below.refl _ _).drew | assumption | exact below_next (by assumption) hbl | exact below_next (below_next hD0 hbl) hbs | exact (Below.cell (below_next hD0 hbl) (p := ⟨C, 1, none⟩) hCl).trans k1 | exact (Below.cell (below_next (below_next hD0 hbl) hbs) (p := ⟨C, 1, none⟩) hCl).trans k1)
            ((first
              | (go_at_call 16; refine (len_ring (B := B') (m := m) (l := x :: t) _ ?_).mono ?_; (exact hBo2.1.below (by assumption)); rintro e w' ⟨rfl, rfl⟩)
              | (go_at_call 17; refine (cap_ring (B := B') (m := m) (l := x :: t) _ ?_).mono ?_; (exact hBo2.1.below (by assumption)); rintro e w' ⟨rfl, rfl⟩)
              | (go_at_call 19; refine (list_ring (B := B') (m := m) (ys := x :: t) _ ?_).mono ?_; (exact hBo2.1.below (by assumption)); rintro e wl ⟨v, rfl, hown, hbl⟩)
              | (go_at_call 18; refine (same_yes _ _ (x :: t) _ ?_ ?_ ?_).mono ?_; (exact RowI.of_owns hown); (exact hrx.below (below_next hD0 hbl)); (simp; omega); rintro e ws ⟨rfl, hbs⟩)))
          have hBo3 := hBo2.below (below_next (below_next hD0 hbl) hbs)
          clear hBo2 hD0 hbl hbs hown hrx k1 hx0
          go_wp2_with fail
          go_roundw
          case rel => exact ⟨k + 1, B', x :: t, by omega, by go_num, rfl, hBo3⟩
          case measure => simp [intOf]; omega
    · obtain rfl : k = ss.length := by omega
      have hlt' : ¬ (ss.length : Int) < (ss.length : Int) := by omega
      have hBl := hBo.2.2.1
      clear hc hBo
      go_wp2_with fail
      refine (alive_any _).mono ?_
      rintro e wz ⟨rfl, hbz⟩
      have hB := below_next hBl hbz
      clear hBl hbz
      go_wp2_with fail
      go_ret
      exact ⟨rfl, hB⟩
end Go.Proofs.Ytpkpjogpkigmlaa
