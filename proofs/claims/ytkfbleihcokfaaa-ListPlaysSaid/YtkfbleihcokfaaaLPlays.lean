/-
  The walk of the law ListPlays.
-/
import Derived.Deep.CutRange
import Derived.Deep.Light
import Derived.Deep.RegionHeld3
import Derived.Deep.DrawnRows
import Derived.Test.YtkfbleihcokfaaaLRefD
namespace Go.Proofs.Ytkfbleihcokfaaa
open Go.RowKit

theorem But.keeps {S : List Nat} {w w' : World} (h : But S w w') {p : Addr} {v : Value} (hv : w.cell? p = some v) (hn : ∀ x ∈ S, x ≠ p.block) : w'.cell? p = some v := h.cell hv (fun hm => hn _ hm rfl)
theorem below_next {w wx w1 : World} (h : Below w.heap.size w wx) (k : Below wx.heap.size wx w1) : Below w.heap.size w w1 := h.trans (k.mono h.size)
theorem cell2 {W : World} {C : Nat} {a b : Value} {t : TypeId} (h : W.heap[C]? = some (Obj.cells #[a, b] t (0, 0))) : W.cell? ⟨C, 0, none⟩ = some a ∧ W.cell? ⟨C, 1, none⟩ = some b := by
  simp [World.cell?, h]

/-- A queue and the reference's, both made since w, with the same numbers. -/
structure Pair (w W : World) (B M R : Nat) (xs : List Int) : Prop where
  mine : Mine w W B M xs
  ref : RefL W R xs
  own : w.heap.size ≤ R
section
variable {w W W1 W2 : World} {B M R : Nat} {xs ys : List Int}
theorem Pair.fresh (h : Pair w W B M R xs) (hb : But [] W W1) : Pair w W1 B M R xs := ⟨h.mine.fresh hb, h.ref.fresh hb, h.own⟩
theorem Pair.later (h : Pair w W B M R xs) (hb : Below W.heap.size W W1) : Pair w W1 B M R xs := h.fresh (But.of_below hb [])
theorem Pair.drew (h : Pair w W B M R xs) : Pair w W.drew B M R xs := h.fresh (But.refl [] W).drew
theorem Pair.step (h : Pair w W B M R xs) (h1 : Mine w W1 B M ys) (hb : But [B, M] W W1) (h2 : RefL W2 R ys) (hb2 : But [R] W1 W2) : Pair w W2 B M R ys :=
  have hr := h.ref.que h.mine.que hb
  ⟨⟨h1.que.ref hr hb2, h1.but.own hb2 (by simpa using h.own), h1.ownB, h1.ownM⟩, h2, h.own⟩
theorem Pair.other (h : Pair w W B M R xs) {B' M' : Nat} (h1 : Mine w W1 B' M' xs) (hr : RefL W1 R xs) : Pair w W1 B' M' R xs := ⟨h1, hr, h.own⟩
end
theorem m_copy {w0 : World} {B M : Nat} {xs : List Int} (w : World) (h : Mine w0 w B M xs) :
    Calls Try.prog 15 #[.pointer (some ⟨B, 0, none⟩)] w fun e w' => ∃ B' M', e = .returned (.pointer (some ⟨B', 0, none⟩)) ∧ Mine w0 w' B' M' xs ∧ w.heap.size ≤ B' ∧ w.heap.size ≤ M' ∧ But [] w w' := by
  refine (copy_any w h.que).mono ?_
  rintro e w' ⟨rfl, hq, hb⟩
  have hs := h.but.size
  exact ⟨_, _, rfl, ⟨hq, h.but.next hb, by omega, hs⟩, by omega, Nat.le_refl _, hb⟩
theorem at_has (xs : List Int) (i : Int) : decide ((0 : Int) ≤ atV xs i) = decide (i ∈ xs) := by
  by_cases h : i ∈ xs
  · obtain ⟨k, _, _, hv⟩ := atV_is h
    rw [hv]; simp [h]
  · rw [atV_not h]; simp [h]

set_option maxRecDepth 100000 in
set_option maxHeartbeats 400000 in
theorem plays_big (a : Option Addr) (n cap : Nat) (i : Int) (w : World) (hn : 300 < n) :
    Calls Try.prog 3 #[.slice a n cap, .int .i64 i] w fun e w' => e = .returned (.bool true) ∧ Below w.heap.size w w' := by
  have hl2 : (300 : Int) < (n : Int) := by omega
  go_enter Try.func3, Try.ntmps3
  go_wp2_with fail
  refine (alive_any _).mono ?_
  rintro e w1 ⟨rfl, hb⟩
  go_wp2_with fail
  go_ret
  exact ⟨rfl, hb⟩

set_option maxRecDepth 100000 in
set_option maxHeartbeats 6400000 in
theorem plays_loop (a : Option Addr) (cap : Nat) (i : Int) (hib : I64b i) (ss : List (Int × Int)) (w : World) (hl : ss.length ≤ 300) (hs : Steps w (.slice a ss.length cap) ss) :
    Calls Try.prog 3 #[.slice a ss.length cap, .int .i64 i] w fun e w' => e = .returned (.bool true) ∧ Below w.heap.size w w' := by
  have hl2 : ¬ (300 : Int) < (ss.length : Int) := by omega
  go_enter Try.func3, Try.ntmps3
  go_wp2_with fail
  refine (m_new _ (But.refl [] w)).mono ?_
  rintro e w1 ⟨B, M, rfl, hQ, -, -, -⟩
  go_wp2_with fail
  refine (nothing_any _).mono ?_
  rintro e w2 ⟨rfl, hb2⟩
  have hQ2 := hQ.later hb2
  have hbr : But [] w2 (w2.alloc (.cells #[.slice none 0 0] 29)) := (But.refl _ _).alloc _
  have hD : Pair w (w2.alloc (.cells #[.slice none 0 0] 29)) B M w2.heap.size [] :=
    ⟨hQ2.fresh hbr, ⟨_, (MapKept.heap_alloc w2 _).1, World.ownsRow_nil _ _ _ _⟩, hQ2.but.size⟩
  clear hQ hb2 hQ2 hbr hl2
  go_wp2_with fail
  generalize w2.heap.size = R at hD ⊢
  go_loopw [5, 7] (fun pv iv wr => ∃ (j B M : Nat) (xs : List Int), j ≤ ss.length ∧ iv = .int .i64 (j : Int) ∧ pv = .pointer (some ⟨B, 0, none⟩) ∧ Pair w wr B M R xs) (fun _ iv _ => ss.length - (intOf iv).toNat)
  case atStart => exact ⟨0, B, M, _, Nat.zero_le _, rfl, rfl, hD⟩
  case round =>
    clear hD
    obtain ⟨j, B, M, xs, hj, rfl, rfl, hD⟩ := hrel
    by_cases hlt : j < ss.length
    · have hlt' : (j : Int) < (ss.length : Int) := by omega
      have j0 : (0 : Int) ≤ (j : Int) := by omega
      obtain ⟨b, off, d, v, rfl, hb, hd, hv, hdb, hvb⟩ := hs.at hD.mine.below hlt
      clear hs
      go_upto_region 12 with fail
      iterate 10 go_step
      have hD1 : Pair w (wr.alloc (.cells #[.int .i64 d, .int .i64 v] 31)) B M R xs := hD.fresh ((But.refl [] wr).alloc _)
      obtain ⟨x0, x1⟩ := cell2 (World.alloc_heap_new wr (.cells #[.int .i64 d, .int .i64 v] 31))
      have hDB : ∀ x ∈ [B, M], x ≠ wr.heap.size := by have := hD.mine.que.ltB; have := hD.mine.que.ltM; simp; omega
      have hDR : ∀ x ∈ [R], x ≠ wr.heap.size := by have := hD.ref.lt; simp; omega
      clear hD hd hv
      generalize wr.alloc (.cells #[.int .i64 d, .int .i64 v] 31) = wy at *
      generalize wr.heap.size = D at *
      clear x0
      go_cut [5, 9] from 47 to 99 (fun pv bv wx => ∃ (B M : Nat) (xs : List Int), pv = .pointer (some ⟨B, 0, none⟩) ∧ bv = .bool true ∧ Pair w wx B M R xs)
      case first =>
        have hxl := hD1.mine.que.le
        have hnd := hD1.mine.que.nd
        have hX1 : ∀ w1, But [B, M] wy.drew w1 → RefL w1 R xs := fun w1 hg => hD1.drew.ref.que hD1.drew.mine.que hg
        by_cases e0 : d = 0
        · subst e0
          obtain ⟨k, hk⟩ : ∃ k, k = putE xs v := ⟨_, rfl⟩
          have hrput : ∀ W, RefL W R xs → Calls Try.prog 10 #[.pointer (some ⟨R, 0, none⟩), .int .i64 v] W fun e w' => e = .returned (.int .i64 k) ∧ RefL w' R (putX xs v) ∧ But [R] W w' := fun W hW => by
            rw [hk]; exact rput_any v W hW hxl
          have hput := m_put v wy.drew hD1.drew.mine hk rfl
          have kk : (k == k) = true := by simp
          clear hk
          go_wp2_with fail
          go_region_held3 (fun w' => w'.cell? ⟨D, 1, none⟩ = some (.int .i64 v)) (first | go_keep | (exact hg1.keeps x1 hDB) | (exact hg2.keeps (hg1.keeps x1 hDB) hDR)) ((first | (go_at_call 9; refine hput.mono ?_; rintro e9 wa ⟨rfl, hM, hg1⟩) | (go_at_call 10; refine (hrput _ (hX1 _ hg1)).mono ?_; rintro e9 wb ⟨rfl, hN, hg2⟩)))
          all_goals go_wp2_with fail
          all_goals go_meet
          all_goals exact ⟨B, M, _, rfl, rfl, hD1.drew.step hM hg1 hN hg2⟩
        by_cases e1 : d = 1
        · subst e1
          obtain ⟨k, hk⟩ : ∃ k, k = popE xs := ⟨_, rfl⟩
          obtain ⟨y, hy⟩ : ∃ y, y = (xs[0]?).getD 0 := ⟨_, rfl⟩
          have kk : (k == k) = true := by simp
          have yy : (y == y) = true := by simp
          go_wp2_with fail
          refine (m_pop _ hD1.mine hy hk rfl).mono ?_
          rintro e9 wa ⟨rfl, hM, hg1⟩
          have hR1 := hD1.ref.que hD1.mine.que hg1
          have hrp := rpop_any wa hR1 hnd hxl
          rw [← hk, ← hy] at hrp
          clear hk hy
          go_wp2_with fail
          refine hrp.mono ?_
          rintro e9 wb ⟨rfl, hN, hg2⟩
          have hD3 := hD1.step hM hg1 hN hg2
          clear hD1 hM hg1 hN hg2 hrp hR1 hX1 x1
          go_wp2_with fail
          go_meet
          case rel => exact ⟨B, M, _, rfl, rfl, hD3⟩
        by_cases e2 : d = 2
        · subst e2
          obtain ⟨k, hk⟩ : ∃ k, k = dropE xs v := ⟨_, rfl⟩
          have hrd : ∀ W, RefL W R xs → Calls Try.prog 14 #[.pointer (some ⟨R, 0, none⟩), .int .i64 v] W fun e w' => e = .returned (.int .i64 k) ∧ RefL w' R (xs.erase v) ∧ But [R] W w' := fun W hW => by
            rw [hk]; exact rdrop_any v W hW hnd hxl
          have hdr := m_drop v hvb wy.drew hD1.drew.mine hk rfl
          have kk : (k == k) = true := by simp
          clear hk
          go_wp2_with fail
          go_region_held3 (fun w' => w'.cell? ⟨D, 1, none⟩ = some (.int .i64 v)) (first | go_keep | (exact hg1.keeps x1 hDB) | (exact hg2.keeps (hg1.keeps x1 hDB) hDR)) ((first | (go_at_call 13; refine hdr.mono ?_; rintro e9 wa ⟨rfl, hM, hg1⟩) | (go_at_call 14; refine (hrd _ (hX1 _ hg1)).mono ?_; rintro e9 wb ⟨rfl, hN, hg2⟩)))
          all_goals go_wp2_with fail
          all_goals go_meet
          all_goals exact ⟨B, M, _, rfl, rfl, hD1.drew.step hM hg1 hN hg2⟩
        by_cases e3 : d = 3
        · subst e3
          clear hX1
          go_wp2_with fail
          refine (m_copy _ hD1.mine).mono ?_
          rintro e9 wa ⟨B2, M2, rfl, hM2, hB2, hM2', hg⟩
          have hltB := hD1.mine.que.ltB
          have hltM := hD1.mine.que.ltM
          have hD2 := hD1.fresh hg
          clear hD1 hg x1
          go_wp2_with fail
          refine (m_pop _ hD2.mine rfl rfl rfl).mono ?_
          rintro e9 wb ⟨rfl, hM3, hg3⟩
          have hM4 := hM2.beside hg3 (by simp; omega) (by simp; omega) (by have := hD2.mine.ownB; have := hD2.mine.ownM; simp; omega)
          have hR4 := hD2.ref.que hD2.mine.que hg3
          have hoB := hD2.own
          clear hD2 hM2 hg3
          go_wp2_with fail
          refine (m_put 999 _ hM3 rfl rfl).mono ?_
          rintro e9 wd ⟨rfl, hM5, hg5⟩
          have hM6 := hM4.beside hg5 (by simp; omega) (by simp; omega) (by have := hM3.ownB; have := hM3.ownM; simp; omega)
          have hR6 := hR4.que hM3.que hg5
          clear hM3 hM4 hR4 hM5 hg5
          go_wp2_with fail
          go_meet
          case rel => exact ⟨B2, M2, xs, rfl, rfl, ⟨hM6, hR6, hoB⟩⟩
        · clear hX1
          go_wp2_with fail
          go_meet
          case rel => exact ⟨B, M, xs, rfl, rfl, hD1⟩
      case rest =>
        obtain ⟨B', M', xs', rfl, rfl, hD2⟩ := hcut
        clear hD1 x1 hDB hDR hdb hvb
        obtain ⟨B, hB⟩ : ∃ B, B = B' := ⟨_, rfl⟩
        obtain ⟨M, hM⟩ : ∃ M, M = M' := ⟨_, rfl⟩
        obtain ⟨xs, hxs⟩ : ∃ xs, xs = xs' := ⟨_, rfl⟩
        rw [← hB, ← hM, ← hxs] at hD2
        rw [← hB]
        clear hB hM hxs
        have hfr := front_any _ hD2.mine.que
        obtain ⟨y0, hy0⟩ : ∃ y0, (xs[0]?).getD 0 = y0 := ⟨_, rfl⟩
        obtain ⟨s0, hs0⟩ : ∃ s0, (xs[0]?).isSome = s0 := ⟨_, rfl⟩
        rw [hy0, hs0] at hfr
        have g1 : decide ((0 : Int) < (xs.length : Int)) = s0 := by rw [← hs0]; cases xs <;> simp <;> omega
        have g2 : decide (0 < xs.length) = s0 := by rw [← hs0]; cases xs <;> simp
        have ss0 : (s0 != s0) = false := by cases s0 <;> rfl
        have yy0 : (y0 != y0) = false := by simp
        have lll : ((xs.length : Int) != (xs.length : Int)) = false := by simp
        have hnx := fun W (h : Que W B M xs) => next_any i hib W h
        have hrn := fun W (h : RefL W R xs) => rnext_any i W h hD2.mine.que.le
        obtain ⟨n1, hn1⟩ : ∃ n1, (nextE xs i).getD 0 = n1 := ⟨_, rfl⟩
        obtain ⟨s1, hs1⟩ : ∃ s1, (nextE xs i).isSome = s1 := ⟨_, rfl⟩
        simp only [hn1, hs1] at hnx hrn
        have nn : (n1 != n1) = false := by simp
        have sn : (s1 != s1) = false := by cases s1 <;> rfl
        obtain ⟨av, hav⟩ : ∃ av, atV xs i = av := ⟨_, rfl⟩
        obtain ⟨z, hz⟩ : ∃ z, decide (i ∈ xs) = z := ⟨_, rfl⟩
        have haz : decide ((0 : Int) ≤ av) = z := by rw [← hav, ← hz]; exact at_has xs i
        have zz : (z != z) = false := by cases z <;> rfl
        clear hn1 hs1
        go_wp2_with fail
        refine hfr.mono ?_
        clear hfr
        rintro e9 w3 ⟨rfl, rfl⟩
        go_wp2_with fail
        refine (hnx _ hD2.mine.que).mono ?_
        rintro e9 w4 ⟨rfl, hb4⟩
        have hD4 := hD2.fresh hb4
        clear hD2 hnx hb4
        go_wp2_with fail
        refine (hrn _ hD4.ref).mono ?_
        rintro e9 wf ⟨rfl, rfl⟩
        have hD2 := hD4
        clear hD4 hrn
        have hRl := hD2.ref.lt
        obtain ⟨sv, t1, t2⟩ := id hD2.ref
        have t3 := (cell1 t1).1
        have hrx := RowI.of_owns (ownsRow_low t2)
        obtain ⟨lp, lc, rfl⟩ := hrx.slice
        clear t1 t2
        go_upto_if 122 with fail
        go_cut [21] from 117 to 128 (fun fv wx => fv = .int .i64 y0 ∧ wx = wf)
        case first =>
          cases xs with
          | nil =>
            simp only [List.getElem?_nil, Option.getD_none, Option.isSome_none] at hy0 hs0
            subst hy0 hs0
            have g3 : ¬ (0 : Int) < (([] : List Int).length : Int) := by simp
            go_wp2_with fail
            go_meet
            case rel => exact ⟨rfl, rfl⟩
          | cons x t =>
            obtain ⟨g, o, rfl, -, hc0⟩ := hrx.at (k := 0) (by simp)
            simp only [List.getElem?_cons_zero, Option.getD_some, Option.isSome_some, Nat.add_zero] at hy0 hs0 hc0
            subst hy0 hs0
            have hq1 : (0 : Int) < (t.length : Int) + 1 := by omega
            rw [List.length_cons] at t3
            go_wp2_with fail
            go_meet
            case rel => exact ⟨rfl, rfl⟩
        case rest =>
          obtain ⟨rfl, hwf⟩ := hcut
          rw [hwf]
          clear hwf hy0 hs0
          have hcR : wf.cell? ⟨R, 0, none⟩ = some (.slice lp xs.length lc) := t3
          have hk : ∀ W, Below wf.heap.size wf W → W.cell? ⟨R, 0, none⟩ = some (.slice lp xs.length lc) := fun W hW => (hW.cell (p := ⟨R, 0, none⟩) hRl).trans hcR
          have hhas : ∀ W, Below wf.heap.size wf W → Calls Try.prog 19 #[.pointer (some ⟨B, 0, none⟩), .int .i64 i] W fun e w' => e = .returned (.bool z) ∧ Below wf.heap.size wf w' := fun W hW => by
            refine (has_any i hib W (hD2.later hW).mine.que).mono ?_
            rintro e w' ⟨rfl, hb⟩
            exact ⟨by rw [hz], below_next hW (hb.below (Nat.le_refl _) (by simp))⟩
          have hat : ∀ W, Below wf.heap.size wf W → Calls Try.prog 20 #[.pointer (some ⟨R, 0, none⟩), .int .i64 i] W fun e w' => e = .returned (.int .i64 av) ∧ w' = W := fun W hW => by
            have := at_any i W (hD2.later hW).ref (hD2.mine.que.le)
            rwa [hav] at this
          have hlen : ∀ W, Below wf.heap.size wf W → Calls Try.prog 21 #[.pointer (some ⟨B, 0, none⟩)] W fun e w' => e = .returned (.int .i64 ((xs : List Int).length : Int)) ∧ w' = W := fun W hW => len_any W (hD2.later hW).mine.que
          have hall : ∀ W, Below wf.heap.size wf W → Calls Try.prog 23 #[.pointer (some ⟨B, 0, none⟩)] W fun e w' => ∃ v, e = .returned v ∧ RowI w' v xs ∧ Below wf.heap.size wf w' := fun W hW => by
            refine (all_any W (hD2.later hW).mine.que).mono ?_
            rintro e w' ⟨v, rfl, ho, hb⟩
            exact ⟨v, rfl, RowI.of_owns ho, below_next hW hb⟩
          have hsame : ∀ W v, Below wf.heap.size wf W → RowI W v xs → Calls Try.prog 22 #[v, .slice lp xs.length lc] W fun e w' => e = .returned (.bool true) ∧ Below wf.heap.size wf w' := fun W v hW hv => by
            have hxl := hD2.mine.que.le
            have := same_any v _ xs xs W hv (hrx.below hW) (by omega) (by omega)
            simp only [decide_true] at this
            exact this.mono fun e w' ⟨h1, h2⟩ => ⟨h1, below_next hW h2⟩
          have hD0 : Below wf.heap.size wf wf.drew := (Below.refl _ _).drew
          have HD := Lib.hid hD2
          clear hD2 hrx hRl hib hz hav t3
          go_wp2_with fail
          go_region_held3 (fun w' => w'.cell? ⟨R, 0, none⟩ = some (.slice lp xs.length lc) ∧ Below wf.heap.size wf w')
            (refine ⟨?_, ?_⟩ <;> first | assumption | exact hk _ (by assumption))
            ((first
              | (go_at_call 19; refine (hhas _ (by assumption)).mono ?_; rintro e w' ⟨rfl, hb1⟩)
              | (go_at_call 20; refine (hat _ (by assumption)).mono ?_; rintro e w' ⟨rfl, rfl⟩)
              | (go_at_call 21; refine (hlen _ (by assumption)).mono ?_; rintro e w' ⟨rfl, rfl⟩)
              | (go_at_call 23; refine (hall _ (by assumption)).mono ?_; rintro e wl ⟨v, rfl, hrow, hb2⟩)
              | (go_at_call 22; refine (hsame _ _ (by assumption) (by assumption)).mono ?_; rintro e ws ⟨rfl, hb3⟩)))
          have hD3 := HD.out.later hb3
          clear HD hD0 hhas hat hlen hall hsame hk hcR hrow hb1 hb2 hb3
          go_wp2_with fail
          go_roundw
          case rel => exact ⟨j + 1, B, M, xs, by omega, by go_num, rfl, hD3⟩
          case measure => simp [intOf]; omega
    · obtain rfl : j = ss.length := by omega
      have hlt' : ¬ (ss.length : Int) < (ss.length : Int) := by omega
      have hBl := hD.mine.below
      clear hs hD
      go_wp2_with fail
      refine (alive_any _).mono ?_
      rintro e wz ⟨rfl, hbz⟩
      have hB' := below_next hBl hbz
      clear hBl hbz
      go_wp2_with fail
      go_ret
      exact ⟨rfl, hB'⟩

theorem plays_any (v : Value) (i : Int) (hi : I64b i) (ss : List (Int × Int)) (w : World) (hs : Steps w v ss) :
    Calls Try.prog 3 #[v, .int .i64 i] w fun e w' => e = .returned (.bool true) ∧ Below w.heap.size w w' := by
  obtain ⟨a, c, rfl⟩ := hs.slice
  by_cases hn : 300 < ss.length
  · exact plays_big a _ c i w hn
  · exact plays_loop a c i hi ss w (by omega) hs
end Go.Proofs.Ytkfbleihcokfaaa
