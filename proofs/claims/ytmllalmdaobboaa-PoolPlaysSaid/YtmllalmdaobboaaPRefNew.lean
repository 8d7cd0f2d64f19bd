/-
  The walks of tollbarref06's New, List and of tollbarref01.SameInts.
-/
import Derived.Test.YtmllalmdaobboaaPRefDo
namespace Go.Proofs.Ytmllalmdaobboaa
open Go.RowKit

theorem RefP.rerest {W W1 : World} {R g cap : Nat} {rv rv' : Value} {T : List (Option Sud)} {F F' : List Nat} (h : RefP W R g cap rv T F) (hR : W1.heap[R]? = W.heap[R]?) (hg : W1.heap[g]? = W.heap[g]?) (ho : W1.ownsRow 0 3 1 rv' F'.length (I64N F')) (hF : F'.length ≤ 60) : RefP (W1.setCell ⟨R, 1, none⟩ rv') R g cap rv' T F' := by
  have k1 := hR.trans h.head
  have k2 := h.row.of_block hg
  obtain ⟨_, _, k3⟩ := k2.block
  refine ⟨heap_set_same (k := 1) _ k1, k2.of_block (Below.heap_setCell _ _ _ g (type_ne k3 k1 (by decide))), ?_, h.len, hF⟩
  refine ((But.refl [R] W1).set (p := ⟨R, 1, none⟩) (.inl (by simp)) rv').row ho fun k hk => ?_
  obtain ⟨cs, y, hk'⟩ := ownsRow_at ho hk
  simpa using type_ne hk' k1 (by decide)

theorem refp_made {w w1 : World} {n : Nat} (h : w1.ownsRow w.heap.size 60 6 (.slice (some ⟨w.heap.size, 0, none⟩) n n) n (madeCells (Value.agg #[.bool false, .int .i64 0, .int .i64 0, .bool false, .int .i64 0, .int .u64 0]).cells (n * 6)).toList) (hn : n ≤ 60) :
    RefP (w1.alloc (.cells #[.slice (some ⟨w.heap.size, 0, none⟩) n n, .slice none 0 0] 57)) w1.heap.size w.heap.size n (.slice none 0 0) (List.replicate n none) (List.range 0) := by
  have e : (madeCells (Value.agg #[.bool false, .int .i64 0, .int .i64 0, .bool false, .int .i64 0, .int .u64 0]).cells (n * 6)).toList = _ := made_flat refV none _ 6 rfl (by omega) (fun _ => rfl) n
  rw [e] at h
  have h1 : Refs w1 w.heap.size n (List.replicate n none) := RowOf.of_owns (f := refV) (n := 6) (l := List.replicate n none) (fun _ => rfl) (by rw [List.length_replicate]; exact h) (by rw [List.length_replicate])
  exact ⟨by rw [List.length_replicate]; exact World.alloc_heap_new w1 _, h1.of_block (Below.heap_alloc w1 _ _ h1.lt), World.ownsRow_nil _ _ _ _, by simpa using hn, by simp⟩

/-- What the reference's New leaves. -/
def MadeRef (w : World) (n : Nat) (e : Ending) (w' : World) : Prop := ∃ R g cap rv, e = .returned (.pointer (some ⟨R, 0, none⟩)) ∧ RefP w' R g cap rv (List.replicate n none) (List.range n) ∧ w.heap.size ≤ R ∧ But [] w w'

set_option maxHeartbeats 1600000 in
theorem rnew_any (n : Nat) (hn1 : 1 ≤ n) (hn : n ≤ 60) (w : World) :
    Calls Try.prog 9 #[.int .i64 (n : Int)] w (MadeRef w n) := by
  obtain ⟨i0, hi, hz0, hz1, hz2⟩ := info_parts infoRef
  obtain ⟨i1, hj, jz0, jz1, jz2⟩ := info_parts infoInt
  go_enter Try.func9, Try.ntmps9
  go_wp2_with (at_make; refine wpList_make_full _ rfl _ _ 55 rfl w.heap.size 60 i0 _ 6 Try.underlying55 hi hz0 hz1 .i64 .i64 _ _ n rfl rfl rfl rfl (by rw [hz2]; omega) (by unfold maxLen; omega) (Nat.le_refl _) ?_; intro w1 hown hgrow)
  have hP := refp_made hown hn
  have hb := (But.of_none hgrow []).alloc (.cells #[.slice (some ⟨w.heap.size, 0, none⟩) n n, .slice none 0 0] 57)
  have hs := hgrow.size
  obtain ⟨R, hR⟩ : ∃ R, R = w1.heap.size := ⟨_, rfl⟩
  have hRw : w.heap.size ≤ R := by omega
  rw [← hR] at hP
  rw [← hR]
  clear hown hgrow hR hs
  have hr0 : ∀ W : World, W.ownsRow w.heap.size 3 1 (.slice none 0 0) (List.range 0).length (I64N (List.range 0)) := fun W => World.ownsRow_nil _ _ _ _
  go_loopw [4] (fun iv wr => ∃ (k g cap : Nat) (rv : Value), k ≤ n ∧ iv = .int .i64 (k : Int) ∧ RefP wr R g cap rv (List.replicate n none) (List.range k) ∧ wr.ownsRow w.heap.size 3 1 rv (List.range k).length (I64N (List.range k)) ∧ But [] w wr) (fun iv _ => n - (intOf iv).toNat)
  case atStart => exact ⟨0, _, _, _, Nat.zero_le _, rfl, hP, hr0 _, hb⟩
  case round =>
    clear hP hb hr0
    obtain ⟨k, g, cap, rv, hk, rfl, hP, hrow, hb⟩ := hrel
    by_cases hlt : k < n
    · have hlt' : (k : Int) < (n : Int) := by omega
      have cR := hP.cellR
      have hltR := hP.ltR
      have hbs := hb.size
      have H := Lib.hid hP
      have hrl : (List.range k).length = k := by simp
      go_wp2_with (at_builtin; refine wpList_append_own_at _ rfl _ _ 41 rfl w.heap.size 3 i1 (.int .i64 0) 1 8 Try.underlying41 hj jz0 jz1 jz2 rfl (by decide) _ (List.range k).length (I64N (List.range k)) rfl (hrow.alloc _) ⟨wr.heap.size, 0, none⟩ 1 1 [.int .i64 (k : Int)] rfl rfl ?c1 ?c2 ?c3 ?c4 ?c5 ?_)
      case c1 => exact cell_one_new _ _ _
      case c2 => first | rfl | (intro y hy; simp at hy; subst hy; rfl)
      case c3 => rw [hrl]; unfold maxLen; omega
      case c4 => rw [hrl]; omega
      try (case c5 => first | exact Nat.le_refl _ | omega | (simp; done) | (simp; omega))
      intro v' w2 hown' hgrow _ hat
      obtain ⟨g', cap', rfl⟩ := ownsRow_succ hown'
      obtain ⟨_, _, kg⟩ := hP.row.block
      have nR : some R ≠ rv.ownBlock := fun e => by
        obtain ⟨_, _, q⟩ := ownsRow_at hrow e.symm
        exact type_ne q hP.head (by decide) rfl
      have ng : some g ≠ rv.ownBlock := fun e => by
        obtain ⟨_, _, q⟩ := ownsRow_at hrow e.symm
        exact type_ne q kg (by decide) rfl
      have bR : w2.heap[R]? = wr.heap[R]? := (hgrow.block R (by simp; omega) nR).trans (Below.heap_alloc wr _ R hltR)
      have bg : w2.heap[g]? = wr.heap[g]? := (hgrow.block g (by have := hP.row.lt; simp; omega) ng).trans (Below.heap_alloc wr _ g hP.row.lt)
      have hrow2 : w2.ownsRow w.heap.size 3 1 (.slice (some ⟨g', 0, none⟩) (k + 1) cap') (List.range (k + 1)).length (I64N (List.range (k + 1))) := by
        rw [List.range_succ, I64N_snoc, List.length_append, List.length_range, List.length_singleton]; exact hown'
      have h3 := hP.rerest (F' := List.range (k + 1)) bR bg (owns_low (Nat.zero_le _) hrow2) (by simp; omega)
      have k1 := bR.trans hP.head
      have hB2 : But [] w w2 := ⟨hgrow.os.trans hb.os, hgrow.tape.trans hb.tape, hgrow.output.trans hb.output, Nat.le_trans hbs (Nat.le_trans (by simp) hgrow.size), fun j hj _ => (hgrow.block j (by simp; omega) (fun e => by have := (hrow.lt j e.symm).1; omega)).trans ((Below.heap_alloc wr _ j (by omega)).trans (hb.block j hj (by simp)))⟩
      have hrow3 := Lib.hid (((But.refl [R] w2).set (p := ⟨R, 1, none⟩) (.inl (by simp)) (.slice (some ⟨g', 0, none⟩) (k + 1) cap')).row hrow2 fun j hj => by
        obtain ⟨cs, y, hk'⟩ := ownsRow_at hrow2 hj
        simpa using type_ne hk' k1 (by decide))
      have cR2 : w2.cell? ⟨R, 1, none⟩ = some rv := by simp [World.cell?, k1]
      have fR2 : w2.frozen? ⟨R, 1, none⟩ = false := by simp [World.frozen?, k1]
      have h4 := Lib.hid h3
      clear hown' hgrow hat hrow hrow2 h3 k1 bR bg nR ng kg hP cR
      go_wp2_with fail
      go_roundw
      case rel => exact ⟨k + 1, _, _, _, by omega, by go_num, h4.out, hrow3.out, hB2.set (p := ⟨R, 1, none⟩) (.inr hRw) _⟩
      case measure => simp [intOf]; omega
    · obtain rfl : k = n := by omega
      have hlt' : ¬ (k : Int) < (k : Int) := by omega
      go_wp2_with fail
      go_ret
      exact ⟨R, g, cap, rv, rfl, hP, hRw, hb⟩

/-! ### Rows of numbers -/
def I64 (xs : List Int) : List Value := xs.map (Value.int .i64)

/-- The slice value v reads as the numbers xs. -/
def RowI (w : World) (v : Value) (xs : List Int) : Prop :=
  (xs = [] ∧ ∃ a cap, v = .slice a 0 cap) ∨
  (∃ b off cap, v = .slice (some ⟨b, off, none⟩) xs.length cap ∧ 0 < xs.length ∧ b < w.heap.size ∧ ∀ j, j < xs.length → w.cell? ⟨b, off + j, none⟩ = some (.int .i64 (xs[j]?.getD 0)))

theorem RowI.below {w w' : World} {v : Value} {xs : List Int} (h : RowI w v xs) (hb : Below w.heap.size w w') : RowI w' v xs := by
  rcases h with h | ⟨b, off, cap, h1, h0, h2, h3⟩
  · exact .inl h
  · exact .inr ⟨b, off, cap, h1, h0, Nat.lt_of_lt_of_le h2 hb.size, fun j hj => (hb.cell (p := ⟨b, off + j, none⟩) h2).trans (h3 j hj)⟩

theorem RowI.of_owns {w : World} {base : Nat} {v : Value} {xs : List Int} (h : w.ownsRow base 3 1 v xs.length (I64 xs)) : RowI w v xs := by
  rcases id h.2 with ⟨rfl, hz⟩ | ⟨g, cap, cur, rfl, _, hg, _⟩
  · exact .inl ⟨List.length_eq_zero_iff.mp hz, none, 0, rfl⟩
  · by_cases hz : xs = []
    · subst hz; exact .inl ⟨rfl, _, _, rfl⟩
    · refine .inr ⟨g, 0, cap, rfl, List.length_pos_iff.mpr hz, (Array.getElem?_eq_some_iff.mp hg).1, fun j hj => ?_⟩
      have := h.cellAt j (by omega)
      rw [Nat.zero_add, this, I64, List.getElem?_map, List.getElem?_eq_getElem hj]; rfl

theorem take_snocI (xs : List Int) (k : Nat) (hk : k < xs.length) : xs.take (k + 1) = xs.take k ++ [xs[k]?.getD 0] := by
  rw [List.take_add_one, List.getElem?_eq_getElem hk]; rfl
theorem mem_of_getDI {xs : List Int} {k : Nat} (h : k < xs.length) : xs[k]?.getD 0 ∈ xs := by rw [List.getElem?_eq_getElem h]; simp
theorem take_eq_stepI {xs ys : List Int} {k : Nat} (hx : k < xs.length) (hy : k < ys.length) (h : xs.take k = ys.take k) (he : xs[k]?.getD 0 = ys[k]?.getD 0) : xs.take (k + 1) = ys.take (k + 1) := by
  rw [take_snocI xs k hx, take_snocI ys k hy, h, he]

theorem ret_b {x y : Bool} (h : x = y) : Ending.returned (.bool x) = .returned (.bool y) := by rw [h]

set_option maxRecDepth 100000 in
theorem same_any (a b : Value) (xs ys : List Int) (w : World) (ha : RowI w a xs) (hb : RowI w b ys) (hxl : xs.length ≤ 9223372036854775807) (hyl : ys.length ≤ 9223372036854775807) :
    Calls Try.prog 20 #[a, b] w fun e w' => e = .returned (.bool (decide (xs = ys))) ∧ Below w.heap.size w w' := by
  by_cases hl : xs.length = ys.length
  · rcases ha with ⟨rfl, a1, c1, rfl⟩ | ⟨b1, o1, c1, rfl, h0, hb1, hc1⟩
    · obtain rfl : ys = [] := List.length_eq_zero_iff.mp hl.symm
      rcases hb with ⟨_, a2, c2, rfl⟩ | ⟨b2, o2, c2, rfl, h0, _⟩
      · go_enter Try.func20, Try.ntmps20
        go_wp2_with fail
        refine wp_loop_rounds 1 ?_
        rw [rounds_succ]
        go_wp2_with fail
        go_ret
        exact ⟨rfl, Below.refl _ _⟩
      · simp at h0
    · rcases hb with ⟨rfl, a2, c2, rfl⟩ | ⟨b2, o2, c2, rfl, _, hb2, hc2⟩
      · simp at hl; subst hl; simp at h0
      · have hl1 : ((xs.length : Int) == (ys.length : Int)) = true := by simp; omega
        have hl2 : ((xs.length : Int) != (ys.length : Int)) = false := by simp; omega
        have HL := Lib.hid hl
        clear hl
        go_enter Try.func20, Try.ntmps20
        go_wp2_with fail
        go_loopw [5] (fun i wr => ∃ k : Nat, i = .int .i64 k ∧ k ≤ xs.length ∧ Hid (xs.take k = ys.take k) ∧ Below w.heap.size w wr) (fun i _ => xs.length - (intOf i).toNat)
        case atStart => exact ⟨0, rfl, Nat.zero_le _, Lib.hid (by simp), Below.refl _ _⟩
        case round =>
          obtain ⟨k, rfl, hk, HT, hbl⟩ := hrel
          by_cases hlt : k < xs.length
          · have hlt' : (k : Int) < (xs.length : Int) := by omega
            have hlt2 : (k : Int) < (ys.length : Int) := by have := HL.out; omega
            have q0 : (0 : Int) ≤ (k : Int) := by omega
            have hx : wr.cell? ⟨b1, o1 + k, none⟩ = some (.int .i64 (xs[k]?.getD 0)) := (hbl.cell (p := ⟨b1, o1 + k, none⟩) hb1).trans (hc1 k hlt)
            have hy : wr.cell? ⟨b2, o2 + k, none⟩ = some (.int .i64 (ys[k]?.getD 0)) := (hbl.cell (p := ⟨b2, o2 + k, none⟩) hb2).trans (hc2 k (by omega))
            obtain ⟨x, hxe⟩ : ∃ x, x = xs[k]?.getD 0 := ⟨_, rfl⟩
            obtain ⟨y, hye⟩ : ∃ y, y = ys[k]?.getD 0 := ⟨_, rfl⟩
            rw [← hxe] at hx
            rw [← hye] at hy
            have HX := Lib.hid hxe
            have HY := Lib.hid hye
            clear hxe hye hc1 hc2
            by_cases he : x = y
            · subst he
              have HT' := Lib.hid (take_eq_stepI hlt (by omega) HT.out (HX.out.symm.trans HY.out))
              go_wp2_with fail
              go_quiet (fail)
              go_wp2_with fail
              go_roundw
              case rel => exact ⟨k + 1, by go_num, by omega, HT', below_drewN hbl _⟩
              case measure => simp [intOf]; omega
            · have e1 : (x == y) = false := by simp; omega
              have e2 : (x != y) = true := by simp; omega
              have HD : Hid (decide (xs = ys) = false) := Lib.hid (by simp; rintro rfl; exact he (HX.out.trans HY.out.symm))
              clear he
              go_wp2_with fail
              go_quiet (fail)
              go_wp2_with fail
              go_ret
              exact ⟨ret_b HD.out.symm, below_drewN hbl _⟩
          · have hlt' : ¬ (k : Int) < (xs.length : Int) := by omega
            have HD : Hid (decide (xs = ys) = true) := Lib.hid (by
              have h1 := HT.out
              rw [List.take_of_length_le (by omega), List.take_of_length_le (by have := HL.out; omega)] at h1
              simp [h1])
            clear hc1 hc2
            go_wp2_with fail
            go_ret
            exact ⟨ret_b HD.out.symm, hbl⟩
  · have hne : ((xs.length : Int) == (ys.length : Int)) = false := by simp; omega
    have hne2 : ((xs.length : Int) != (ys.length : Int)) = true := by simp; omega
    have HD : Hid (decide (xs = ys) = false) := Lib.hid (by simp; rintro rfl; exact hl rfl)
    have ea : ∃ p c, a = .slice p xs.length c := by
      rcases ha with ⟨rfl, a1, c1, rfl⟩ | ⟨b1, o1, c1, rfl, _⟩
      · exact ⟨_, _, rfl⟩
      · exact ⟨_, _, rfl⟩
    have eb : ∃ p c, b = .slice p ys.length c := by
      rcases hb with ⟨rfl, a1, c1, rfl⟩ | ⟨b1, o1, c1, rfl, _⟩
      · exact ⟨_, _, rfl⟩
      · exact ⟨_, _, rfl⟩
    clear hl
    obtain ⟨p1, c1, rfl⟩ := ea
    obtain ⟨p2, c2, rfl⟩ := eb
    clear ha hb
    go_enter Try.func20, Try.ntmps20
    go_wp2_with fail
    go_ret
    exact ⟨ret_b HD.out.symm, Below.refl _ _⟩
end Go.Proofs.Ytmllalmdaobboaa
