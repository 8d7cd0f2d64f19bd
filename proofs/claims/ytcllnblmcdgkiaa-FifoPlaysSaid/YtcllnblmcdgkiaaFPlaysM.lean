/-
  What the law FifoPlays holds at the head of a round; the walk of its test 'same'.
-/
import Derived.Deep.CutRange
import Derived.Deep.Light
import Derived.Deep.RegionHeld3
import Derived.Deep.DrawnRows
import Derived.Test.YtcllnblmcdgkiaaFRefDo
namespace Go.Proofs.Ytcllnblmcdgkiaa
open Go.RowKit

theorem below_next {w wx w1 : World} (h : Below w.heap.size w wx) (k : Below wx.heap.size wx w1) : Below w.heap.size w w1 := h.trans (k.mono h.size)

/-- A row and the reference's, both made since w, with the same tasks. -/
structure Pair (w W : World) (B R m : Nat) (xs : List Int) : Prop where
  mine : Mine w W B m xs
  ref : RefF W R m xs
  own : w.heap.size ≤ R
section
variable {w W W1 W2 : World} {B R m : Nat} {xs ys : List Int}
theorem Pair.fresh (h : Pair w W B R m xs) (hb : But [] W W1) : Pair w W1 B R m xs := ⟨h.mine.fresh hb, h.ref.fresh hb, h.own⟩
theorem Pair.later (h : Pair w W B R m xs) (hb : Below W.heap.size W W1) : Pair w W1 B R m xs := h.fresh (But.of_below hb [])
theorem Pair.drew (h : Pair w W B R m xs) : Pair w W.drew B R m xs := h.fresh (But.refl [] W).drew
theorem Pair.step (h : Pair w W B R m xs) (h1 : Mine w W1 B m ys) (hb : But [B] W W1) (h2 : RefF W2 R m ys) (hb2 : But [R] W1 W2) : Pair w W2 B R m ys :=
  have hr := h.ref.row h.mine.fif hb
  ⟨⟨h1.fif.ref hr hb2, h1.but.own hb2 (by simpa using h.own), h1.own⟩, h2, h.own⟩
end

set_option maxRecDepth 100000 in
set_option maxHeartbeats 3200000 in
theorem same_law {B R m : Nat} {xs : List Int} (k : Int) (w : World) (h : Fif w B m xs) (hr : RefF w R m xs) :
    Calls Try.prog 16 #[.pointer (some ⟨B, 0, none⟩), .pointer (some ⟨R, 0, none⟩), .int .i64 k] w fun e w' => e = .returned (.bool true) ∧ Below w.heap.size w w' := by
  have hle : xs.length ≤ 32 := Nat.le_trans h.le h.most
  have hfr := front_any w h
  go_enter Try.func16, Try.ntmps16
  go_wp2_with fail
  refine hfr.mono ?_
  clear hfr
  rintro e wf ⟨rfl, hb0⟩
  have h := h.below hb0
  have hr := hr.fresh (But.of_below hb0 [])
  have hRl := hr.lt
  obtain ⟨sv, t1, t2⟩ := id hr
  have t3 := (cell2 t1).2.1
  have hrx := RowI.of_owns (ownsRow_low t2)
  obtain ⟨lp, lc, rfl⟩ := hrx.slice
  clear t1 t2
  obtain ⟨av, hav⟩ : ∃ av, atV xs k = av := ⟨_, rfl⟩
  obtain ⟨z, hz⟩ : ∃ z, decide (k ∈ xs) = z := ⟨_, rfl⟩
  obtain ⟨sn, hsn⟩ : ∃ sn, ofL xs = sn := ⟨_, rfl⟩
  have haz : decide ((0 : Int) ≤ av) = z := by rw [← hav, ← hz]; exact at_has xs k
  have zz : (z == z) = true := by simp
  have aa : (av == av) = true := by simp
  have nn : ((sn : Int) == (sn : Int)) = true := by simp
  cases xs with
  | nil =>
    simp only [List.head?_nil, Option.getD_none, Option.isSome_none]
    rw [List.length_nil] at t3 hrx
    have hk : ∀ W, Below wf.heap.size wf W → W.cell? ⟨R, 1, none⟩ = some (.slice lp 0 lc) := fun W hW => (hW.cell (p := ⟨R, 1, none⟩) hRl).trans t3
    have hat : ∀ W, Below wf.heap.size wf W → Calls Try.prog 20 #[.pointer (some ⟨B, 0, none⟩), .int .i64 k] W fun e w' => e = .returned (.int .i64 av) ∧ Below wf.heap.size wf w' := fun W hW => by
      have := at_any k W (h.below hW)
      rw [hav] at this
      exact this.mono fun e w' ⟨h1, h2⟩ => ⟨h1, below_next hW h2⟩
    have hrat : ∀ W, Below wf.heap.size wf W → Calls Try.prog 25 #[.pointer (some ⟨R, 0, none⟩), .int .i64 k] W fun e w' => e = .returned (.int .i64 av) ∧ w' = W := fun W hW => by
      have := rat_any k W (hr.fresh (But.of_below hW [])) (by first | omega | (simp only [List.length_cons]; omega))
      rwa [hav] at this
    have hhas : ∀ W, Below wf.heap.size wf W → Calls Try.prog 21 #[.pointer (some ⟨B, 0, none⟩), .int .i64 k] W fun e w' => e = .returned (.bool z) ∧ Below wf.heap.size wf w' := fun W hW => by
      have := has_any k W (h.below hW)
      rw [hz] at this
      exact this.mono fun e w' ⟨h1, h2⟩ => ⟨h1, below_next hW h2⟩
    have hlen : ∀ W, Below wf.heap.size wf W → Calls Try.prog 19 #[.pointer (some ⟨B, 0, none⟩)] W fun e w' => e = .returned (.int .i64 0) ∧ w' = W := fun W hW => len_any W (h.below hW)
    have hlist : ∀ W, Below wf.heap.size wf W → Calls Try.prog 17 #[.pointer (some ⟨B, 0, none⟩)] W fun e w' => ∃ v, e = .returned v ∧ RowI w' v [] ∧ Below wf.heap.size wf w' := fun W hW => by
      refine (list_any W (h.below hW)).mono ?_
      rintro e w' ⟨v, rfl, ho, hb⟩
      exact ⟨v, rfl, RowI.of_owns ho, below_next hW hb⟩
    have hsame : ∀ W v, Below wf.heap.size wf W → RowI W v [] → Calls Try.prog 18 #[v, .slice lp 0 lc] W fun e w' => e = .returned (.bool true) ∧ Below wf.heap.size wf w' := fun W v hW hv => by
      have := same_any v _ [] [] W hv (hrx.below hW) (by first | omega | (simp only [List.length_cons]; omega)) (by first | omega | (simp only [List.length_cons]; omega))
      simp only [decide_true] at this
      exact this.mono fun e w' ⟨h1, h2⟩ => ⟨h1, below_next hW h2⟩
    have hset : ∀ W, Below wf.heap.size wf W → Calls Try.prog 23 #[.pointer (some ⟨B, 0, none⟩)] W fun e w' => e = .returned (.int .u64 (sn : Int)) ∧ Below wf.heap.size wf w' := fun W hW => by
      have := set_any W (h.below hW)
      rw [hsn] at this
      exact this.mono fun e w' ⟨h1, h2⟩ => ⟨h1, below_next hW h2⟩
    have hrset : ∀ W, Below wf.heap.size wf W → Calls Try.prog 26 #[.pointer (some ⟨R, 0, none⟩)] W fun e w' => e = .returned (.int .u64 (sn : Int)) ∧ w' = W := fun W hW => by
      have := rset_any W (hr.fresh (But.of_below hW [])) (by first | omega | (simp only [List.length_cons]; omega)) h.rng
      rwa [hsn] at this
    have hD0 : Below wf.heap.size wf wf.drew := (Below.refl _ _).drew
    have HB := Lib.hid hb0
    clear hrx hRl hz hav hsn h hr hb0 
    go_wp2_with fail
    go_region_held3 (fun w' => w'.cell? ⟨R, 1, none⟩ = some (.slice lp 0 lc) ∧ Below wf.heap.size wf w')
      (refine ⟨?_, ?_⟩ <;> first | assumption | exact hk _ (by assumption))
      ((first
        | (go_at_call 20; refine (hat _ (by assumption)).mono ?_; rintro e w' ⟨rfl, hb1⟩)
        | (go_at_call 25; refine (hrat _ (by assumption)).mono ?_; rintro e w' ⟨rfl, rfl⟩)
        | (go_at_call 21; refine (hhas _ (by assumption)).mono ?_; rintro e w' ⟨rfl, hb2⟩)
        | (go_at_call 19; refine (hlen _ (by assumption)).mono ?_; rintro e w' ⟨rfl, rfl⟩)
        | (go_at_call 17; refine (hlist _ (by assumption)).mono ?_; rintro e wl ⟨v, rfl, hrow, hb3⟩)
        | (go_at_call 18; refine (hsame _ _ (by assumption) (by assumption)).mono ?_; rintro e ws ⟨rfl, hb4⟩)
        | (go_at_call 23; refine (hset _ (by assumption)).mono ?_; rintro e ws ⟨rfl, hb5⟩)
        | (go_at_call 26; refine (hrset _ (by assumption)).mono ?_; rintro e ws ⟨rfl, rfl⟩)))
    have hbe := below_next HB.out hb5
    clear hat hrat hhas hlen hlist hsame hset hrset hk hb1 hb2 hb3 hb4 hb5 hD0
    go_wp2_with fail
    go_ret
    exact ⟨rfl, hbe⟩
  | cons x t =>
    obtain ⟨g, o, rfl, -, hc0⟩ := hrx.at (k := 0) (by simp)
    simp only [List.getElem?_cons_zero, Option.getD_some, Nat.add_zero] at hc0
    simp only [List.head?_cons, Option.getD_some, Option.isSome_some]
    rw [List.length_cons] at t3 hrx hle
    have hq1 : (0 : Int) < (t.length : Int) + 1 := by omega
    have hq2 : decide ((0 : Int) < (t.length : Int) + 1) = true := decide_eq_true hq1
    have hxx : (x != x) = false := by simp
    have hll : ((t.length : Int) + 1 == (t.length : Int) + 1) = true := by simp
    have hk : ∀ W, Below wf.heap.size wf W → W.cell? ⟨R, 1, none⟩ = some (.slice (some ⟨g, o, none⟩) (t.length + 1) lc) := fun W hW => (hW.cell (p := ⟨R, 1, none⟩) hRl).trans t3
    have hat : ∀ W, Below wf.heap.size wf W → Calls Try.prog 20 #[.pointer (some ⟨B, 0, none⟩), .int .i64 k] W fun e w' => e = .returned (.int .i64 av) ∧ Below wf.heap.size wf w' := fun W hW => by
      have := at_any k W (h.below hW)
      rw [hav] at this
      exact this.mono fun e w' ⟨h1, h2⟩ => ⟨h1, below_next hW h2⟩
    have hrat : ∀ W, Below wf.heap.size wf W → Calls Try.prog 25 #[.pointer (some ⟨R, 0, none⟩), .int .i64 k] W fun e w' => e = .returned (.int .i64 av) ∧ w' = W := fun W hW => by
      have := rat_any k W (hr.fresh (But.of_below hW [])) (by first | omega | (simp only [List.length_cons]; omega))
      rwa [hav] at this
    have hhas : ∀ W, Below wf.heap.size wf W → Calls Try.prog 21 #[.pointer (some ⟨B, 0, none⟩), .int .i64 k] W fun e w' => e = .returned (.bool z) ∧ Below wf.heap.size wf w' := fun W hW => by
      have := has_any k W (h.below hW)
      rw [hz] at this
      exact this.mono fun e w' ⟨h1, h2⟩ => ⟨h1, below_next hW h2⟩
    have hlen : ∀ W, Below wf.heap.size wf W → Calls Try.prog 19 #[.pointer (some ⟨B, 0, none⟩)] W fun e w' => e = .returned (.int .i64 ((t.length : Int) + 1)) ∧ w' = W := fun W hW => len_any W (h.below hW)
    have hlist : ∀ W, Below wf.heap.size wf W → Calls Try.prog 17 #[.pointer (some ⟨B, 0, none⟩)] W fun e w' => ∃ v, e = .returned v ∧ RowI w' v (x :: t) ∧ Below wf.heap.size wf w' := fun W hW => by
      refine (list_any W (h.below hW)).mono ?_
      rintro e w' ⟨v, rfl, ho, hb⟩
      exact ⟨v, rfl, RowI.of_owns ho, below_next hW hb⟩
    have hsame : ∀ W v, Below wf.heap.size wf W → RowI W v (x :: t) → Calls Try.prog 18 #[v, .slice (some ⟨g, o, none⟩) (t.length + 1) lc] W fun e w' => e = .returned (.bool true) ∧ Below wf.heap.size wf w' := fun W v hW hv => by
      have := same_any v _ (x :: t) (x :: t) W hv (hrx.below hW) (by first | omega | (simp only [List.length_cons]; omega)) (by first | omega | (simp only [List.length_cons]; omega))
      simp only [decide_true] at this
      exact this.mono fun e w' ⟨h1, h2⟩ => ⟨h1, below_next hW h2⟩
    have hset : ∀ W, Below wf.heap.size wf W → Calls Try.prog 23 #[.pointer (some ⟨B, 0, none⟩)] W fun e w' => e = .returned (.int .u64 (sn : Int)) ∧ Below wf.heap.size wf w' := fun W hW => by
      have := set_any W (h.below hW)
      rw [hsn] at this
      exact this.mono fun e w' ⟨h1, h2⟩ => ⟨h1, below_next hW h2⟩
    have hrset : ∀ W, Below wf.heap.size wf W → Calls Try.prog 26 #[.pointer (some ⟨R, 0, none⟩)] W fun e w' => e = .returned (.int .u64 (sn : Int)) ∧ w' = W := fun W hW => by
      have := rset_any W (hr.fresh (But.of_below hW [])) (by first | omega | (simp only [List.length_cons]; omega)) h.rng
      rwa [hsn] at this
    have hD0 : Below wf.heap.size wf wf.drew := (Below.refl _ _).drew
    have HB := Lib.hid hb0
    clear hrx hRl hz hav hsn h hr hb0 
    go_wp2_with fail
    go_region_held3 (fun w' => w'.cell? ⟨R, 1, none⟩ = some (.slice (some ⟨g, o, none⟩) (t.length + 1) lc) ∧ Below wf.heap.size wf w')
      (refine ⟨?_, ?_⟩ <;> first | assumption | exact hk _ (by assumption))
      ((first
        | (go_at_call 20; refine (hat _ (by assumption)).mono ?_; rintro e w' ⟨rfl, hb1⟩)
        | (go_at_call 25; refine (hrat _ (by assumption)).mono ?_; rintro e w' ⟨rfl, rfl⟩)
        | (go_at_call 21; refine (hhas _ (by assumption)).mono ?_; rintro e w' ⟨rfl, hb2⟩)
        | (go_at_call 19; refine (hlen _ (by assumption)).mono ?_; rintro e w' ⟨rfl, rfl⟩)
        | (go_at_call 17; refine (hlist _ (by assumption)).mono ?_; rintro e wl ⟨v, rfl, hrow, hb3⟩)
        | (go_at_call 18; refine (hsame _ _ (by assumption) (by assumption)).mono ?_; rintro e ws ⟨rfl, hb4⟩)
        | (go_at_call 23; refine (hset _ (by assumption)).mono ?_; rintro e ws ⟨rfl, hb5⟩)
        | (go_at_call 26; refine (hrset _ (by assumption)).mono ?_; rintro e ws ⟨rfl, rfl⟩)))
    have hbe := below_next HB.out hb5
    clear hat hrat hhas hlen hlist hsame hset hrset hk hb1 hb2 hb3 hb4 hb5 hD0
    go_wp2_with fail
    go_ret
    exact ⟨rfl, hbe⟩
end Go.Proofs.Ytcllnblmcdgkiaa
