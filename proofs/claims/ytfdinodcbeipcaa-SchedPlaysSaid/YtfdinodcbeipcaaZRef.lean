/-
  The document's scheduler in memory; the walks of tollbarref23's has, put, Make, Next, Push, Back, Leave, End.
-/
import Derived.Deep.RegionLaw
import Derived.Test.YtfdinodcbeipcaaZSteps
namespace Go.Proofs.Ytfdinodcbeipcaa
open Go.RowKit

/-- A row of ints, at one place. -/
theorem RowI.at {W : World} {a : Option Addr} {n c : Nat} {xs : List Int} (h : RowI W (.slice a n c) xs) {k : Nat} (hk : k < xs.length) : ∃ b off, a = some ⟨b, off, none⟩ ∧ b < W.heap.size ∧ W.cell? ⟨b, off + k, none⟩ = some (.int .i64 (xs[k]?.getD 0)) := by
  rcases h with ⟨rfl, _⟩ | ⟨b, off, c', he, _, hlt, hc⟩
  · simp at hk
  · simp only [Value.slice.injEq] at he
    obtain ⟨rfl, -, -⟩ := he
    exact ⟨b, off, rfl, hlt, hc k hk⟩
theorem RowI.slice {w : World} {v : Value} {xs : List Int} (h : RowI w v xs) : ∃ a c, v = .slice a xs.length c := by
  rcases h with ⟨rfl, a, c, rfl⟩ | ⟨b, off, c, rfl, _⟩
  · exact ⟨a, c, rfl⟩
  · exact ⟨_, c, rfl⟩
theorem ownsRow_at {W : World} {base : Nat} {e : TypeId} {size : Nat} {v : Value} {k : Nat} {xs : List Value} (h : W.ownsRow base e size v k xs) {g : Nat} (hg : v.ownBlock = some g) : ∃ cs z, W.heap[g]? = some (Obj.cells cs e z) := by
  rcases h.2 with ⟨rfl, _⟩ | ⟨g', cap, cur, rfl, _, hgb, _⟩
  · simp [Value.ownBlock] at hg
  · obtain rfl : g' = g := by simpa [Value.ownBlock] using hg
    exact ⟨_, _, hgb⟩
theorem ownsRow_low {W : World} {base : Nat} {e : TypeId} {size : Nat} {v : Value} {k : Nat} {xs : List Value} (h : W.ownsRow base e size v k xs) : W.ownsRow 0 e size v k xs :=
  ⟨h.1, h.2.imp id (fun ⟨g, cap, cur, h1, _, r⟩ => ⟨g, cap, cur, h1, Nat.zero_le _, r⟩)⟩
theorem own_turn {W : World} {base : Nat} {e : TypeId} {size n m : Nat} {v : Value} {xs ys : List Value} (h : W.ownsRow base e size v n xs) (hn : n = m) (hx : xs = ys) : W.ownsRow 0 e size v m ys := by
  subst hn hx; exact ownsRow_low h

/-- Block R is the document's scheduler of these numbers and this row. -/
def RRaw (W : World) (R m made live busy : Nat) (l : List Int) : Prop :=
  ∃ sv, W.heap[R]? = some (Obj.cells #[.int .i64 (m : Int), sv, .int .i64 (made : Int), .int .i64 (live : Int), .int .i64 (busy : Int)] 31 (0, 0)) ∧ W.ownsRow 0 3 1 sv l.length (I64 l)
abbrev RefS (W : World) (R : Nat) (s : Ss) : Prop := RRaw W R s.m s.made s.live s.busy s.l
def NotInt (W : World) (T : List Nat) : Prop := ∀ x ∈ T, ∀ cs z, W.heap[x]? ≠ some (Obj.cells cs 3 z)

section
variable {W W' : World} {R m made live busy : Nat} {l : List Int}
theorem RRaw.lt (h : RRaw W R m made live busy l) : R < W.heap.size := by obtain ⟨sv, h, _⟩ := h; exact (Array.getElem?_eq_some_iff.1 h).1
theorem RRaw.but (h : RRaw W R m made live busy l) {T : List Nat} (hb : But T W W') (hR : R ∉ T) (hT : NotInt W T) : RRaw W' R m made live busy l := by
  obtain ⟨sv, h1, h2⟩ := h
  refine ⟨sv, (hb.block R (Array.getElem?_eq_some_iff.1 h1).1 hR).trans h1, hb.row h2 (fun g hg hm => ?_)⟩
  obtain ⟨cs, z, hgb⟩ := ownsRow_at h2 hg
  exact hT g hm cs z hgb
theorem RRaw.fresh (h : RRaw W R m made live busy l) (hb : But [] W W') : RRaw W' R m made live busy l := h.but hb (by simp) (by intro x hx; cases hx)
theorem RRaw.drewN (h : RRaw W R m made live busy l) (n : Nat) : RRaw (W.drewN n) R m made live busy l := h.fresh ((But.refl [] W).drewN n)
theorem RRaw.cells (h : RRaw W R m made live busy l) : W.cell? ⟨R, 0, none⟩ = some (.int .i64 (m : Int)) ∧ W.cell? ⟨R, 2, none⟩ = some (.int .i64 (made : Int)) ∧ W.cell? ⟨R, 3, none⟩ = some (.int .i64 (live : Int)) ∧ W.cell? ⟨R, 4, none⟩ = some (.int .i64 (busy : Int)) := by
  obtain ⟨sv, h1, _⟩ := h; simp [World.cell?, h1]
theorem RRaw.frozen (h : RRaw W R m made live busy l) (k : Nat) : W.frozen? ⟨R, k, none⟩ = false := by
  obtain ⟨sv, h1, _⟩ := h; simp [World.frozen?, h1]
theorem RRaw.rowAt (h : RRaw W R m made live busy l) : ∃ sv, W.cell? ⟨R, 1, none⟩ = some sv ∧ W.ownsRow 0 3 1 sv l.length (I64 l) := by
  obtain ⟨sv, h1, h2⟩ := h; exact ⟨sv, by simp [World.cell?, h1], h2⟩
theorem grownBy_setCell'' (W : World) (B k : Nat) (v : Value) : W.grownBy (W.setCell ⟨B, k, none⟩ v) (some B) :=
  ⟨rfl, rfl, rfl, (KeepsWalks.setCell W _ v).size, fun i _ hk => Below.heap_setCell _ _ _ i (fun e => hk (by rw [e]))⟩
theorem owns_set {sv : Value} {k j : Nat} {v : Value} {cs : Array Value} {z : Nat × Nat} (h1 : W.heap[R]? = some (Obj.cells cs 31 z)) (h2 : W.ownsRow 0 3 1 sv k (I64 l)) : (W.setCell ⟨R, j, none⟩ v).ownsRow 0 3 1 sv k (I64 l) := by
  refine h2.kept (grownBy_setCell'' W R j v) ?_
  cases hb' : sv.ownBlock with
  | none => exact .inl rfl
  | some g =>
    refine .inr fun e => ?_
    obtain ⟨ds, y, hgb⟩ := ownsRow_at h2 hb'
    cases e
    rw [h1] at hgb
    cases hgb
theorem RRaw.set2 (h : RRaw W R m made live busy l) {x : Int} {n : Nat} (hx : x = (n : Int)) : RRaw (W.setCell ⟨R, 2, none⟩ (.int .i64 x)) R m n live busy l := by
  subst hx; obtain ⟨sv, h1, h2⟩ := h; exact ⟨sv, heap_set_same _ h1, owns_set h1 h2⟩
theorem RRaw.set3 (h : RRaw W R m made live busy l) {x : Int} {n : Nat} (hx : x = (n : Int)) : RRaw (W.setCell ⟨R, 3, none⟩ (.int .i64 x)) R m made n busy l := by
  subst hx; obtain ⟨sv, h1, h2⟩ := h; exact ⟨sv, heap_set_same _ h1, owns_set h1 h2⟩
theorem RRaw.set4 (h : RRaw W R m made live busy l) {x : Int} {n : Nat} (hx : x = (n : Int)) : RRaw (W.setCell ⟨R, 4, none⟩ (.int .i64 x)) R m made live n l := by
  subst hx; obtain ⟨sv, h1, h2⟩ := h; exact ⟨sv, heap_set_same _ h1, owns_set h1 h2⟩
/-- What a store says of the row. -/
theorem RRaw.of_set {w1 : World} {xs : List Int} {sv' : Value} (h : RRaw W R m made live busy l) (he : W' = w1.setCell ⟨R, 1, none⟩ sv') (ho : w1.ownsRow 0 3 1 sv' xs.length (I64 xs)) (hg : But [] W w1) : RRaw W' R m made live busy xs ∧ But [R] W W' := by
  subst he
  obtain ⟨sv, h1, h2⟩ := id h
  have hb : w1.heap[R]? = _ := (hg.block R h.lt (by simp)).trans h1
  exact ⟨⟨sv', heap_set_same _ hb, owns_set hb ho⟩, (hg.mono (by simp)).set (p := ⟨R, 1, none⟩) (by simp) _⟩
theorem butR {w : World} {k : Nat} {v : Value} (h : But [R] w W) : But [R] w (W.setCell ⟨R, k, none⟩ v) := h.set (p := ⟨R, k, none⟩) (by simp) v
end

set_option maxHeartbeats 800000 in
theorem rhas_any {R m made live busy : Nat} {xs : List Int} (i : Int) (w : World) (h : RRaw w R m made live busy xs) (hl : xs.length ≤ 1024) :
    Calls Try.prog 34 #[.pointer (some ⟨R, 0, none⟩), .int .i64 i] w fun e w' => e = .returned (.bool (decide (i ∈ xs))) ∧ w' = w := by
  obtain ⟨sv, hc, h2⟩ := h.rowAt
  have hrow := RowI.of_owns (ownsRow_low h2)
  obtain ⟨p, c, rfl⟩ := hrow.slice
  clear h h2
  go_enter Try.func34, Try.ntmps34
  go_wp2_with fail
  go_loopw [5] (fun iv wr => ∃ k : Nat, k ≤ xs.length ∧ iv = .int .i64 (k : Int) ∧ i ∉ xs.take k ∧ wr = w) (fun iv _ => xs.length - (intOf iv).toNat)
  case atStart => exact ⟨0, Nat.zero_le _, rfl, by simp, rfl⟩
  case round =>
    obtain ⟨k, hk, rfl, hn, rfl⟩ := hrel
    by_cases hlt : k < xs.length
    · have hlt' : (k : Int) < (xs.length : Int) := by omega
      have k0 : (0 : Int) ≤ (k : Int) := by omega
      obtain ⟨b, off, rfl, hb, hcell⟩ := hrow.at hlt
      obtain ⟨x, hx⟩ : ∃ x, xs[k]? = some x := ⟨_, List.getElem?_eq_getElem hlt⟩
      rw [hx] at hcell
      simp only [Option.getD_some] at hcell
      by_cases e : x = i
      · subst e
        have HF : Hid (true = decide (x ∈ xs)) := Lib.hid (by simp [List.mem_of_getElem? hx])
        have hxx : (x == x) = true := by simp
        clear hx hn
        go_wp2_with fail
        go_ret
        exact ⟨ret_b HF.out, rfl⟩
      · have hxx : (x == i) = false := by simpa using e
        have HN : Hid (i ∉ xs.take (k + 1)) := Lib.hid (by
          rw [take_snocI xs k hlt, hx]
          simp only [Option.getD_some, List.mem_append, List.mem_singleton, not_or]
          exact ⟨hn, fun e' => e e'.symm⟩)
        clear hx hn
        go_wp2_with fail
        go_roundw
        case rel => exact ⟨k + 1, by omega, by go_num, HN.out, by first | rfl | trivial⟩
        case measure => simp [intOf]; omega
    · obtain rfl : k = xs.length := by omega
      have hlt' : ¬ ((xs.length : Int) < (xs.length : Int)) := by omega
      have HF : Hid (false = decide (i ∈ xs)) := Lib.hid (by rw [List.take_length] at hn; simp [hn])
      clear hn
      go_wp2_with fail
      go_ret
      exact ⟨ret_b HF.out, rfl⟩

/-! ### Put -/
set_option maxHeartbeats 400000 in
theorem rput_nil {R : Nat} (i : Int) (w : World) (c0 : w.cell? ⟨R, 1, none⟩ = some (.slice none 0 0)) (f0 : w.frozen? ⟨R, 1, none⟩ = false) (hR : R < w.heap.size) :
    Calls Try.prog 30 #[.pointer (some ⟨R, 0, none⟩), .int .i64 i] w fun e w' => e = .returned (.tuple #[]) ∧ ∃ w1 sv', w' = w1.setCell ⟨R, 1, none⟩ sv' ∧ w1.ownsRow 0 3 1 sv' 1 [.int .i64 i] ∧ But [] w w1 := by
  obtain ⟨i0, hi, hz0, hz1, hz2⟩ := info_parts infoInt
  go_enter Try.func30, Try.ntmps30
  go_wp2_with (at_builtin; refine wpList_append_own _ rfl _ _ 29 rfl w.heap.size 3 i0 (.int .i64 0) 1 8 Try.underlying29 hi hz0 hz1 hz2 rfl (by decide) _ 0 [] rfl (World.ownsRow_nil _ _ _ _) ⟨w.heap.size, 0, none⟩ 1 1 [.int .i64 i] rfl rfl ?c1 ?c2 ?c3 ?c4 ?c5 ?_)
  case c1 => exact cell_one_new _ _ _
  case c2 => first | rfl | (intro x hx; simp at hx; subst hx; rfl)
  case c3 => unfold maxLen; omega
  case c4 => omega
  case c5 => first | exact Nat.le_refl _ | omega | (simp; done) | (simp; omega)
  intro v' w1 hown hgrow _
  obtain ⟨g', cap', rfl⟩ := ownsRow_succ hown
  have hg0 : w.grownBy w1 none := (World.grownBy_alloc _ _ none).trans hgrow
  have k1 := World.grownBy.cell hg0 c0 (by simp)
  have kf : w1.frozen? ⟨R, 1, none⟩ = false := (World.frozen?_of_block (w := w) (a := ⟨R, 1, none⟩) (hg0.block R hR (by simp))).trans f0
  have HB := Lib.hid (But.of_none hg0 [])
  have HO := Lib.hid (ownsRow_low hown)
  clear hown hgrow hg0
  go_wp2_with fail
  go_end0
  exact ⟨rfl, w1, _, rfl, HO.out, HB.out⟩
set_option maxHeartbeats 400000 in
theorem rput_row {R g cap : Nat} {ys : List Int} (i : Int) (w : World) (c0 : w.cell? ⟨R, 1, none⟩ = some (.slice (some ⟨g, 0, none⟩) ys.length cap)) (f0 : w.frozen? ⟨R, 1, none⟩ = false) (hR : R < w.heap.size)
    (hrow : w.ownsRow 0 3 1 (.slice (some ⟨g, 0, none⟩) ys.length cap) ys.length (I64 ys)) (hm : ys.length ≤ 1024) :
    Calls Try.prog 30 #[.pointer (some ⟨R, 0, none⟩), .int .i64 i] w fun e w' => e = .returned (.tuple #[]) ∧ ∃ w1 sv', w' = w1.setCell ⟨R, 1, none⟩ sv' ∧ w1.ownsRow 0 3 1 sv' (ys.length + 1) (I64 ys ++ [.int .i64 i]) ∧ But [] w w1 := by
  obtain ⟨i0, hi, hz0, hz1, hz2⟩ := info_parts infoInt
  go_enter Try.func30, Try.ntmps30
  go_wp2_with (at_builtin; refine wpList_append_own _ rfl _ _ 29 rfl w.heap.size 3 i0 (.int .i64 0) 1 8 Try.underlying29 hi hz0 hz1 hz2 rfl (by decide) _ 0 [] rfl (World.ownsRow_nil _ _ _ _) ⟨g, 0, none⟩ ys.length cap (I64 ys) rfl ?c0 ?c1 ?c2 ?c3 ?c4 ?c5 ?_)
  case c0 => rw [I64_len]; omega
  case c1 =>
    intro j u hj
    have := hrow.cellAt j (by have := I64_get hj; omega)
    by_cases h0 : j = 0
    · subst h0; simpa [Addr.add] using this.trans hj
    · simpa [Addr.add, h0] using this.trans hj
  case c2 => exact I64_one
  case c3 => unfold maxLen; omega
  case c4 => omega
  try (case c5 => first | exact Nat.le_refl _ | omega | (simp; done) | (simp; omega))
  intro v1 w1 hown hgrow _
  have hg0 : w.grownBy w1 none := hgrow
  clear hgrow
  have hsz := hg0.size
  have hown' : w1.ownsRow w.heap.size 3 1 v1 ys.length (I64 ys) := by simpa using hown
  replace hown := hown'
  clear hown'
  go_wp2_with (at_builtin; refine wpList_append_own _ rfl _ _ 29 rfl w.heap.size 3 i0 (.int .i64 0) 1 8 Try.underlying29 hi hz0 hz1 hz2 rfl (by decide) _ ys.length (I64 ys) rfl (hown.alloc _) ⟨w1.heap.size, 0, none⟩ 1 1 [.int .i64 i] rfl rfl ?c1 ?c2 ?c3 ?c4 ?c5 ?_)
  case c1 => exact cell_one_new _ _ _
  case c2 => first | rfl | (intro x hx; simp at hx; subst hx; rfl)
  case c3 => unfold maxLen; omega
  case c4 => omega
  try (case c5 => first | exact Nat.le_refl _ | omega | (simp; done) | (simp; omega))
  intro v2 w2 hown2 hgrow2 _
  obtain ⟨g', cap', rfl⟩ := ownsRow_succ hown2
  have hg1 : w.grownBy w2 none := by
    refine ⟨hgrow2.os.trans hg0.os, hgrow2.tape.trans hg0.tape, hgrow2.output.trans hg0.output, Nat.le_trans hsz (Nat.le_trans (by simp) hgrow2.size), fun k hk _ => ?_⟩
    refine (hgrow2.block k (by simp; omega) ?_).trans ((Below.heap_alloc w1 _ k (by omega)).trans (hg0.block k hk (by simp)))
    intro e
    rcases hown.2 with ⟨rfl, _⟩ | ⟨q, cp, cur, rfl, hb, _⟩
    · simp [Value.ownBlock] at e
    · simp [Value.ownBlock] at e; omega
  have k1 := World.grownBy.cell hg1 c0 (by simp)
  have kf : w2.frozen? ⟨R, 1, none⟩ = false := (World.frozen?_of_block (w := w) (a := ⟨R, 1, none⟩) (hg1.block R hR (by simp))).trans f0
  have HB := Lib.hid (But.of_none hg1 [])
  have HO := Lib.hid (ownsRow_low hown2)
  clear hown hown2 hgrow2 hg0 hg1 hrow
  go_wp2_with fail
  go_end0
  exact ⟨rfl, w2, _, rfl, HO.out, HB.out⟩
theorem rput_any {R m made live busy : Nat} {xs : List Int} (i : Int) (w : World) (h : RRaw w R m made live busy xs) (hl : xs.length ≤ 1024) :
    Calls Try.prog 30 #[.pointer (some ⟨R, 0, none⟩), .int .i64 i] w fun e w' => e = .returned (.tuple #[]) ∧ RRaw w' R m made live busy (xs ++ [i]) ∧ But [R] w w' := by
  obtain ⟨sv, hc, h2⟩ := h.rowAt
  have hf := h.frozen 1
  rcases h2.2 with ⟨rfl, h0⟩ | ⟨g, cap, cur, rfl, _⟩
  · obtain rfl : xs = [] := List.length_eq_zero_iff.mp h0
    refine (rput_nil i w hc hf h.lt).mono ?_
    rintro e w' ⟨rfl, w1, sv', h5, h6, h7⟩
    exact ⟨rfl, h.of_set h5 h6 h7⟩
  · refine (rput_row i w hc hf h.lt h2 hl).mono ?_
    rintro e w' ⟨rfl, w1, sv', h5, h6, h7⟩
    exact ⟨rfl, h.of_set h5 (by rw [I64_snoc]; simpa using h6) h7⟩
end Go.Proofs.Ytfdinodcbeipcaa
