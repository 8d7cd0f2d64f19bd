/-
  The walk of the law FrameDone.
-/
import Derived.Test.YtplajidagpimdaaHDoneT
import Derived.Test.YtplajidagpimdaaHMore
namespace Go.Proofs.Ytplajidagpimdaa
open Go.RowKit

attribute [local go_sem] eqRegs

/-- How many of the first k registers are other. -/
def diffF (g f : Fra) : Nat → Nat
  | 0 => 0
  | k + 1 => diffF g f k + if g.get k = f.get k then 0 else 1
theorem diff_le (g f : Fra) : ∀ k, diffF g f k ≤ k
  | 0 => Nat.le_refl _
  | k + 1 => by
    have := diff_le g f k
    show diffF g f k + (if _ then 0 else 1) ≤ k + 1
    split <;> omega
theorem diff_self (f : Fra) : ∀ k, diffF f f k = 0
  | 0 => rfl
  | k + 1 => by
    show diffF f f k + (if _ then 0 else 1) = 0
    rw [diff_self f k, if_pos rfl]
theorem diff_put (g f : Fra) {n : Nat} (hn : n < 8) (v : Int) : ∀ k, k ≤ 8 → diffF (g.put n v) f k ≤ diffF g f k + if n < k then 1 else 0
  | 0, _ => Nat.zero_le _
  | k + 1, hk => by
    have ih := diff_put g f hn v k (by omega)
    show diffF (g.put n v) f k + (if (g.put n v).get k = f.get k then 0 else 1) ≤ diffF g f k + (if g.get k = f.get k then 0 else 1) + _
    rw [get_put g hn (by omega) v]
    by_cases e : k = n
    · subst e
      rw [if_neg (Nat.lt_irrefl _)] at ih
      rw [if_pos (Nat.lt_succ_self _)]
      split <;> split <;> omega
    · rw [if_neg e]
      by_cases hlt : n < k
      · rw [if_pos hlt] at ih
        rw [if_pos (show n < k + 1 by omega)]
        omega
      · rw [if_neg hlt] at ih
        rw [if_neg (show ¬ n < k + 1 by omega)]
        omega
theorem diff_put8 (g f : Fra) {n : Nat} (hn : n < 8) (v : Int) : diffF (g.put n v) f 8 ≤ diffF g f 8 + 1 := by
  have := diff_put g f hn v 8 (Nat.le_refl _)
  rw [if_pos hn] at this
  exact this
theorem diff_goto (g f : Fra) (v : Int) : ∀ k, diffF (g.goto v) f k = diffF g f k
  | 0 => rfl
  | k + 1 => by
    show diffF (g.goto v) f k + (if (g.goto v).get k = _ then 0 else 1) = diffF g f k + (if g.get k = _ then 0 else 1)
    rw [diff_goto g f v k, show (g.goto v).get k = g.get k from by unfold Fra.get Fra.goto; rfl]
theorem diff_done {p : Prg} {f : Fra} {x : In} {k : Int} {c : Cas} (v : Int) (ok : Bool) (hm : checkW p = none) (hx : atF p f = some x) (hc : servedF p x k = some c) :
    diffF (doneG c x f k v ok) f 8 ≤ 3 ∧ (x.o ≠ 6 → x.o ≠ 8 → diffF (doneG c x f k v ok) f 8 = 0) := by
  obtain ⟨⟨hv0, hv1⟩, ⟨ho0, ho1⟩⟩ := served_regs hm hx hc
  obtain ⟨-, hb0, hb1⟩ := at_regs hm hx
  have e : diffF (doneG c x f k v ok) f 8 = diffF (numF x (recF c f v ok) k) f 8 := by
    unfold doneG pcF
    split
    · rfl
    · rw [diff_goto]
  have h1 : diffF (recF c f v ok) f 8 ≤ 2 := by
    unfold recF
    split
    · rw [diff_self]; omega
    · have a1 := diff_put8 (f.put c.v.toNat v) f (n := c.o.toNat) (by omega) (if ok then 1 else 0)
      have a2 := diff_put8 f f (n := c.v.toNat) (by omega) v
      rw [diff_self] at a2
      omega
  refine ⟨?_, fun h6 h8 => ?_⟩
  · rw [e]
    unfold numF
    split
    · have := diff_put8 (recF c f v ok) f (n := x.b.toNat) (by omega) k
      omega
    · omega
  · rw [e]
    unfold numF
    rw [if_neg h8]
    have hs : c.s = true := by
      unfold servedF at hc
      rw [if_neg h8] at hc
      by_cases hk : k = -1
      · rw [if_pos hk, if_neg h6] at hc
        obtain rfl := Option.some.inj hc
        rfl
      · rw [if_neg hk] at hc
        cases hc
    unfold recF
    rw [if_pos hs, diff_self]
theorem done_cases (p : Prg) (f : Fra) (k v : Int) (ok : Bool) : doneF p f k v ok = (Fra.zero, 2) ∨ doneF p f k v ok = (Fra.zero, 8) ∨ ∃ x c, atF p f = some x ∧ locO x.o = false ∧ servedF p x k = some c ∧ doneF p f k v ok = (doneG c x f k v ok, 0) := by
  unfold doneF
  cases hx : atF p f with
  | none => exact .inl rfl
  | some x =>
    cases hl : locO x.o with
    | true => exact .inr (.inl (by simp [hl]))
    | false =>
      cases hs : servedF p x k with
      | none => exact .inl (by simp [hl, hs])
      | some c => exact .inr (.inr ⟨x, c, rfl, hl, hs, by simp [hl, hs]⟩)

set_option maxRecDepth 100000 in
set_option maxHeartbeats 6400000 in
theorem fdone_any {lo hi : Nat} {v1 v2 v3 : Value} {p : Prg} (f : Fra) (k v : Int) (ok : Bool) (w : World) (h : PrgAt lo hi w v1 v2 v3 p) :
    Calls Try.prog 6 #[.agg #[v1, v2, v3], fraV f, .int .i64 k, .int .i64 v, .bool ok] w fun e w' => e = .returned (.bool true) ∧ Below w.heap.size w w' := by
  obtain ⟨wf, hwf⟩ : ∃ wf, wf = (w.alloc (.cells #[v1, v2, v3] 26)).alloc (.cells (fraA f) 29) := ⟨_, rfl⟩
  have hB0 : Below w.heap.size w wf := by rw [hwf]; exact below2 w _ _
  have hP : Blk wf w.heap.size 26 #[v1, v2, v3] := by rw [hwf]; exact (blk_new w _ _).alloc _
  have hF : FrAt wf (w.heap.size + 1) f := by rw [hwf]; exact blk_at (by simp)
  have hlp : Calls Try.prog 7 #[.agg #[v1, v2, v3]] wf (LongPost wf p) := long_any wf (h.later hB0)
  have hfin : ∀ W, Below w.heap.size w W → Calls Try.prog 9 #[] W fun e w' => e = .returned (.bool true) ∧ Below w.heap.size w w' := fun W hW => (alive_any W).mono fun e w' ⟨e1, e2⟩ => ⟨e1, below_next hW e2 (Nat.le_refl _)⟩
  have p0 := hP.cell (k := 0) (v := v1) rfl
  have p1 := hP.cell (k := 1) (v := v2) rfl
  have p2 := hP.cell (k := 2) (v := v3) rfl
  rw [hwf] at p0 p1 p2
  go_enter Try.func6, Try.ntmps6
  go_wp2_with fail
  rw [← hwf]
  clear hwf p0 p1 p2
  refine hlp.mono ?_
  rintro e w1 ⟨b1, rfl, hT1, hb1⟩
  have hB1 := below_next hB0 hb1 (Nat.le_refl _)
  have hP1 := hP.later hb1 hP.lt
  have hF1 := hF.later hb1 hF.lt
  clear hlp hb1 hP hB0 hF
  cases b1 with
  | true =>
    go_wp2_with (go_at_call 9; refine (hfin _ hB1).mono ?_; rintro e w2 ⟨rfl, hb⟩)
    go_ret
    exact ⟨rfl, hb⟩
  | false =>
    have tame := hT1 rfl
    clear hT1
    have hsn := sane_any w1 (h.later hB1) tame.small
    have p0 := hP1.cell (k := 0) (v := v1) rfl
    have p1 := hP1.cell (k := 1) (v := v2) rfl
    have p2 := hP1.cell (k := 2) (v := v3) rfl
    go_wp2_with fail
    refine hsn.mono ?_
    rintro e w2 ⟨b2, rfl, hmay, hb2⟩
    have hB2 := below_next hB1 hb2 (Nat.le_refl _)
    have hP2 := hP1.later hb2 hP1.lt
    have hF2 := hF1.later hb2 hF1.lt
    clear hsn hP1 hF1 hB1 hb2 p0 p1 p2
    cases b2 with
    | false =>
      go_wp2_with (go_at_call 9; refine (hfin _ hB2).mono ?_; rintro e w3 ⟨rfl, hb⟩)
      go_ret
      exact ⟨rfl, hb⟩
    | true =>
      have may := hmay rfl
      clear hmay
      have hdo := done_any w2 (h.later hB2) tame.small may f k v ok
      have hrd := fun W (hW : Below w.heap.size w W) => rdone_any W (h.later hW) tame.small may f k v ok
      rcases done_cases p f k v ok with hd | hd | ⟨x, c, hx, hl, hsv, hd⟩
      · have hk0 := hB2.size
        clear hk0
        have hda : Calls Try.prog 20 #[.agg #[v1, v2, v3], fraV f, .int .i64 k, .int .i64 v, .bool ok] w2 fun e w' => e = .returned (.tuple #[.agg #[.int .i64 0, .int .i64 0, .int .i64 0, .int .i64 0, .int .i64 0, .int .i64 0, .int .i64 0, .int .i64 0, .int .i64 0, .int .i64 0], .int .i64 2]) ∧ Below w2.heap.size w2 w' := by rw [hd] at hdo; exact hdo
        have hrb : ∀ W, Below w.heap.size w W → Calls Try.prog 21 #[.agg #[v1, v2, v3], fraV f, .int .i64 k, .int .i64 v, .bool ok] W fun e w' => e = .returned (.tuple #[.agg #[.int .i64 0, .int .i64 0, .int .i64 0, .int .i64 0, .int .i64 0, .int .i64 0, .int .i64 0, .int .i64 0, .int .i64 0, .int .i64 0], .int .i64 2]) ∧ Below W.heap.size W w' := fun W hW => by have := hrd W hW; rw [hd] at this; exact this
        clear hdo hrd hd
        have p0 := hP2.cell (k := 0) (v := v1) rfl
        have p1 := hP2.cell (k := 1) (v := v2) rfl
        have p2 := hP2.cell (k := 2) (v := v3) rfl
        obtain ⟨q0, q1, q2, q3, q4, q5, q6, q7, q8, q9⟩ := fra_cells hF2
        go_wp2_with fail
        refine hda.mono ?_
        clear hda p0 p1 p2 q0 q1 q2 q3 q4 q5 q6 q7 q8 q9
        rintro e w3 ⟨rfl, hb3⟩
        have hB3 := below_next hB2 hb3 (Nat.le_refl _)
        have hP3 := hP2.later hb3 hP2.lt
        have hF3 := hF2.later hb3 hF2.lt
        obtain ⟨A, hA⟩ : ∃ A, A = w3.heap.size := ⟨_, rfl⟩
        obtain ⟨w4, hw4⟩ : ∃ w4, w4 = w3.alloc (.cells #[.int .i64 0, .int .i64 0, .int .i64 0, .int .i64 0, .int .i64 0, .int .i64 0, .int .i64 0, .int .i64 0, .int .i64 0, .int .i64 0] 29) := ⟨_, rfl⟩
        have hB4 : Below w.heap.size w w4 := by rw [hw4]; exact hB3.alloc hB3.size _
        have hP4 : Blk w4 w.heap.size 26 #[v1, v2, v3] := by rw [hw4]; exact hP3.alloc _
        have hF4 : FrAt w4 (w.heap.size + 1) f := by rw [hw4]; exact hF3.alloc _
        have hA4 : Blk w4 A 29 #[.int .i64 0, .int .i64 0, .int .i64 0, .int .i64 0, .int .i64 0, .int .i64 0, .int .i64 0, .int .i64 0, .int .i64 0, .int .i64 0] := by rw [hw4, hA]; exact blk_new w3 _ _
        have hrc := hrb w4 hB4
        clear hb3 hP2 hF2 hB2 hP3 hF3 hB3 hrb
        have p0 := hP4.cell (k := 0) (v := v1) rfl
        have p1 := hP4.cell (k := 1) (v := v2) rfl
        have p2 := hP4.cell (k := 2) (v := v3) rfl
        obtain ⟨q0, q1, q2, q3, q4, q5, q6, q7, q8, q9⟩ := fra_cells hF4
        rw [hw4] at p0 p1 p2 q0 q1 q2 q3 q4 q5 q6 q7 q8 q9
        go_wp2_with fail
        rw [← hw4, ← hA]
        refine hrc.mono ?_
        clear hrc p0 p1 p2 q0 q1 q2 q3 q4 q5 q6 q7 q8 q9 hw4 hA
        rintro e w5 ⟨rfl, hb5⟩
        have hB5 := below_next hB4 hb5 (Nat.le_refl _)
        have hP5 := hP4.later hb5 hP4.lt
        have hF5 := hF4.later hb5 hF4.lt
        have hA5 := hA4.later hb5 hA4.lt
        obtain ⟨C, hC⟩ : ∃ C, C = w5.heap.size := ⟨_, rfl⟩
        obtain ⟨w6, hw6⟩ : ∃ w6, w6 = w5.alloc (.cells #[.int .i64 0, .int .i64 0, .int .i64 0, .int .i64 0, .int .i64 0, .int .i64 0, .int .i64 0, .int .i64 0, .int .i64 0, .int .i64 0] 29) := ⟨_, rfl⟩
        have hB6 : Below w.heap.size w w6 := by rw [hw6]; exact hB5.alloc hB5.size _
        have hP6 : Blk w6 w.heap.size 26 #[v1, v2, v3] := by rw [hw6]; exact hP5.alloc _
        have hF6 : FrAt w6 (w.heap.size + 1) f := by rw [hw6]; exact hF5.alloc _
        have hA6 : Blk w6 A 29 #[.int .i64 0, .int .i64 0, .int .i64 0, .int .i64 0, .int .i64 0, .int .i64 0, .int .i64 0, .int .i64 0, .int .i64 0, .int .i64 0] := by rw [hw6]; exact hA5.alloc _
        have hC6 : Blk w6 C 29 #[.int .i64 0, .int .i64 0, .int .i64 0, .int .i64 0, .int .i64 0, .int .i64 0, .int .i64 0, .int .i64 0, .int .i64 0, .int .i64 0] := by rw [hw6, hC]; exact blk_new w5 _ _
        clear hb5 hB4 hP4 hF4 hA4 hB5 hP5 hF5 hA5
        have a0 := hA6.cell (k := 0) (v := .int .i64 0) rfl
        have a1 := hA6.cell (k := 1) (v := .int .i64 0) rfl
        have a2 := hA6.cell (k := 2) (v := .int .i64 0) rfl
        have a3 := hA6.cell (k := 3) (v := .int .i64 0) rfl
        have a4 := hA6.cell (k := 4) (v := .int .i64 0) rfl
        have a5 := hA6.cell (k := 5) (v := .int .i64 0) rfl
        have a6 := hA6.cell (k := 6) (v := .int .i64 0) rfl
        have a7 := hA6.cell (k := 7) (v := .int .i64 0) rfl
        have a8 := hA6.cell (k := 8) (v := .int .i64 0) rfl
        have a9 := hA6.cell (k := 9) (v := .int .i64 0) rfl
        have c0 := hC6.cell (k := 0) (v := .int .i64 0) rfl
        have c1 := hC6.cell (k := 1) (v := .int .i64 0) rfl
        have c2 := hC6.cell (k := 2) (v := .int .i64 0) rfl
        have c3 := hC6.cell (k := 3) (v := .int .i64 0) rfl
        have c4 := hC6.cell (k := 4) (v := .int .i64 0) rfl
        have c5 := hC6.cell (k := 5) (v := .int .i64 0) rfl
        have c6 := hC6.cell (k := 6) (v := .int .i64 0) rfl
        have c7 := hC6.cell (k := 7) (v := .int .i64 0) rfl
        have c8 := hC6.cell (k := 8) (v := .int .i64 0) rfl
        have c9 := hC6.cell (k := 9) (v := .int .i64 0) rfl
        rw [hw6] at a0 a1 a2 a3 a4 a5 a6 a7 a8 a9 c0 c1 c2 c3 c4 c5 c6 c7 c8 c9
        rw [hC] at c0 c1 c2 c3 c4 c5 c6 c7 c8 c9
        have hal := hfin w6 hB6
        rw [hw6] at hal
        go_wp2_with (go_at_call 9; refine hal.mono ?_; rintro e w9 ⟨rfl, hb⟩)
        go_ret
        exact ⟨rfl, hb⟩
      · have hk0 := hB2.size
        clear hk0
        have hda : Calls Try.prog 20 #[.agg #[v1, v2, v3], fraV f, .int .i64 k, .int .i64 v, .bool ok] w2 fun e w' => e = .returned (.tuple #[.agg #[.int .i64 0, .int .i64 0, .int .i64 0, .int .i64 0, .int .i64 0, .int .i64 0, .int .i64 0, .int .i64 0, .int .i64 0, .int .i64 0], .int .i64 8]) ∧ Below w2.heap.size w2 w' := by rw [hd] at hdo; exact hdo
        have hrb : ∀ W, Below w.heap.size w W → Calls Try.prog 21 #[.agg #[v1, v2, v3], fraV f, .int .i64 k, .int .i64 v, .bool ok] W fun e w' => e = .returned (.tuple #[.agg #[.int .i64 0, .int .i64 0, .int .i64 0, .int .i64 0, .int .i64 0, .int .i64 0, .int .i64 0, .int .i64 0, .int .i64 0, .int .i64 0], .int .i64 8]) ∧ Below W.heap.size W w' := fun W hW => by have := hrd W hW; rw [hd] at this; exact this
        clear hdo hrd hd
        have p0 := hP2.cell (k := 0) (v := v1) rfl
        have p1 := hP2.cell (k := 1) (v := v2) rfl
        have p2 := hP2.cell (k := 2) (v := v3) rfl
        obtain ⟨q0, q1, q2, q3, q4, q5, q6, q7, q8, q9⟩ := fra_cells hF2
        go_wp2_with fail
        refine hda.mono ?_
        clear hda p0 p1 p2 q0 q1 q2 q3 q4 q5 q6 q7 q8 q9
        rintro e w3 ⟨rfl, hb3⟩
        have hB3 := below_next hB2 hb3 (Nat.le_refl _)
        have hP3 := hP2.later hb3 hP2.lt
        have hF3 := hF2.later hb3 hF2.lt
        obtain ⟨A, hA⟩ : ∃ A, A = w3.heap.size := ⟨_, rfl⟩
        obtain ⟨w4, hw4⟩ : ∃ w4, w4 = w3.alloc (.cells #[.int .i64 0, .int .i64 0, .int .i64 0, .int .i64 0, .int .i64 0, .int .i64 0, .int .i64 0, .int .i64 0, .int .i64 0, .int .i64 0] 29) := ⟨_, rfl⟩
        have hB4 : Below w.heap.size w w4 := by rw [hw4]; exact hB3.alloc hB3.size _
        have hP4 : Blk w4 w.heap.size 26 #[v1, v2, v3] := by rw [hw4]; exact hP3.alloc _
        have hF4 : FrAt w4 (w.heap.size + 1) f := by rw [hw4]; exact hF3.alloc _
        have hA4 : Blk w4 A 29 #[.int .i64 0, .int .i64 0, .int .i64 0, .int .i64 0, .int .i64 0, .int .i64 0, .int .i64 0, .int .i64 0, .int .i64 0, .int .i64 0] := by rw [hw4, hA]; exact blk_new w3 _ _
        have hrc := hrb w4 hB4
        clear hb3 hP2 hF2 hB2 hP3 hF3 hB3 hrb
        have p0 := hP4.cell (k := 0) (v := v1) rfl
        have p1 := hP4.cell (k := 1) (v := v2) rfl
        have p2 := hP4.cell (k := 2) (v := v3) rfl
        obtain ⟨q0, q1, q2, q3, q4, q5, q6, q7, q8, q9⟩ := fra_cells hF4
        rw [hw4] at p0 p1 p2 q0 q1 q2 q3 q4 q5 q6 q7 q8 q9
        go_wp2_with fail
        rw [← hw4, ← hA]
        refine hrc.mono ?_
        clear hrc p0 p1 p2 q0 q1 q2 q3 q4 q5 q6 q7 q8 q9 hw4 hA
        rintro e w5 ⟨rfl, hb5⟩
        have hB5 := below_next hB4 hb5 (Nat.le_refl _)
        have hP5 := hP4.later hb5 hP4.lt
        have hF5 := hF4.later hb5 hF4.lt
        have hA5 := hA4.later hb5 hA4.lt
        obtain ⟨C, hC⟩ : ∃ C, C = w5.heap.size := ⟨_, rfl⟩
        obtain ⟨w6, hw6⟩ : ∃ w6, w6 = w5.alloc (.cells #[.int .i64 0, .int .i64 0, .int .i64 0, .int .i64 0, .int .i64 0, .int .i64 0, .int .i64 0, .int .i64 0, .int .i64 0, .int .i64 0] 29) := ⟨_, rfl⟩
        have hB6 : Below w.heap.size w w6 := by rw [hw6]; exact hB5.alloc hB5.size _
        have hP6 : Blk w6 w.heap.size 26 #[v1, v2, v3] := by rw [hw6]; exact hP5.alloc _
        have hF6 : FrAt w6 (w.heap.size + 1) f := by rw [hw6]; exact hF5.alloc _
        have hA6 : Blk w6 A 29 #[.int .i64 0, .int .i64 0, .int .i64 0, .int .i64 0, .int .i64 0, .int .i64 0, .int .i64 0, .int .i64 0, .int .i64 0, .int .i64 0] := by rw [hw6]; exact hA5.alloc _
        have hC6 : Blk w6 C 29 #[.int .i64 0, .int .i64 0, .int .i64 0, .int .i64 0, .int .i64 0, .int .i64 0, .int .i64 0, .int .i64 0, .int .i64 0, .int .i64 0] := by rw [hw6, hC]; exact blk_new w5 _ _
        clear hb5 hB4 hP4 hF4 hA4 hB5 hP5 hF5 hA5
        have a0 := hA6.cell (k := 0) (v := .int .i64 0) rfl
        have a1 := hA6.cell (k := 1) (v := .int .i64 0) rfl
        have a2 := hA6.cell (k := 2) (v := .int .i64 0) rfl
        have a3 := hA6.cell (k := 3) (v := .int .i64 0) rfl
        have a4 := hA6.cell (k := 4) (v := .int .i64 0) rfl
        have a5 := hA6.cell (k := 5) (v := .int .i64 0) rfl
        have a6 := hA6.cell (k := 6) (v := .int .i64 0) rfl
        have a7 := hA6.cell (k := 7) (v := .int .i64 0) rfl
        have a8 := hA6.cell (k := 8) (v := .int .i64 0) rfl
        have a9 := hA6.cell (k := 9) (v := .int .i64 0) rfl
        have c0 := hC6.cell (k := 0) (v := .int .i64 0) rfl
        have c1 := hC6.cell (k := 1) (v := .int .i64 0) rfl
        have c2 := hC6.cell (k := 2) (v := .int .i64 0) rfl
        have c3 := hC6.cell (k := 3) (v := .int .i64 0) rfl
        have c4 := hC6.cell (k := 4) (v := .int .i64 0) rfl
        have c5 := hC6.cell (k := 5) (v := .int .i64 0) rfl
        have c6 := hC6.cell (k := 6) (v := .int .i64 0) rfl
        have c7 := hC6.cell (k := 7) (v := .int .i64 0) rfl
        have c8 := hC6.cell (k := 8) (v := .int .i64 0) rfl
        have c9 := hC6.cell (k := 9) (v := .int .i64 0) rfl
        rw [hw6] at a0 a1 a2 a3 a4 a5 a6 a7 a8 a9 c0 c1 c2 c3 c4 c5 c6 c7 c8 c9
        rw [hC] at c0 c1 c2 c3 c4 c5 c6 c7 c8 c9
        have hal := hfin w6 hB6
        rw [hw6] at hal
        go_wp2_with (go_at_call 9; refine hal.mono ?_; rintro e w9 ⟨rfl, hb⟩)
        go_ret
        exact ⟨rfl, hb⟩
      · obtain ⟨G, hG⟩ : ∃ G, G = doneG c x f k v ok := ⟨_, rfl⟩
        rw [← hG] at hd
        have hgc : G.c = f.c := by rw [hG]; exact doneG_c c x f k v ok
        have hgp : G.p = if x.o = 10 then f.p else f.p + 1 := by rw [hG]; exact doneG_p c x f k v ok
        have hgat : (atF p G).isSome = true := by rw [hG]; exact doneG_at may hx hl c k v ok
        have hcnt := diff_done v ok may hx hsv
        rw [← hG] at hcnt
        have hpc := at_pc tame.small hx
        have HCNT := Lib.hid hcnt
        have HX := Lib.hid hx
        have HGC := Lib.hid hgc
        have HGP := Lib.hid hgp
        have HGA := Lib.hid hgat
        clear hG hcnt hx hl hsv hgc hgp hgat
        have hda : Calls Try.prog 20 #[.agg #[v1, v2, v3], fraV f, .int .i64 k, .int .i64 v, .bool ok] w2 fun e w' => e = .returned (.tuple #[fraV G, .int .i64 0]) ∧ Below w2.heap.size w2 w' := by rw [hd] at hdo; exact hdo
        have hrb : ∀ W, Below w.heap.size w W → Calls Try.prog 21 #[.agg #[v1, v2, v3], fraV f, .int .i64 k, .int .i64 v, .bool ok] W fun e w' => e = .returned (.tuple #[fraV G, .int .i64 0]) ∧ Below W.heap.size W w' := fun W hW => by have := hrd W hW; rw [hd] at this; exact this
        clear hdo hrd hd
        have p0 := hP2.cell (k := 0) (v := v1) rfl
        have p1 := hP2.cell (k := 1) (v := v2) rfl
        have p2 := hP2.cell (k := 2) (v := v3) rfl
        obtain ⟨q0, q1, q2, q3, q4, q5, q6, q7, q8, q9⟩ := fra_cells hF2
        go_wp2_with fail
        refine hda.mono ?_
        clear hda p0 p1 p2 q0 q1 q2 q3 q4 q5 q6 q7 q8 q9
        rintro e w3 ⟨rfl, hb3⟩
        have hB3 := below_next hB2 hb3 (Nat.le_refl _)
        have hP3 := hP2.later hb3 hP2.lt
        have hF3 := hF2.later hb3 hF2.lt
        obtain ⟨A, hA⟩ : ∃ A, A = w3.heap.size := ⟨_, rfl⟩
        obtain ⟨w4, hw4⟩ : ∃ w4, w4 = w3.alloc (.cells (fraA G) 29) := ⟨_, rfl⟩
        have hB4 : Below w.heap.size w w4 := by rw [hw4]; exact hB3.alloc hB3.size _
        have hP4 : Blk w4 w.heap.size 26 #[v1, v2, v3] := by rw [hw4]; exact hP3.alloc _
        have hF4 : FrAt w4 (w.heap.size + 1) f := by rw [hw4]; exact hF3.alloc _
        have hA4 : Blk w4 A 29 (fraA G) := by rw [hw4, hA]; exact blk_new w3 _ _
        have hrc := hrb w4 hB4
        clear hb3 hP2 hF2 hB2 hP3 hF3 hB3 hrb
        have p0 := hP4.cell (k := 0) (v := v1) rfl
        have p1 := hP4.cell (k := 1) (v := v2) rfl
        have p2 := hP4.cell (k := 2) (v := v3) rfl
        obtain ⟨q0, q1, q2, q3, q4, q5, q6, q7, q8, q9⟩ := fra_cells hF4
        rw [hw4] at p0 p1 p2 q0 q1 q2 q3 q4 q5 q6 q7 q8 q9
        go_wp2_with fail
        rw [← hw4, ← hA]
        refine hrc.mono ?_
        clear hrc p0 p1 p2 q0 q1 q2 q3 q4 q5 q6 q7 q8 q9 hw4 hA
        rintro e w5 ⟨rfl, hb5⟩
        have hB5 := below_next hB4 hb5 (Nat.le_refl _)
        have hP5 := hP4.later hb5 hP4.lt
        have hF5 := hF4.later hb5 hF4.lt
        have hA5 := hA4.later hb5 hA4.lt
        obtain ⟨C, hC⟩ : ∃ C, C = w5.heap.size := ⟨_, rfl⟩
        obtain ⟨w6, hw6⟩ : ∃ w6, w6 = w5.alloc (.cells (fraA G) 29) := ⟨_, rfl⟩
        have hB6 : Below w.heap.size w w6 := by rw [hw6]; exact hB5.alloc hB5.size _
        have hP6 : Blk w6 w.heap.size 26 #[v1, v2, v3] := by rw [hw6]; exact hP5.alloc _
        have hF6 : FrAt w6 (w.heap.size + 1) f := by rw [hw6]; exact hF5.alloc _
        have hA6 : Blk w6 A 29 (fraA G) := by rw [hw6]; exact hA5.alloc _
        have hC6 : Blk w6 C 29 (fraA G) := by rw [hw6, hC]; exact blk_new w5 _ _
        clear hb5 hB4 hP4 hF4 hA4 hB5 hP5 hF5 hA5
        obtain ⟨a0, a1, a2, a3, a4, a5, a6, a7, a8, a9⟩ := fra_cells hA6
        obtain ⟨c0, c1, c2, c3, c4, c5, c6, c7, c8, c9⟩ := fra_cells hC6
        have hat : Calls Try.prog 10 #[.agg #[v1, v2, v3], fraV f] w6 fun e w' => e = .returned (.tuple #[.agg #[.int .u8 (x.o : Int), .int .i64 x.a, .int .i64 x.b, .int .i64 x.c, .int .i64 x.k], .bool true]) ∧ Below w6.heap.size w6 w' := by have := fat_any w6 (h.later hB6) tame.small f; rw [HX.out] at this; exact this
        have p0 := hP6.cell (k := 0) (v := v1) rfl
        have p1 := hP6.cell (k := 1) (v := v2) rfl
        have p2 := hP6.cell (k := 2) (v := v3) rfl
        obtain ⟨q0, q1, q2, q3, q4, q5, q6, q7, q8, q9⟩ := fra_cells hF6
        rw [hw6] at a0 a1 a2 a3 a4 a5 a6 a7 a8 a9 c0 c1 c2 c3 c4 c5 c6 c7 c8 c9 q0 q1 q2 q3 q4 q5 q6 q7 q8 q9 p0 p1 p2
        rw [hC] at c0 c1 c2 c3 c4 c5 c6 c7 c8 c9
        go_wp2_with fail
        rw [← hw6, ← hC]
        refine hat.mono ?_
        clear hat a0 a1 a2 a3 a4 a5 a6 a7 a8 a9 c0 c1 c2 c3 c4 c5 c6 c7 c8 c9 q0 q1 q2 q3 q4 q5 q6 q7 q8 q9 p0 p1 p2 hw6 hC hC6
        rintro e w7 ⟨rfl, hb7⟩
        have hB7 := below_next hB6 hb7 (Nat.le_refl _)
        have hP7 := hP6.later hb7 hP6.lt
        have hF7 := hF6.later hb7 hF6.lt
        have hA7 := hA6.later hb7 hA6.lt
        obtain ⟨X, hX⟩ : ∃ X, X = w7.heap.size := ⟨_, rfl⟩
        obtain ⟨w8, hw8⟩ : ∃ w8, w8 = w7.alloc (.cells #[.int .u8 (x.o : Int), .int .i64 x.a, .int .i64 x.b, .int .i64 x.c, .int .i64 x.k] 33) := ⟨_, rfl⟩
        have hB8 : Below w.heap.size w w8 := by rw [hw8]; exact hB7.alloc hB7.size _
        have hP8 : Blk w8 w.heap.size 26 #[v1, v2, v3] := by rw [hw8]; exact hP7.alloc _
        have hF8 : FrAt w8 (w.heap.size + 1) f := by rw [hw8]; exact hF7.alloc _
        have hA8 : FrAt w8 A G := by rw [hw8]; exact hA7.alloc _
        have hX8 : Blk w8 X 33 #[.int .u8 (x.o : Int), .int .i64 x.a, .int .i64 x.b, .int .i64 x.c, .int .i64 x.k] := by rw [hw8, hX]; exact blk_new w7 _ _
        clear hb7 hB6 hP6 hF6 hA6 hB7 hP7 hF7 hA7
        have hck : Calls Try.prog 17 #[.agg #[v1, v2, v3], fraV G] w8 fun e w' => e = .returned (.int .i64 0) ∧ Below w8.heap.size w8 w' := by have := fcheck_any w8 (h.later hB8) tame.small G; rw [HGA.out] at this; exact this
        have p0 := hP8.cell (k := 0) (v := v1) rfl
        have p1 := hP8.cell (k := 1) (v := v2) rfl
        have p2 := hP8.cell (k := 2) (v := v3) rfl
        obtain ⟨a0, a1, a2, a3, a4, a5, a6, a7, a8, a9⟩ := fra_cells hA8
        rw [hw8] at p0 p1 p2 a0 a1 a2 a3 a4 a5 a6 a7 a8 a9
        go_wp2_with fail
        rw [← hw8, ← hX]
        refine hck.mono ?_
        clear hck p0 p1 p2 a0 a1 a2 a3 a4 a5 a6 a7 a8 a9 hw8 hX
        rintro e w9 ⟨rfl, hb9⟩
        have hB9 := below_next hB8 hb9 (Nat.le_refl _)
        have hF9 := hF8.later hb9 hF8.lt
        have hA9 := hA8.later hb9 hA8.lt
        have hX9 := hX8.later hb9 hX8.lt
        clear hb9 hB8 hP8 hF8 hA8 hX8
        have hwp : IntKind.i64.wrap (f.p + 1) = f.p + 1 := by rw [IntKind.wrap_i64]; omega
        have hgc : (G.c != f.c) = false := by rw [HGC.out]; simp
        have a0 := hA9.cell (k := 0) (v := .int .i64 G.c) rfl
        have a1 := hA9.cell (k := 1) (v := .int .i64 G.p) rfl
        have q0 := hF9.cell (k := 0) (v := .int .i64 f.c) rfl
        have q1 := hF9.cell (k := 1) (v := .int .i64 f.p) rfl
        have x0 := hX9.cell (k := 0) (v := .int .u8 (x.o : Int)) rfl

        by_cases h10 : x.o = 10
        · have hgp : (G.p != f.p + 1) = true := by rw [HGP.out, if_pos h10]; simp; omega
          have ho10 : ((x.o : Int) != 10) = false := by simp [h10]
          have HGE := Lib.hid ho10
          clear h10
          go_wp2_with fail
          go_loopw [17, 18] (fun cv iv wr => ∃ j : Nat, j ≤ 8 ∧ cv = .int .i64 (diffF G f j : Int) ∧ iv = .int .i64 (j : Int) ∧ Below w.heap.size w wr ∧ FrAt wr (w.heap.size + 1) f ∧ FrAt wr A G ∧ Blk wr X 33 #[.int .u8 (x.o : Int), .int .i64 x.a, .int .i64 x.b, .int .i64 x.c, .int .i64 x.k]) (fun _ iv _ => 8 - (intOf iv).toNat)
          case atStart => exact ⟨0, by omega, rfl, rfl, hB9, hF9, hA9, hX9⟩
          case round =>
            obtain ⟨j, hj, rfl, rfl, hBr, hFr, hAr, hXr⟩ := hrel
            clear hB9 hF9 hA9 hX9 a0 a1 q0 q1 x0 hgc hwp HGE
            by_cases hlt : j < 8
            · have hlt' : (j : Int) < 8 := by omega
              have hltd : decide ((j : Int) < 8) = true := decide_eq_true hlt'
              have j0 : (0 : Int) ≤ (j : Int) := by omega
              have hwj : IntKind.i64.wrap ((j : Int) + 1) = (j : Int) + 1 := by rw [IntKind.wrap_i64]; omega
              have ga := fra_cell hAr hlt
              have fa := fra_cell hFr hlt
              by_cases heq : G.get j = f.get j
              · have hne : (G.get j != f.get j) = false := by simp [heq]
                have HN : Hid (diffF G f (j + 1) = diffF G f j) := Lib.hid (by show diffF G f j + (if _ then 0 else 1) = _; rw [if_pos heq, Nat.add_zero])
                clear heq
                go_wp2_with fail
                go_quiet (fail)
                go_wp2_with fail
                go_roundw
                case rel => exact ⟨j + 1, by omega, by rw [HN.out], by go_num, below_drewN hBr _, hFr, hAr, hXr⟩
                case measure => simp [intOf]; omega
              · have hne : (G.get j != f.get j) = true := by simpa using heq
                have hdl := diff_le G f j
                have hwd : IntKind.i64.wrap ((diffF G f j : Int) + 1) = (diffF G f j : Int) + 1 := by rw [IntKind.wrap_i64]; omega
                have HN : Hid (diffF G f (j + 1) = diffF G f j + 1) := Lib.hid (by show diffF G f j + (if _ then 0 else 1) = _; rw [if_neg heq])
                clear heq
                go_wp2_with fail
                go_quiet (fail)
                go_wp2_with fail
                go_roundw
                case rel => exact ⟨j + 1, by omega, by rw [HN.out]; go_num, by go_num, below_drewN hBr _, hFr, hAr, hXr⟩
                case measure => simp [intOf]; omega
            · have hlt' : ¬ (j : Int) < 8 := by omega
              have hltd : decide ((j : Int) < 8) = false := decide_eq_false hlt'
              have hj8 : j = 8 := by omega
              have hcn : diffF G f j ≤ 3 ∧ (x.o ≠ 6 → x.o ≠ 8 → diffF G f j = 0) := by rw [hj8]; exact HCNT.out
              have hle : (diffF G f j : Int) ≤ 3 := by have := hcn.1; omega
              have hled : decide ((diffF G f j : Int) ≤ 3) = true := decide_eq_true hle
              have HC0 := Lib.hid hcn.2
              have x0 := hXr.cell (k := 0) (v := .int .u8 (x.o : Int)) rfl
              clear hcn hj8
              by_cases h6 : x.o = 6
              · have d6 : ((x.o : Int) == 6) = true := by simp [h6]
                clear h6
                go_wp2_with (go_at_call 9; refine (hfin _ hBr).mono ?_; rintro e w9 ⟨rfl, hb⟩)
                go_ret
                exact ⟨rfl, hb⟩
              have d6 : ((x.o : Int) == 6) = false := by simp; omega
              by_cases h8 : x.o = 8
              · have d8 : ((x.o : Int) == 8) = true := by simp [h8]
                clear h6 h8
                go_wp2_with (go_at_call 9; refine (hfin _ hBr).mono ?_; rintro e w9 ⟨rfl, hb⟩)
                go_ret
                exact ⟨rfl, hb⟩
              have d8 : ((x.o : Int) == 8) = false := by simp; omega
              have h0 := HC0.out h6 h8
              have d0 : ((diffF G f j : Int) == 0) = true := by simp [h0]
              clear h0 h6 h8
              go_wp2_with (go_at_call 9; refine (hfin _ hBr).mono ?_; rintro e w9 ⟨rfl, hb⟩)
              go_ret
              exact ⟨rfl, hb⟩
        · have hgp : (G.p != f.p + 1) = false := by rw [HGP.out, if_neg h10]; simp
          have HGE := Lib.hid hgp
          clear h10
          go_wp2_with fail
          go_loopw [17, 18] (fun cv iv wr => ∃ j : Nat, j ≤ 8 ∧ cv = .int .i64 (diffF G f j : Int) ∧ iv = .int .i64 (j : Int) ∧ Below w.heap.size w wr ∧ FrAt wr (w.heap.size + 1) f ∧ FrAt wr A G ∧ Blk wr X 33 #[.int .u8 (x.o : Int), .int .i64 x.a, .int .i64 x.b, .int .i64 x.c, .int .i64 x.k]) (fun _ iv _ => 8 - (intOf iv).toNat)
          case atStart => exact ⟨0, by omega, rfl, rfl, hB9, hF9, hA9, hX9⟩
          case round =>
            obtain ⟨j, hj, rfl, rfl, hBr, hFr, hAr, hXr⟩ := hrel
            clear hB9 hF9 hA9 hX9 a0 a1 q0 q1 x0 hgc hwp HGE
            by_cases hlt : j < 8
            · have hlt' : (j : Int) < 8 := by omega
              have hltd : decide ((j : Int) < 8) = true := decide_eq_true hlt'
              have j0 : (0 : Int) ≤ (j : Int) := by omega
              have hwj : IntKind.i64.wrap ((j : Int) + 1) = (j : Int) + 1 := by rw [IntKind.wrap_i64]; omega
              have ga := fra_cell hAr hlt
              have fa := fra_cell hFr hlt
              by_cases heq : G.get j = f.get j
              · have hne : (G.get j != f.get j) = false := by simp [heq]
                have HN : Hid (diffF G f (j + 1) = diffF G f j) := Lib.hid (by show diffF G f j + (if _ then 0 else 1) = _; rw [if_pos heq, Nat.add_zero])
                clear heq
                go_wp2_with fail
                go_quiet (fail)
                go_wp2_with fail
                go_roundw
                case rel => exact ⟨j + 1, by omega, by rw [HN.out], by go_num, below_drewN hBr _, hFr, hAr, hXr⟩
                case measure => simp [intOf]; omega
              · have hne : (G.get j != f.get j) = true := by simpa using heq
                have hdl := diff_le G f j
                have hwd : IntKind.i64.wrap ((diffF G f j : Int) + 1) = (diffF G f j : Int) + 1 := by rw [IntKind.wrap_i64]; omega
                have HN : Hid (diffF G f (j + 1) = diffF G f j + 1) := Lib.hid (by show diffF G f j + (if _ then 0 else 1) = _; rw [if_neg heq])
                clear heq
                go_wp2_with fail
                go_quiet (fail)
                go_wp2_with fail
                go_roundw
                case rel => exact ⟨j + 1, by omega, by rw [HN.out]; go_num, by go_num, below_drewN hBr _, hFr, hAr, hXr⟩
                case measure => simp [intOf]; omega
            · have hlt' : ¬ (j : Int) < 8 := by omega
              have hltd : decide ((j : Int) < 8) = false := decide_eq_false hlt'
              have hj8 : j = 8 := by omega
              have hcn : diffF G f j ≤ 3 ∧ (x.o ≠ 6 → x.o ≠ 8 → diffF G f j = 0) := by rw [hj8]; exact HCNT.out
              have hle : (diffF G f j : Int) ≤ 3 := by have := hcn.1; omega
              have hled : decide ((diffF G f j : Int) ≤ 3) = true := decide_eq_true hle
              have HC0 := Lib.hid hcn.2
              have x0 := hXr.cell (k := 0) (v := .int .u8 (x.o : Int)) rfl
              clear hcn hj8
              by_cases h6 : x.o = 6
              · have d6 : ((x.o : Int) == 6) = true := by simp [h6]
                clear h6
                go_wp2_with (go_at_call 9; refine (hfin _ hBr).mono ?_; rintro e w9 ⟨rfl, hb⟩)
                go_ret
                exact ⟨rfl, hb⟩
              have d6 : ((x.o : Int) == 6) = false := by simp; omega
              by_cases h8 : x.o = 8
              · have d8 : ((x.o : Int) == 8) = true := by simp [h8]
                clear h6 h8
                go_wp2_with (go_at_call 9; refine (hfin _ hBr).mono ?_; rintro e w9 ⟨rfl, hb⟩)
                go_ret
                exact ⟨rfl, hb⟩
              have d8 : ((x.o : Int) == 8) = false := by simp; omega
              have h0 := HC0.out h6 h8
              have d0 : ((diffF G f j : Int) == 0) = true := by simp [h0]
              clear h0 h6 h8
              go_wp2_with (go_at_call 9; refine (hfin _ hBr).mono ?_; rintro e w9 ⟨rfl, hb⟩)
              go_ret
              exact ⟨rfl, hb⟩
end Go.Proofs.Ytplajidagpimdaa
