/-
  The walks of frame.Check, Spawn, Begin, registers, flag, noReceipt, frames, and of what deeds are made of.
-/
import Derived.Test.YtplajidagpimdaaHBase
namespace Go.Proofs.Ytplajidagpimdaa
open Go.RowKit

theorem fatP_any {lo hi : Nat} {v1 v2 v3 : Value} {p : Prg} (w : World) (h : PrgAt lo hi w v1 v2 v3 p) (hs : Small p) (f : Fra) :
    Calls Try.prog 10 #[.agg #[v1, v2, v3], fraV f] w fun e w' => ∃ y : In, e = .returned (.tuple #[.agg #[.int .u8 (y.o : Int), .int .i64 y.a, .int .i64 y.b, .int .i64 y.c, .int .i64 y.k], .bool (atF p f).isSome]) ∧ y = (atF p f).getD In.zero ∧ Below w.heap.size w w' :=
  (fat_any w h hs f).mono fun _ _ ⟨h1, h2⟩ => ⟨_, h1, rfl, h2⟩
def okE (b : Bool) : Int := if b then 0 else 2

set_option maxRecDepth 100000 in
set_option maxHeartbeats 800000 in
theorem fcheck_any {lo hi : Nat} {v1 v2 v3 : Value} {p : Prg} (w : World) (h : PrgAt lo hi w v1 v2 v3 p) (hs : Small p) (f : Fra) :
    Calls Try.prog 17 #[.agg #[v1, v2, v3], fraV f] w fun e w' => e = .returned (.int .i64 (okE (atF p f).isSome)) ∧ Below w.heap.size w w' := by
  obtain ⟨wf, hwf⟩ : ∃ wf, wf = (w.alloc (.cells #[v1, v2, v3] 26)).alloc (.cells (fraA f) 29) := ⟨_, rfl⟩
  have hB : Below w.heap.size w wf := by rw [hwf]; exact below2 w _ _
  have hc := fatP_any wf (h.later hB) hs f
  go_enter Try.func17, Try.ntmps17
  go_wp2_with fail
  rw [← hwf]
  clear hwf
  refine hc.mono ?_
  rintro e w1 ⟨y, rfl, -, hb⟩
  have hB1 := (below_next hB hb (Nat.le_refl _)).alloc (below_next hB hb (Nat.le_refl _)).size (.cells #[.int .u8 (y.o : Int), .int .i64 y.a, .int .i64 y.b, .int .i64 y.c, .int .i64 y.k] 33)
  clear hc hB hb
  obtain ⟨b, hbe⟩ : ∃ b, b = (atF p f).isSome := ⟨_, rfl⟩
  have HB := Lib.hid hbe
  rw [← hbe]
  clear hbe
  cases b with
  | true =>
    go_wp2_with fail
    go_ret
    exact ⟨by rw [← HB.out]; rfl, hB1⟩
  | false =>
    go_wp2_with fail
    go_ret
    exact ⟨by rw [← HB.out]; rfl, hB1⟩

set_option maxRecDepth 100000 in
set_option maxHeartbeats 800000 in
theorem spawn_any (f : Fra) (c : Int) (w : World) : Calls Try.prog 19 #[fraV f, .int .i64 c] w fun e w' => e = .returned (fraV (Fra.at0 c f)) ∧ Below w.heap.size w w' := by
  have hb := below2 w (.cells (fraA f) 29) (.cells (fraA (Fra.at0 c f)) 29)
  have hX : Blk ((w.alloc (.cells (fraA f) 29)).alloc (.cells (fraA (Fra.at0 c f)) 29)) (w.heap.size + 1) 29 (fraA (Fra.at0 c f)) := blk_at (by simp)
  obtain ⟨q0, q1, q2, q3, q4, q5, q6, q7, q8, q9⟩ := fra_cells hX
  go_enter Try.func19, Try.ntmps19
  go_wp2_with fail
  refine bodyPost_ret (v := fraV (Fra.at0 c f)) (by simp [results, Try.f19, go_sem, fraV, fraA, Fra.at0] at q0 q1 q2 q3 q4 q5 q6 q7 q8 q9 ⊢) rfl ?_
  exact ⟨rfl, hb⟩

set_option maxRecDepth 100000 in
theorem flag_any (b : Bool) (w : World) : Calls Try.prog 33 #[.bool b] w fun e w' => e = .returned (.int .i64 (if b then 1 else 0)) ∧ w' = w := by
  go_enter Try.func33, Try.ntmps33
  cases b
  · go_wp2_with fail
    go_ret
    exact ⟨rfl, rfl⟩
  · go_wp2_with fail
    go_ret
    exact ⟨rfl, rfl⟩

def regB (v : Int) : Bool := withinB v 0 7
theorem regB_iff {v : Int} : regB v = true ↔ 0 ≤ v ∧ v < 8 := by unfold regB withinB; simp; omega
set_option maxRecDepth 100000 in
set_option maxHeartbeats 800000 in
theorem registers_any (xs : List Int) (B : Nat) (w : World) (h : Blk w B 3 (I64 xs).toArray) (hl : xs.length ≤ 8) :
    Calls Try.prog 32 #[.slice (some ⟨B, 0, none⟩) xs.length xs.length] w fun e w' => e = .returned (.bool (xs.all regB)) ∧ w' = w := by
  go_enter Try.func32, Try.ntmps32
  go_wp2_with fail
  go_loop [7] (fun iv => ∃ k : Nat, k ≤ xs.length ∧ iv = .int .i64 (k : Int) ∧ Hid (∀ (j : Nat) (x : Int), j < k → xs[j]? = some x → regB x = true)) (fun iv => 8 - (intOf iv).toNat)
  case atStart => exact ⟨0, Nat.zero_le _, rfl, Lib.hid (fun j x hj => by omega)⟩
  case round =>
    obtain ⟨k, hk, rfl, HK⟩ := hrel
    have hw : IntKind.i64.wrap ((k : Int) + 1) = (k : Int) + 1 := by rw [IntKind.wrap_i64]; omega
    have k0 : (0 : Int) ≤ (k : Int) := by omega
    by_cases hlt : k < xs.length
    · have hlt' : (k : Int) < (xs.length : Int) := by omega
      obtain ⟨x, hx⟩ : ∃ x, xs[k]? = some x := ⟨_, List.getElem?_eq_getElem hlt⟩
      have hc : w.cell? ⟨B, k, none⟩ = some (.int .i64 x) := h.cell (by simp [I64, hx])
      have HX := Lib.hid hx
      clear hx
      by_cases h0 : x < 0
      · have HE : Hid (xs.all regB = false) := Lib.hid (by
          rw [List.all_eq_false]
          exact ⟨x, List.mem_of_getElem? HX.out, fun e => by have := regB_iff.1 e; omega⟩)
        go_wp2_with fail
        go_ret
        exact ⟨by rw [HE.out]; rfl, rfl⟩
      by_cases h8 : 8 ≤ x
      · have HE : Hid (xs.all regB = false) := Lib.hid (by
          rw [List.all_eq_false]
          exact ⟨x, List.mem_of_getElem? HX.out, fun e => by have := regB_iff.1 e; omega⟩)
        have h8' : decide (8 ≤ x) = true := by simpa using h8
        go_wp2_with fail
        go_ret
        exact ⟨by rw [HE.out]; rfl, rfl⟩
      · have h8' : decide (8 ≤ x) = false := by simpa using h8
        go_wp2_with fail
        go_round
        case rel =>
          refine ⟨k + 1, by omega, by go_num, Lib.hid (fun j y hj hy => ?_)⟩
          by_cases e : j = k
          · subst e
            rw [HX.out] at hy
            cases hy
            exact regB_iff.2 ⟨by omega, by omega⟩
          · exact HK.out j y (by omega) hy
        case measure => simp [intOf]; omega
    · have hlt' : ¬ (k : Int) < (xs.length : Int) := by omega
      have HE : Hid (xs.all regB = true) := Lib.hid (by
        rw [List.all_eq_true]
        intro x hx
        obtain ⟨j, hj, rfl⟩ := List.mem_iff_getElem.1 hx
        exact HK.out j _ (by omega) (List.getElem?_eq_getElem hj))
      go_wp2_with fail
      go_ret
      exact ⟨by rw [HE.out]; rfl, rfl⟩
end Go.Proofs.Ytplajidagpimdaa
