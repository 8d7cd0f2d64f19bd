/-
  The walks of End, Ended.
-/
import Derived.Test.YtnngkpggejmdkaaLLast
namespace Go.Proofs.Ytnngkpggejmdkaa
open Go.RowKit

theorem nat_eq11 (k : Nat) : ((k : Int) == 11) = (k == 11) := by
  by_cases h : k = 11
  · subst h; rfl
  · have h' : (k : Int) ≠ 11 := by omega
    rw [beq_eq_false_iff_ne.2 h, beq_eq_false_iff_ne.2 h']
section
variable {b B : Nat} {lv : Value} {xs : List En}
theorem end_any (w : World) (hL : LogAt w b B lv xs) (hl : xs.length ≤ 1000) (hx : ∀ x ∈ xs, x.ok) :
    Calls Try.prog 20 #[.pointer (some ⟨B, 0, none⟩)] w fun e w' => e = .returned (.int .i64 (endV xs)) ∧ Below w.heap.size w w' := by
  have hc := last_none w hL hl hx
  obtain ⟨h1, h2, _⟩ := last_all xs
  obtain ⟨i, hi⟩ : ∃ i, i = (lastV allE xs).1 := ⟨_, rfl⟩
  obtain ⟨x, hxx⟩ : ∃ x, x = (lastV allE xs).2.1 := ⟨_, rfl⟩
  rw [← hi, ← hxx, h1] at hc
  rw [← hxx] at h2
  clear hi hxx h1
  by_cases h0 : xs = []
  · have HE : Hid ((-1 : Int) = endV xs) := Lib.hid (by rw [h0]; rfl)
    have e0 : xs.isEmpty = true := by rw [h0]; rfl
    rw [e0] at hc
    clear h0 e0 h2
    simp only [Bool.not_true] at hc
    go_enter Try.func20, Try.ntmps20
    go_wp2_with fail
    refine hc.mono ?_
    rintro e w1 ⟨rfl, hb⟩
    have hal := fun o => Below.al hb hb.size o
    go_wp2_with fail
    go_ret
    exact ⟨by rw [← HE.out]; rfl, hal _⟩
  · have HE := Lib.hid (h2 h0)
    have e0 : xs.isEmpty = false := by simpa using h0
    rw [e0] at hc
    clear h0 e0 h2
    simp only [Bool.not_false] at hc
    go_enter Try.func20, Try.ntmps20
    go_wp2_with fail
    refine hc.mono ?_
    rintro e w1 ⟨rfl, hb⟩
    have hal := fun o => Below.al hb hb.size o
    have c0 := (enAt_new w1 x).c0
    go_wp2_with fail
    go_ret
    exact ⟨by rw [← HE.out]; rfl, hal _⟩
theorem ended_any (w : World) (hL : LogAt w b B lv xs) (hl : xs.length ≤ 1000) (hx : ∀ x ∈ xs, x.ok) :
    Calls Try.prog 18 #[.pointer (some ⟨B, 0, none⟩)] w fun e w' => e = .returned (.bool (endedB xs)) ∧ Below w.heap.size w w' := by
  have hc := last_none w hL hl hx
  obtain ⟨_, _, h3⟩ := last_all xs
  obtain ⟨i, hi⟩ : ∃ i, i = (lastV allE xs).1 := ⟨_, rfl⟩
  obtain ⟨x, hxx⟩ : ∃ x, x = (lastV allE xs).2.1 := ⟨_, rfl⟩
  obtain ⟨q, hq⟩ : ∃ q, q = (lastV allE xs).2.2 := ⟨_, rfl⟩
  rw [← hi, ← hxx, ← hq] at hc
  rw [← hxx] at h3
  clear hi hxx hq
  have h4 := nat_eq11 x.k
  rw [h3] at h4
  generalize endedB xs = r at h4 ⊢
  clear h3
  go_enter Try.func18, Try.ntmps18
  go_wp2_with fail
  refine hc.mono ?_
  rintro e w1 ⟨rfl, hb⟩
  have hal := fun o => Below.al hb hb.size o
  have c1 := (enAt_new w1 x).c1
  go_wp2_with fail
  go_ret
  exact ⟨rfl, hal _⟩
end
end Go.Proofs.Ytnngkpggejmdkaa
