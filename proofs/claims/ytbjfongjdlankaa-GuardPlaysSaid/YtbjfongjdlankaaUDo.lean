/-
  The walks of guard.asked and of what it is handed; guard.Step, Give, Want.
-/
import Derived.Deep.RegionHeld3
import Derived.Test.YtbjfongjdlankaaURise
namespace Go.Proofs.Ytbjfongjdlankaa
open Go.RowKit

abbrev Asks (x : Int) (w : World) (e : Ending) (w' : World) : Prop := e = .returned (.int .i64 x) ∧ ∃ m, w' = w.drewN m
theorem asked_nil (f : Value) (w : World) :
    Calls Try.prog 28 #[.pointer none, f] w fun e w' => e = .returned (.int .i64 1) ∧ w' = w := by
  go_enter Try.func28, Try.ntmps28
  go_wp2_with fail
  go_ret
  exact ⟨rfl, rfl⟩
theorem asked_step {G D : Nat} {x : Int} (w : World) (hcall : Calls Try.prog 29 #[.pointer (some ⟨D, 0, none⟩)] w (Asks x w)) :
    Calls Try.prog 28 #[.pointer (some ⟨G, 0, none⟩), .func (.func 29) #[] #[.pointer (some ⟨D, 0, none⟩)]] w (Asks x w) := by
  go_enter Try.func28, Try.ntmps28
  go_wp2_with fail
  refine hcall.mono ?_
  rintro e w' ⟨rfl, m, rfl⟩
  go_wp2_with fail
  go_ret
  exact ⟨rfl, m, rfl⟩
theorem asked_give {G D : Nat} {x : Int} (w : World) (hcall : Calls Try.prog 39 #[.pointer (some ⟨D, 0, none⟩)] w (Asks x w)) :
    Calls Try.prog 28 #[.pointer (some ⟨G, 0, none⟩), .func (.func 39) #[] #[.pointer (some ⟨D, 0, none⟩)]] w (Asks x w) := by
  go_enter Try.func28, Try.ntmps28
  go_wp2_with fail
  refine hcall.mono ?_
  rintro e w' ⟨rfl, m, rfl⟩
  go_wp2_with fail
  go_ret
  exact ⟨rfl, m, rfl⟩
theorem asked_want {G D E : Nat} {x : Int} (w : World) (hcall : Calls Try.prog 35 #[.pointer (some ⟨D, 0, none⟩), .pointer (some ⟨E, 0, none⟩)] w (Asks x w)) :
    Calls Try.prog 28 #[.pointer (some ⟨G, 0, none⟩), .func (.func 35) #[] #[.pointer (some ⟨D, 0, none⟩), .pointer (some ⟨E, 0, none⟩)]] w (Asks x w) := by
  go_enter Try.func28, Try.ntmps28
  go_wp2_with fail
  refine hcall.mono ?_
  rintro e w' ⟨rfl, m, rfl⟩
  go_wp2_with fail
  go_ret
  exact ⟨rfl, m, rfl⟩

/-! ### What is asked ahead -/
theorem step1_any {D G L : Nat} {a : Option Addr} {cap : Nat} {s : Gs} (w : World) (hb : Boxed w D 41 (.pointer (some ⟨G, 0, none⟩))) (h : Gd w G L a cap s) :
    Calls Try.prog 29 #[.pointer (some ⟨D, 0, none⟩)] w (Asks (stepE s) w) := by
  have cD := hb.cell
  have hall := all_any w h
  unfold stepE
  clear hb h
  cases hs : s.all <;> rw [hs] at hall <;> clear hs
  all_goals
    go_enter Try.func29, Try.ntmps29
    go_wp2_with fail
    refine hall.mono ?_
    rintro e w1 ⟨rfl, m, rfl⟩
    go_wp2_with fail
    go_ret
    exact ⟨rfl, m, rfl⟩
theorem give1_any {D G L : Nat} {a : Option Addr} {cap : Nat} {s : Gs} (w : World) (hb : Boxed w D 41 (.pointer (some ⟨G, 0, none⟩))) (h : Gd w G L a cap s) :
    Calls Try.prog 39 #[.pointer (some ⟨D, 0, none⟩)] w (Asks (giveE s) w) := by
  have cD := hb.cell
  have c2 := h.c2
  have c3 := h.c3
  clear hb h
  unfold giveE
  by_cases h0 : s.h = 0
  · have t1 : ((s.h : Int) == 0) = true := by rw [h0]; rfl
    rw [if_pos h0]
    clear h0
    go_enter Try.func39, Try.ntmps39
    go_wp2_with fail
    go_ret
    exact ⟨rfl, 0, rfl⟩
  · have t1 : ((s.h : Int) == 0) = false := by simp; omega
    rw [if_neg h0]
    clear h0
    cases hd : s.d <;> rw [hd] at c3 <;> clear hd
    all_goals
      go_enter Try.func39, Try.ntmps39
      go_wp2_with fail
      go_ret
      exact ⟨rfl, 0, rfl⟩
theorem want1_any {D E G L P Q B base n kap : Nat} {a b : Option Addr} {cap : Nat} {s : Gs} {l : List Int} (w : World) (hb : Boxed w D 41 (.pointer (some ⟨G, 0, none⟩))) (he : Boxed w E 23 (.slice b l.length kap))
    (h : Gd w G L a cap s) (hL : Lks w L P Q B base n) (hr : RowA w b l) (hl : l.length ≤ 4096) :
    Calls Try.prog 35 #[.pointer (some ⟨D, 0, none⟩), .pointer (some ⟨E, 0, none⟩)] w (Asks (wantE n s l) w) := by
  have cD := hb.cell
  have cE := he.cell
  have c2 := h.c2
  have c3 := h.c3
  have hrise := rise_any kap w h.c0 hL hr hl
  clear hb h he hr hL
  unfold wantE
  by_cases h0 : 0 < s.h
  · have t1 : (0 : Int) < (s.h : Int) := by omega
    have t2 : decide ((0 : Int) < (s.h : Int)) = true := decide_eq_true t1
    rw [if_pos (.inl h0)]
    clear h0
    go_enter Try.func35, Try.ntmps35
    go_wp2_with fail
    go_ret
    exact ⟨rfl, 0, rfl⟩
  · have t1 : ¬ (0 : Int) < (s.h : Int) := by omega
    have t2 : decide ((0 : Int) < (s.h : Int)) = false := decide_eq_false t1
    cases hd : s.d with
    | true =>
      rw [hd] at c3
      rw [if_pos (.inr rfl)]
      clear hd h0
      go_enter Try.func35, Try.ntmps35
      go_wp2_with fail
      go_ret
      exact ⟨rfl, 0, rfl⟩
    | false =>
      rw [hd] at c3
      rw [if_neg (by simp [h0])]
      clear hd h0
      cases hr : rises n l <;> rw [hr] at hrise <;> clear hr
      all_goals
        go_enter Try.func35, Try.ntmps35
        go_wp2_with fail
        refine hrise.mono ?_
        rintro e w1 ⟨rfl, rfl⟩
        go_wp2_with fail
        go_ret
        exact ⟨rfl, 0, rfl⟩

/-! ### Of no guard -/
theorem gstep_nil (w : World) :
    Calls Try.prog 10 #[.pointer none] w fun e w' => e = .returned (.tuple #[.bool false, .int .i64 1]) ∧ But [] w w' := by
  go_enter Try.func10, Try.ntmps10
  go_wp2_with fail
  refine (asked_nil _ _).mono ?_
  rintro e w1 ⟨rfl, rfl⟩
  go_wp2_with fail
  go_ret2
  exact ⟨rfl, (But.refl [] w).alloc _⟩
theorem ggive_nil (w : World) :
    Calls Try.prog 14 #[.pointer none] w fun e w' => e = .returned (.tuple #[.int .i64 0, .int .i64 1]) ∧ But [] w w' := by
  go_enter Try.func14, Try.ntmps14
  go_wp2_with fail
  refine (asked_nil _ _).mono ?_
  rintro e w1 ⟨rfl, rfl⟩
  go_wp2_with fail
  go_ret2
  exact ⟨rfl, (But.refl [] w).alloc _⟩
theorem gwant_nil (b : Option Addr) (n kap : Nat) (w : World) :
    Calls Try.prog 12 #[.pointer none, .slice b n kap] w fun e w' => e = .returned (.int .i64 1) ∧ But [] w w' := by
  go_enter Try.func12, Try.ntmps12
  go_wp2_with fail
  refine (asked_nil _ _).mono ?_
  rintro e w1 ⟨rfl, rfl⟩
  go_wp2_with fail
  go_ret
  exact ⟨rfl, ((But.refl [] w).alloc _).alloc _⟩
end Go.Proofs.Ytbjfongjdlankaa
