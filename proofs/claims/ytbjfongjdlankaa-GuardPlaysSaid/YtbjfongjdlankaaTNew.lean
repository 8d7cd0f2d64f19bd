/-
  The walks of ticket.New.
-/
import Derived.Test.YtbjfongjdlankaaTDo
namespace Go.Proofs.Ytbjfongjdlankaa
open Go.RowKit

theorem tnew_nil (b k : Int) (w : World) :
    Calls Try.prog 27 #[.pointer none, .int .i64 b, .int .i64 k] w fun e w' => e = .returned (.tuple #[.pointer none, .int .i64 1]) ∧ But [] w w' := by
  go_enter Try.func27, Try.ntmps27
  go_wp2_with fail
  go_ret2
  exact ⟨rfl, ((But.refl [] w).alloc _).alloc _⟩

/-- What New leaves. -/
def MadeLocks (w : World) (B base n : Nat) (e : Ending) (w' : World) : Prop := ∃ L P Q, e = .returned (.tuple #[.pointer (some ⟨L, 0, none⟩), .int .i64 0]) ∧ Lks w' L P Q B base n ∧ But [] w w'

theorem tnew_ok {B V c base n : Nat} {vs : List Nat} (w : World) (hC : Cels w B V vs c) (h1 : 1 ≤ n) (h2 : n ≤ 300) (h3 : base + 2 * n ≤ vs.length) :
    Calls Try.prog 27 #[.pointer (some ⟨B, 0, none⟩), .int .i64 (base : Int), .int .i64 (n : Int)] w (MadeLocks w B base n) := by
  have hl := hC.len
  have t1 : decide ((n : Int) < 1) = false := by simp; omega
  have t2 : decide ((300 : Int) < (n : Int)) = false := by simp; omega
  have t3 : decide ((base : Int) < 0) = false := by simp
  have t4 : decide ((vs.length : Int) - (base : Int) < 2 * (n : Int)) = false := by simp; omega
  have t4' : ¬ (vs.length : Int) - (base : Int) < 2 * (n : Int) := by omega
  have e1 : IntKind.i64.wrap ((vs.length : Int) - (base : Int)) = (vs.length : Int) - (base : Int) := IntWalk.i64_in _ (by omega)
  have e2 : IntKind.i64.wrap (2 * (n : Int)) = 2 * (n : Int) := IntWalk.i64_in _ (by omega)
  have g1 := (But.refl [] w).alloc (.cells #[.int .i64 (base : Int)] 3)
  have g2 := g1.alloc (.cells #[.int .i64 (n : Int)] 3)
  have hC2 := hC.but g2 (by simp) (by simp)
  have p := fun m => clen_any (w := World.drewN _ m) (hC2.drewN m)
  have x1 := Boxed.new w 3 (.int .i64 (base : Int))
  have x2 := Boxed.new (w.alloc (.cells #[.int .i64 (base : Int)] 3)) 3 (.int .i64 (n : Int))
  have x1' := x1.alloc (.cells #[.int .i64 (n : Int)] 3)
  rw [World.size_alloc] at x2
  have x3 := World.alloc_heap_new ((w.alloc (.cells #[.int .i64 (base : Int)] 3)).alloc (.cells #[.int .i64 (n : Int)] 3)) (.cells #[.pointer (some ⟨B, 0, none⟩), .int .i64 (n : Int), .func (.func 45) #[] #[.pointer (some ⟨w.heap.size + 1, 0, none⟩), .pointer (some ⟨w.heap.size, 0, none⟩)]] 91)
  rw [World.size_alloc, World.size_alloc] at x3
  have H3 := Lib.hid x3
  clear x3
  go_enter Try.func27, Try.ntmps27
  go_wp2_with fail
  go_quiet (first | (go_at_call 44; with_reducible exact Calls.quiet_of_same (p _)))
  clear e1 e2
  go_wp2_with fail
  go_ret2
  exact ⟨_, _, _, rfl, ⟨H3.out, x2.alloc _, x1'.alloc _, h2, by omega⟩, (g2.alloc _).drewN _⟩

theorem tnew_bad {B V c : Nat} {b k : Int} {vs : List Nat} (w : World) (hC : Cels w B V vs c) (hb1 : -9223372036854775808 ≤ b) (hb2 : b ≤ 9223372036854775807) (hk1 : -9223372036854775808 ≤ k) (hk2 : k ≤ 9223372036854775807)
    (h : ¬ (1 ≤ k ∧ k ≤ 300 ∧ 0 ≤ b ∧ b + 2 * k ≤ (vs.length : Int))) :
    Calls Try.prog 27 #[.pointer (some ⟨B, 0, none⟩), .int .i64 b, .int .i64 k] w fun e w' => e = .returned (.tuple #[.pointer none, .int .i64 2]) ∧ But [] w w' := by
  have hl := hC.len
  have g1 := (But.refl [] w).alloc (.cells #[.int .i64 b] 3)
  have g2 := g1.alloc (.cells #[.int .i64 k] 3)
  have hC2 := hC.but g2 (by simp) (by simp)
  have p := fun m => clen_any (w := World.drewN _ m) (hC2.drewN m)
  have x1 := (Boxed.new w 3 (.int .i64 b)).alloc (.cells #[.int .i64 k] 3)
  have x2 := Boxed.new (w.alloc (.cells #[.int .i64 b] 3)) 3 (.int .i64 k)
  rw [World.size_alloc] at x2
  by_cases c1 : k < 1
  · have t1 : decide (k < 1) = true := decide_eq_true c1
    clear h p
    go_enter Try.func27, Try.ntmps27
    go_wp2_with fail
    go_quiet (fail)
    go_wp2_with fail
    go_ret2
    exact ⟨rfl, g2.drewN _⟩
  have t1 : decide (k < 1) = false := decide_eq_false c1
  by_cases c2 : 300 < k
  · have t2 : decide (300 < k) = true := decide_eq_true c2
    clear h p
    go_enter Try.func27, Try.ntmps27
    go_wp2_with fail
    go_quiet (fail)
    go_wp2_with fail
    go_ret2
    exact ⟨rfl, g2.drewN _⟩
  have t2 : decide (300 < k) = false := decide_eq_false c2
  by_cases c3 : b < 0
  · have t3 : decide (b < 0) = true := decide_eq_true c3
    clear h p
    go_enter Try.func27, Try.ntmps27
    go_wp2_with fail
    go_quiet (fail)
    go_wp2_with fail
    go_ret2
    exact ⟨rfl, g2.drewN _⟩
  have t3 : decide (b < 0) = false := decide_eq_false c3
  have t4' : (vs.length : Int) - b < 2 * k := by omega
  have t4 : decide ((vs.length : Int) - b < 2 * k) = true := decide_eq_true t4'
  have e1 : IntKind.i64.wrap ((vs.length : Int) - b) = (vs.length : Int) - b := IntWalk.i64_in _ (by omega)
  have e2 : IntKind.i64.wrap (2 * k) = 2 * k := IntWalk.i64_in _ (by omega)
  clear h
  go_enter Try.func27, Try.ntmps27
  go_wp2_with fail
  go_quiet (first | (go_at_call 44; with_reducible exact Calls.quiet_of_same (p _)))
  clear e1 e2
  go_wp2_with fail
  go_ret2
  exact ⟨rfl, g2.drewN _⟩
end Go.Proofs.Ytbjfongjdlankaa
