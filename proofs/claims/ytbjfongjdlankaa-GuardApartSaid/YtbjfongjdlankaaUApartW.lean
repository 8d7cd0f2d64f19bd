/-
  The walk of the law GuardApart, whatever comes in.
-/
import Derived.Test.YtbjfongjdlankaaUApart
namespace Go.Proofs.Ytbjfongjdlankaa
open Go.RowKit

set_option maxRecDepth 100000 in
theorem apart_over (N M cap capo : Nat) (a ao : Option Addr) (w : World) (h : 8 < N ∨ 300 < M ∨ N = 0) :
    Calls Try.prog 4 #[.slice a N cap, .slice ao M capo] w fun e w' => e = .returned (.bool true) ∧ But [] w w' := by
  by_cases h1 : 8 < N
  · have t1 : decide ((8 : Int) < (N : Int)) = true := decide_eq_true (by omega)
    clear h h1
    go_enter Try.func4, Try.ntmps4
    go_wp2_with fail
    refine (alive_any _).mono ?_
    rintro e w1 ⟨rfl, hb⟩
    go_wp2_with fail
    go_ret
    exact ⟨rfl, hb⟩
  have t1 : decide ((8 : Int) < (N : Int)) = false := decide_eq_false (by omega)
  have t1' : ¬ (8 : Int) < (N : Int) := by omega
  by_cases h2 : 300 < M
  · have t2 : decide ((300 : Int) < (M : Int)) = true := decide_eq_true (by omega)
    clear h h1 h2
    go_enter Try.func4, Try.ntmps4
    go_wp2_with fail
    refine (alive_any _).mono ?_
    rintro e w1 ⟨rfl, hb⟩
    go_wp2_with fail
    go_ret
    exact ⟨rfl, hb⟩
  have t2 : decide ((300 : Int) < (M : Int)) = false := decide_eq_false (by omega)
  have t2' : ¬ (300 : Int) < (M : Int) := by omega
  obtain rfl : N = 0 := by omega
  clear h h1 h2
  go_enter Try.func4, Try.ntmps4
  go_wp2_with fail
  refine (alive_any _).mono ?_
  rintro e w1 ⟨rfl, hb⟩
  go_wp2_with fail
  go_ret
  exact ⟨rfl, hb⟩

theorem apart_walk (N M cap capo : Nat) (a ao : Option Addr) (fq fo : Nat → Nat) (w : World) (hq : ∀ j, j < N → ∃ b off, a = some ⟨b, off, none⟩ ∧ w.cell? ⟨b, off + j, none⟩ = some (.int .u8 (fq j : Int))) (ho8 : ∀ j, j < M → fo j < 256)
    (ho : ∀ j, j < M → ∃ b off, ao = some ⟨b, off, none⟩ ∧ w.cell? ⟨b, off + j, none⟩ = some (.int .u8 (fo j : Int))) :
    Calls Try.prog 4 #[.slice a N cap, .slice ao M capo] w fun e w' => e = .returned (.bool true) ∧ Below w.heap.size w w' := by
  refine Calls.mono (R := fun e w' => e = .returned (.bool true) ∧ But [] w w') ?_ fun e w' h => ⟨h.1, h.2.below (Nat.le_refl _) (by simp)⟩
  by_cases h : 8 < N ∨ 300 < M ∨ N = 0
  · exact apart_over N M cap capo a ao w h
  · obtain ⟨b, off, rfl, -⟩ := hq 0 (by omega)
    refine apart_law N M fq fo b off cap capo ao w (by omega) (by omega) (by omega) (fun j hj => ?_) ho8 ho
    obtain ⟨b', off', he, hc⟩ := hq j hj
    simp only [Option.some.injEq, Addr.mk.injEq, and_true] at he
    obtain ⟨rfl, rfl⟩ := he
    exact hc
end Go.Proofs.Ytbjfongjdlankaa
