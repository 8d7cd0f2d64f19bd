/-
  The walk of the law RingOrder, whatever comes in.
-/
import Derived.Test.YtpkpjogpkigmlaaROrder
namespace Go.Proofs.Ytpkpjogpkigmlaa
open Go.RowKit

set_option maxRecDepth 100000 in
set_option maxHeartbeats 400000 in
theorem order_big (q : Nat) (a : Option Addr) (n cap : Nat) (w : World) (hn : 300 < n) :
    Calls Try.prog 4 #[.int .u8 (q : Int), .slice a n cap] w fun e w' => e = .returned (.bool true) ∧ Below w.heap.size w w' := by
  have hl2 : (300 : Int) < (n : Int) := by omega
  go_enter Try.func4, Try.ntmps4
  go_wp2_with fail
  refine (alive_any _).mono ?_
  rintro e w1 ⟨rfl, hb⟩
  go_wp2_with fail
  go_ret
  exact ⟨rfl, hb⟩

set_option maxRecDepth 100000 in
set_option maxHeartbeats 400000 in
theorem order_none (q : Nat) (hq : q ≤ 255) (a : Option Addr) (cap : Nat) (w : World) :
    Calls Try.prog 4 #[.int .u8 (q : Int), .slice a 0 cap] w fun e w' => e = .returned (.bool true) ∧ Below w.heap.size w w' := by
  obtain ⟨m, hm⟩ : ∃ m, m = q % 9 := ⟨_, rfl⟩
  have hm9 : m ≤ 8 := by omega
  have hm1 : ((q : Int) % 9) = (m : Int) := by omega
  have hm2 : ((q : Int).tmod 9) = (m : Int) := by rw [Int.tmod_eq_emod_of_nonneg (by omega)]; omega
  have hw : IntKind.i64.wrap (q : Int) = (q : Int) := by rw [IntKind.wrap_i64]; omega
  clear hm
  have hnew := fun w => new_ok m w hm9
  go_enter Try.func4, Try.ntmps4
  go_wp2_with fail
  refine (hnew _).mono ?_
  rintro e w2 ⟨rfl, -, hg⟩
  have hb2 : Below w.heap.size w w2 := (Below.refl _ _).grown hg (Nat.le_refl _) (fun _ e => by cases e)
  clear hg hnew
  go_wp2_with fail
  refine wp_loop_rounds 1 ?_
  rw [rounds_succ]
  go_wp2_with fail
  refine (alive_any _).mono ?_
  rintro e w3 ⟨rfl, hb3⟩
  have hb := below_next hb2 hb3
  clear hb2 hb3
  go_wp2_with fail
  go_ret
  exact ⟨rfl, hb⟩

theorem order_walk (q : Nat) (v : Value) (ss : List (Int × Int)) (w : World) (hq : q ≤ 255) (hs : Steps w v ss) :
    Calls Try.prog 4 #[.int .u8 (q : Int), v] w fun e w' => e = .returned (.bool true) ∧ Below w.heap.size w w' := by
  obtain ⟨a, cap, rfl⟩ : ∃ a cap, v = .slice a ss.length cap := by
    rcases hs with ⟨rfl, a, cap, rfl⟩ | ⟨b, off, cap, rfl, _⟩
    · exact ⟨a, cap, rfl⟩
    · exact ⟨_, cap, rfl⟩
  by_cases hn : 300 < ss.length
  · exact order_big q a _ cap w hn
  rcases hs with ⟨rfl, a', cap', _⟩ | ⟨b, off, cap', he, h0, hb, hc⟩
  · exact order_none q hq a cap w
  · simp only [Value.slice.injEq] at he
    obtain ⟨rfl, -, rfl⟩ := he
    exact order_loop q hq b off cap ss w (by omega) h0 hb hc
end Go.Proofs.Ytpkpjogpkigmlaa
