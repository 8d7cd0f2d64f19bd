/-
  The iterator over those that wait in a row, in order.
-/
import Derived.RangeFuncNested
import Derived.RangeFuncBound
import Derived.RangeFuncCalls
import Derived.RangeFuncLeaves
import Derived.RangeFuncBox
import Derived.Shelf.Abstract
import Derived.Shelf.RegionOpen
import Derived.OwnWalkIn
import Derived.TacticsInMore
import Derived.LoopNIn
import Derived.LoopIn
import Derived.Maps.AppendAt
import Derived.WalkSmall
import Derived.Test.YtbelfcfdgkmnmaaMBase
namespace Go.Proofs.Ytbelfcfdgkmnmaa
open Go.RowKit Go.Shelf

attribute [local go_sem] Oper.semAt_some

theorem grown_below {n : Nat} {W W' : World} (h : Below n W W') (hn : n = W.heap.size := by rfl) : W.grownBy W' none := ⟨h.os, h.tape, h.output, h.size, fun k hk _ => h.block k (by omega)⟩
theorem below_drewN {n : Nat} {w w1 : World} (h : Below n w w1) (q : Nat) : Below n w (w1.drewN q) := ⟨h.os, h.tape, h.output, h.size, h.block⟩
theorem hcell_below {w0 w W : World} {p : Addr} {v : Value} (h : w0.cell? p = some v) (hW : Below w0.heap.size w0 w) (hW2 : Below w.heap.size w W) : W.cell? p = some v :=
  World.grownBy.cell (grown_below (below_nx hW hW2 (Nat.le_refl _))) h (by simp)

theorem take_snocW (xs : List Wt) (j : Nat) (x : Wt) (h : xs[j]? = some x) : xs.take (j + 1) = xs.take j ++ [x] := by
  rw [List.take_add_one, h]; rfl

set_option maxRecDepth 100000 in
set_option maxHeartbeats 1000000 in
theorem row1_in (n : Nat) (hn : 2 ≤ n) (l Bc Bw C : Nat) (s : Bool) (v : Value) (xs : List Wt) (w0 : World) (J Jx : List Wt → World → Prop)
    (hY : ∀ pre (x : Wt) W, J pre W → pre.length < 1000 → YieldAt Fence.wide (n - 1) Try.prog l #[x.val] W fun e W' =>
      (e = .returned (.bool true) ∧ J (pre ++ [x]) W' ∧ Below w0.heap.size W W') ∨ (e = .returned (.bool false) ∧ Jx (pre ++ [x]) W'))
    (W : World) (hBc : Boxed W Bc 24 (.pointer (some ⟨C, 0, none⟩))) (hBw : Boxed W Bw 3 (.int .i64 (ix s : Int)))
    (hcell : W.cell? ⟨C, 2 + ix s, none⟩ = some v) (hrow : w0.ownsRow 0 31 3 v xs.length (flatW xs)) (hl : xs.length ≤ 1000)
    (hW : Below w0.heap.size w0 W) (hJ : AbidesFrom W.heap.size J) (h0 : J [] W) :
    CallsIn Fence.wide n Try.prog 21 #[.func (.yield l) #[] #[], .pointer (some ⟨Bc, 0, none⟩), .pointer (some ⟨Bw, 0, none⟩)] W fun e W' => (∃ v, e = .returned v) ∧
      ((∃ ys, ys = xs ∧ J ys W') ∨ (∃ pre, pre <+: xs ∧ Jx pre W')) := by
  have hcc := hBc.cell
  have hwc := hBw.cell
  have hi0 : (0 : Int) ≤ (ix s : Int) := by omega
  have hi2 : (ix s : Int) < 2 := by have := ix_lt s; omega
  obtain ⟨a, c, rfl⟩ := owns_slice' hrow
  refine callsIn_of_wp Try.func21 rfl trivial ?_ rfl
  simp only [Try.ntmps21, List.size_toArray, List.length_cons, List.length_nil, Nat.reduceAdd, Nat.reduceSub, Array.replicate_succ, Array.replicate_zero, List.push_toArray, List.append_toArray, List.nil_append, List.cons_append]
  gi_wp2
  gi_quiet (fail)
  gi_wp2
  gi_loopw [15] (fun iv wr => ∃ j : Nat, j ≤ xs.length ∧ iv = .int .i64 j ∧ J (xs.take j) wr ∧ Below w0.heap.size w0 wr) (fun iv _ => xs.length - (intOf iv).toNat)
  case atStart =>
    exact ⟨0, Nat.zero_le _, rfl, hJ _ _ _ none h0 (grown_below (below_drewN (Below.refl _ W) _)) (fun r e => by cases e), below_drewN hW _⟩
  case round =>
    clear hcc hwc hcell h0 hW
    obtain ⟨j, hj, rfl, hJi, hWr⟩ := hrel
    by_cases hlt : j < xs.length
    · have hlt' : (j : Int) < (xs.length : Int) := by omega
      have q0 : (0 : Int) ≤ (j : Int) := by omega
      obtain ⟨x, hxj⟩ : ∃ x, xs[j]? = some x := ⟨_, List.getElem?_eq_getElem hlt⟩
      have hrw := hrow.kept (grown_below hWr) (by cases (Value.slice a xs.length c).ownBlock <;> simp)
      obtain ⟨g, cap, he, x0, x1, x2⟩ := row_at hrw hxj
      obtain ⟨rfl, rfl⟩ : a = some ⟨g, 0, none⟩ ∧ c = cap := by cases he; exact ⟨rfl, rfl⟩
      have HT := Lib.hid (take_snocW xs j x hxj)
      have HP : Hid (xs.take (j + 1) <+: xs) := Lib.hid (List.take_prefix _ _)
      have hb1 := below1 wr (.cells #[.int .i64 x.t, .int .i64 x.c, .int .i64 x.v] 31)
      have hJ1 := hJ _ _ _ none hJi (grown_below hb1) (fun r e => by cases e)
      have hW1 := below_nx hWr hb1 (Nat.le_refl _)
      have hlen : (xs.take j).length < 1000 := by rw [List.length_take]; omega
      obtain ⟨fn, tmps, assign, body, hy, hR⟩ := hY _ x _ hJ1 hlen
      unfold Wt.val at hy
      clear hxj hJi hrw he hlen hJ1 hb1
      gi_wp2
      refine ⟨fun _ => by omega, hR.mono ?_⟩
      clear hy hR
      rintro e W3 (⟨rfl, hJ3, hK⟩ | ⟨rfl, hJx3⟩)
      · have hW3 := hW1.trans hK
        gi_wp2
        go_roundw
        case rel => exact ⟨j + 1, by omega, by go_num, by rw [HT.out]; exact hJ3, hW3⟩
        case measure => simp [intOf]; omega
      · gi_wp2
        refine bodyPost_ret (results_none rfl _ _ _) rfl ?_
        exact ⟨⟨_, rfl⟩, .inr ⟨_, by rw [← HT.out]; exact HP.out, hJx3⟩⟩
    · obtain rfl : j = xs.length := by omega
      rw [List.take_length] at hJi
      gi_wp2
      go_end0
      exact ⟨⟨_, rfl⟩, .inl ⟨_, rfl, hJi⟩⟩

/-- The iterator over a row, as a loop calls it. -/
theorem row_stops {w w0 : World} {Bc Bw C : Nat} {s : Bool} {v : Value} {xs : List Wt} (hBc : Boxed w Bc 24 (.pointer (some ⟨C, 0, none⟩))) (hBw : Boxed w Bw 3 (.int .i64 (ix s : Int)))
    (hcell : w0.cell? ⟨C, 2 + ix s, none⟩ = some v) (hrow : w0.ownsRow 0 31 3 v xs.length (flatW xs)) (hl : xs.length ≤ 1000) (hW : Below w0.heap.size w0 w) :
    SeqStopsK Fence.wide 3 Try.prog 21 #[.pointer (some ⟨Bc, 0, none⟩), .pointer (some ⟨Bw, 0, none⟩)] (fun x : Wt => #[x.val]) (Below w0.heap.size) (fun ys => ys = xs) (fun pre => pre <+: xs) 1000 w :=
  fun l J Jx W hW2 hJ _ hY h0 => row1_in 3 (by omega) l Bc Bw C s v xs w0 J Jx hY W (boxed_below hBc hW2) (boxed_below hBw hW2)
    ((hcell_below hcell hW hW2)) hrow hl (below_nx hW hW2 (Nat.le_refl _)) hJ h0
end Go.Proofs.Ytbelfcfdgkmnmaa
