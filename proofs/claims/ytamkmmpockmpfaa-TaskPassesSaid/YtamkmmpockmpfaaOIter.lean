/-
  The iterator order.among: its contract: the numbers of the row that are in the set, in order, whatever the body of the loop does that leaves the order alone.
-/
import Derived.RangeFuncNested
import Derived.RangeFuncBound
import Derived.RangeFuncCalls
import Derived.RangeFuncLeaves
import Derived.RangeFuncBox
import Derived.Shelf.Abstract
import Derived.Shelf.RegionOpen
import Derived.OwnWalkIn
import Derived.TacticsInMore
import Derived.LoopNIn
import Derived.LoopIn
import Derived.Maps.AppendAt
import Derived.WalkSmall
import Derived.Test.YtamkmmpockmpfaaONew
namespace Go.Proofs.Ytamkmmpockmpfaa.Od
open Go.RowKit Go.Shelf

attribute [local go_sem] Oper.semAt_some

/-- What a round keeps: each order, each set in a box, and each variable that points to an order. -/
def KeepO (W W' : World) : Prop := ∀ (k : Nat) (cs : Array Value) (t : TypeId) (z : Nat × Nat), W.heap[k]? = some (Obj.cells cs t z) → (t = 69 ∨ t = 110 ∨ t = 45) → W'.heap[k]? = W.heap[k]?
theorem KeepO.trans {A B C : World} (h : KeepO A B) (k : KeepO B C) : KeepO A C := fun i cs t z hi ht => by
  have h1 := h i cs t z hi ht
  exact (k i cs t z (h1.trans hi) ht).trans h1
theorem KeepO.raw {W W' : World} (h : KeepO W W') {B : Nat} {vs : List Int} {n : Nat} (hr : RawO W B vs n) : RawO W' B vs n :=
  hr.of_block (h _ _ _ _ hr.2 (.inr (.inl rfl)))
theorem KeepO.box {W W' : World} (h : KeepO W W') {B : Nat} {v : Value} (hr : Boxed W B 69 v) : Boxed W' B 69 v :=
  (h _ _ _ _ hr (.inl rfl)).trans hr
theorem KeepO.set {W W' : World} (h : KeepO W W') {B : Nat} {v : Value} (hr : Boxed W B 45 v) : Boxed W' B 45 v :=
  (h _ _ _ _ hr (.inr (.inr rfl))).trans hr
theorem KeepO.grown {W W' : World} {row : Option Nat} (h : W.grownBy W' row) (hr : ∀ (k : Nat) (cs : Array Value) (t : TypeId) (z : Nat × Nat), row = some k → W.heap[k]? = some (Obj.cells cs t z) → t ≠ 69 ∧ t ≠ 110 ∧ t ≠ 45) : KeepO W W' := fun k cs t z hk ht =>
  h.block k (Array.getElem?_eq_some_iff.1 hk).1 (fun e => by have := hr k cs t z e.symm hk; rcases ht with rfl | rfl | rfl <;> simp_all)
theorem KeepO.putObj (W : World) (l : Nat) (o o' : Obj) (h : W.heap[l]? = some o) (ho : o.isCells = false) : KeepO W (W.putObj l o') :=
  KeepO.grown (grownBy_putObj' W l o') (fun k cs t z e hk => by cases e; rw [hk] at h; cases h; cases ho)

theorem among_any (p : Option Addr) (s : Nat) (w : World) :
    Calls Try.prog 42 #[.pointer p, .int .u64 (s : Int)] w fun e w' => e = .returned (.func (.func 53) #[] #[.pointer (some ⟨w.heap.size, 0, none⟩), .pointer (some ⟨w.heap.size + 1, 0, none⟩)]) ∧ w' = (w.alloc (.cells #[.pointer p] 69)).alloc (.cells #[.int .u64 (s : Int)] 45) := by
  go_enter Try.func42, Try.ntmps42
  go_wp2_with fail
  go_ret
  exact ⟨rfl, rfl⟩

theorem chosen_take_succ {s : Nat} {ys : List Int} {i : Nat} {x : Int} (h : ys.take (i + 1) = ys.take i ++ [x]) : chosen s (ys.take (i + 1)) = chosen s (ys.take i) ++ if has s x = true then [x] else [] := by
  rw [h]
  unfold chosen
  rw [List.filter_append]
  cases e : has s x <;> simp [e]
theorem chosen_pre (s : Nat) (ys : List Int) (i : Nat) : chosen s (ys.take i) <+: chosen s ys := by
  conv => rhs; rw [← List.take_append_drop i ys]
  rw [chosen, chosen, List.filter_append]; exact List.prefix_append _ _
theorem chosen_len (s : Nat) (ys : List Int) : (chosen s ys).length ≤ ys.length := List.length_filter_le _ _

set_option maxRecDepth 100000 in
set_option maxHeartbeats 1000000 in
theorem among1_in (n : Nat) (hn : 2 ≤ n) (l Bn Bs B m s : Nat) (hs : s < 18446744073709551616) (ys : List Int) (J Jx : List Int → World → Prop)
    (hY : ∀ pre (x : Int) W, J pre W → pre.length < 6 → YieldAt Fence.wide (n - 1) Try.prog l #[.int .i64 x] W fun e W' =>
      (e = .returned (.bool true) ∧ J (pre ++ [x]) W' ∧ KeepO W W') ∨ (e = .returned (.bool false) ∧ Jx (pre ++ [x]) W'))
    (W : World) (hBn : Boxed W Bn 69 (.pointer (some ⟨B, 0, none⟩))) (hBs : Boxed W Bs 45 (.int .u64 (s : Int))) (hR : Ord W B m ys) (hJ : AbidesFrom W.heap.size J) (h0 : J [] W) :
    CallsIn Fence.wide n Try.prog 53 #[.func (.yield l) #[] #[], .pointer (some ⟨Bn, 0, none⟩), .pointer (some ⟨Bs, 0, none⟩)] W fun e W' => (∃ v, e = .returned v) ∧
      ((∃ xs, xs = chosen s ys ∧ J xs W') ∨ (∃ pre, pre <+: chosen s ys ∧ Jx pre W')) := by
  have hm := hR.le
  have hlen := hR.len
  have HX := Lib.hid (fun x hx => hR.rng (x := x) hx)
  obtain ⟨vs, hraw, hys⟩ := hR.raw
  have HY := Lib.hid hys
  have hBc := hBn.cell
  have hrow := row_raw W hraw hm
  clear hys hR
  refine callsIn_of_wp Try.func53 rfl trivial ?_ rfl
  simp only [Try.ntmps53, List.size_toArray, List.length_cons, List.length_nil, Nat.reduceAdd, Nat.reduceSub, Array.replicate_succ, Array.replicate_zero, List.push_toArray, List.append_toArray, List.nil_append, List.cons_append]
  gi_wp2_with (first | (refine ⟨trivial, fun _ => by omega, ?_⟩; gi_at_call 43; refine (callsIn_wide.2 hrow).mono ?_; rintro e w' ⟨rfl, q, rfl⟩))
  have h0' : J [] (W.drewN q) := hJ [] W _ none h0 ⟨rfl, rfl, rfl, Nat.le_refl _, fun _ _ _ => rfl⟩ (fun r e => by cases e)
  have hraw' : RawO (W.drewN q) B vs m := hraw
  have hBn' : Boxed (W.drewN q) Bn 69 (.pointer (some ⟨B, 0, none⟩)) := hBn
  have hBs' : Boxed (W.drewN q) Bs 45 (.int .u64 (s : Int)) := hBs
  clear hrow hraw hBn hBs hBc h0
  gi_loopw [9] (fun iv wr => ∃ i : Nat, i ≤ m ∧ iv = .int .i64 i ∧ J (chosen s (ys.take i)) wr ∧ RawO wr B vs m ∧ Boxed wr Bn 69 (.pointer (some ⟨B, 0, none⟩)) ∧ Boxed wr Bs 45 (.int .u64 (s : Int))) (fun iv _ => m - (intOf iv).toNat)
  case atStart => exact ⟨0, Nat.zero_le _, rfl, by simpa [chosen] using h0', hraw', hBn', hBs'⟩
  case round =>
    clear hraw' hBn' hBs' h0'
    obtain ⟨i, hi, rfl, hJi, hraw, hB, hS⟩ := hrel
    by_cases hlt : i < m
    · have hlt' : (i : Int) < (m : Int) := by omega
      have i0 : (0 : Int) ≤ (i : Int) := by omega
      have hSc := hS.cell
      obtain ⟨x, hx⟩ : ∃ x, x = ys[i]?.getD 0 := ⟨_, rfl⟩
      have hcell := hraw.row HY.out hm hlt
      rw [← hx] at hcell
      have hxm : x ∈ ys := by rw [hx]; exact mem_of_getDI (by omega)
      have HT := Lib.hid (chosen_take_succ (s := s) (ys := ys) (i := i) (x := x) (by rw [hx]; exact take_snocI ys i (by omega)))
      have hxr := HX.out x hxm
      have hcall := has_any s x hs (by omega) (by omega) wr
      have hpl : (chosen s (ys.take i)).length < 6 := Nat.lt_of_le_of_lt (chosen_len _ _) (by simp; omega)
      have hpre := Lib.hid (chosen_pre s ys (i + 1))
      clear hx hxm hxr
      cases hb : has s x with
      | false =>
        rw [hb] at hcall HT
        simp only [Bool.false_eq_true, if_false, List.append_nil] at HT
        gi_wp2_with (first | (refine ⟨trivial, fun _ => by omega, ?_⟩; gi_at_call 9; refine (callsIn_wide.2 hcall).mono ?_; rintro e w' ⟨rfl, rfl⟩))
        refine ⟨fun _ h => (by cases h), ?_⟩
        gi_wp2
        go_roundw
        case rel => exact ⟨i + 1, by omega, by go_num, by rw [HT.out]; exact hJi, hraw, hB, hS⟩
        case measure => simp [intOf]; omega
      | true =>
        rw [hb] at hcall HT
        simp only [if_true] at HT
        obtain ⟨fn, tmps, assign, body, hy, hR⟩ := hY (chosen s (ys.take i)) x wr hJi hpl
        gi_wp2_with (first | (refine ⟨trivial, fun _ => by omega, ?_⟩; gi_at_call 9; refine (callsIn_wide.2 hcall).mono ?_; rintro e w' ⟨rfl, rfl⟩))
        refine ⟨fun _ => by omega, hR.mono ?_⟩
        clear hcall hy hR
        rintro e W3 (⟨rfl, hJ3, hK⟩ | ⟨rfl, hJx3⟩)
        · have hP3 := hK.raw hraw
          have hB3 := hK.box hB
          have hS3 := hK.set hS
          clear hraw hB hS hK
          gi_wp2
          go_roundw
          case rel => exact ⟨i + 1, by omega, by go_num, by rw [HT.out]; exact hJ3, hP3, hB3, hS3⟩
          case measure => simp [intOf]; omega
        · gi_wp2
          refine bodyPost_ret (results_none rfl _ _ _) rfl ?_
          exact ⟨⟨_, rfl⟩, .inr ⟨_, by rw [← HT.out]; exact hpre.out, hJx3⟩⟩
    · obtain rfl : i = m := by omega
      have hlt' : ¬ ((i : Int) < (i : Int)) := by omega
      rw [List.take_of_length_le (by omega)] at hJi
      gi_wp2
      go_end0
      exact ⟨⟨_, rfl⟩, .inl (by first | exact hJi | exact ⟨_, rfl, hJi⟩)⟩

set_option maxHeartbeats 400000 in
theorem among1_none (n : Nat) (hn : 2 ≤ n) (l Bn Bs : Nat) (J Jx : List Int → World → Prop)
    (W : World) (hBn : Boxed W Bn 69 (.pointer none)) (h0 : J [] W) :
    CallsIn Fence.wide n Try.prog 53 #[.func (.yield l) #[] #[], .pointer (some ⟨Bn, 0, none⟩), .pointer (some ⟨Bs, 0, none⟩)] W fun e W' => (∃ v, e = .returned v) ∧
      ((∃ xs, xs = [] ∧ J xs W') ∨ (∃ pre, pre <+: [] ∧ Jx pre W')) := by
  have hBc := hBn.cell
  have hrow := row_nil W
  refine callsIn_of_wp Try.func53 rfl trivial ?_ rfl
  simp only [Try.ntmps53, List.size_toArray, List.length_cons, List.length_nil, Nat.reduceAdd, Nat.reduceSub, Array.replicate_succ, Array.replicate_zero, List.push_toArray, List.append_toArray, List.nil_append, List.cons_append]
  gi_wp2_with (first | (refine ⟨trivial, fun _ => by omega, ?_⟩; gi_at_call 43; refine (callsIn_wide.2 hrow).mono ?_; rintro e w' ⟨rfl, rfl⟩))
  gi_loopw [9] (fun iv wr => iv = .int .i64 0 ∧ J [] wr) (fun _ _ => 0)
  case atStart => exact ⟨rfl, h0⟩
  case round =>
    clear hBc hBn hrow h0
    obtain ⟨rfl, hJi⟩ := hrel
    gi_wp2
    go_end0
    exact ⟨⟨_, rfl⟩, .inl (by first | exact hJi | exact ⟨_, rfl, hJi⟩)⟩

/-- The iterator over a pointer and a set: the numbers ys, in whatever world stands below w. -/
def IterOf (p : Option Addr) (s : Nat) (ys : List Int) (w : World) : Prop := ∀ (W : World) (Bn Bs : Nat), Below w.heap.size w W → Boxed W Bn 69 (.pointer p) → Boxed W Bs 45 (.int .u64 (s : Int)) →
  SeqStopsK Fence.wide 3 Try.prog 53 #[.pointer (some ⟨Bn, 0, none⟩), .pointer (some ⟨Bs, 0, none⟩)] (fun x : Int => #[Value.int .i64 x]) KeepO (fun xs => xs = ys) (fun pre => pre <+: ys) 6 W

theorem iter_row {B n s : Nat} {ys : List Int} {w : World} (hs : s < 18446744073709551616) (hR : Ord w B n ys) : IterOf (some ⟨B, 0, none⟩) s (chosen s ys) w := fun w1 Bn Bs hw hBn hBs l J Jx W hW hJ _ hY h0 =>
  among1_in 3 (by omega) l Bn Bs B n s hs ys J Jx hY W ((hW.block Bn hBn.lt).trans hBn) ((hW.block Bs hBs.lt).trans hBs) ((hR.below hw).below hW) hJ h0
theorem iter_none (s : Nat) (w : World) : IterOf none s [] w := fun w1 Bn Bs hw hBn _ l J Jx W hW _ _ _ h0 =>
  among1_none 3 (by omega) l Bn Bs J Jx W ((hW.block Bn hBn.lt).trans hBn) h0
end Go.Proofs.Ytamkmmpockmpfaa.Od
