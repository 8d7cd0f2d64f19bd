/-
  The iterator ring.values: its contract: the values of the ring, in order, whatever the body of the loop does that leaves the ring alone.
-/
import Derived.RangeFuncNested
import Derived.RangeFuncBound
import Derived.RangeFuncCalls
import Derived.RangeFuncLeaves
import Derived.RangeFuncBox
import Derived.Shelf.Abstract
import Derived.Shelf.RegionOpen
import Derived.OwnWalkIn
import Derived.TacticsInMore
import Derived.LoopNIn
import Derived.LoopIn
import Derived.Maps.AppendAt
import Derived.WalkSmall
import Derived.Test.YtkpnkhakjgfgfaaRBase
namespace Go.Proofs.Ytkpnkhakjgfgfaa.Rg
open Go.RowKit Go.Shelf

attribute [local go_sem] Oper.semAt_some

/-- What a round keeps: each ring, and each variable that points to one. -/
def KeepR (W W' : World) : Prop := ∀ (k : Nat) (cs : Array Value) (t : TypeId) (z : Nat × Nat), W.heap[k]? = some (Obj.cells cs t z) → (t = 75 ∨ t = 96) → W'.heap[k]? = W.heap[k]?
theorem KeepR.trans {A B C : World} (h : KeepR A B) (k : KeepR B C) : KeepR A C := fun i cs t z hi ht => by
  have h1 := h i cs t z hi ht
  exact (k i cs t z (h1.trans hi) ht).trans h1
theorem KeepR.refl (W : World) : KeepR W W := fun _ _ _ _ _ _ => rfl
theorem KeepR.raw {W W' : World} (h : KeepR W W') {B : Nat} {vs : List Int} {f n m : Nat} (hr : RawAt W B vs f n m) : RawAt W' B vs f n m :=
  hr.of_block (h _ _ _ _ hr.2 (.inr rfl))
theorem RawAt.below {W W' : World} {B : Nat} {vs : List Int} {f n m : Nat} (h : RawAt W B vs f n m) (hb : Below W.heap.size W W') : RawAt W' B vs f n m := h.of_block (hb.block B h.lt)
theorem Rng.below {W W' : World} {B m : Nat} {l : List Int} (h : Rng W B m l) (hb : Below W.heap.size W W') : Rng W' B m l := by
  obtain ⟨vs, f, h, r⟩ := h; exact ⟨vs, f, h.below hb, r⟩
theorem KeepR.box {W W' : World} (h : KeepR W W') {B : Nat} {v : Value} (hr : Boxed W B 75 v) : Boxed W' B 75 v :=
  (h _ _ _ _ hr (.inl rfl)).trans hr
theorem KeepR.grown {W W' : World} {row : Option Nat} (h : W.grownBy W' row) (hr : ∀ (k : Nat) (cs : Array Value) (t : TypeId) (z : Nat × Nat), row = some k → W.heap[k]? = some (Obj.cells cs t z) → t ≠ 75 ∧ t ≠ 96) : KeepR W W' := fun k cs t z hk ht =>
  h.block k (Array.getElem?_eq_some_iff.1 hk).1 (fun e => by have := hr k cs t z e.symm hk; rcases ht with rfl | rfl <;> simp_all)
theorem KeepR.putObj (W : World) (l : Nat) (o o' : Obj) (h : W.heap[l]? = some o) (ho : o.isCells = false) : KeepR W (W.putObj l o') :=
  KeepR.grown (grownBy_putObj' W l o') (fun k cs t z e hk => by cases e; rw [hk] at h; cases h; cases ho)

theorem place_gen (p : Option Addr) (w : World) :
    Calls Try.prog 57 #[.pointer p] w fun e w' => e = .returned (.func (.func 62) #[] #[.pointer (some ⟨w.heap.size, 0, none⟩)]) ∧ Boxed w' w.heap.size 75 (.pointer p) ∧ w.grownBy w' none := by
  go_enter Try.func57, Try.ntmps57
  go_wp2_with fail
  go_ret
  exact ⟨rfl, Boxed.new w _ _, World.grownBy_alloc _ _ _⟩
theorem place_box (B : Nat) (w : World) :
    Calls Try.prog 57 #[.pointer (some ⟨B, 0, none⟩)] w fun e w' => e = .returned (.func (.func 62) #[] #[.pointer (some ⟨w.heap.size, 0, none⟩)]) ∧ Boxed w' w.heap.size 75 (.pointer (some ⟨B, 0, none⟩)) ∧ w.grownBy w' none := place_gen _ w

theorem values_any (p : Option Addr) (w : World) :
    Calls Try.prog 63 #[.pointer p] w fun e w' => e = .returned (.func (.func 65) #[] #[.pointer (some ⟨w.heap.size, 0, none⟩)]) ∧ w' = w.alloc (.cells #[.pointer p] 75) := by
  go_enter Try.func63, Try.ntmps63
  go_wp2_with fail
  go_ret
  exact ⟨rfl, rfl⟩

theorem take_snocI (xs : List Int) (k : Nat) (hk : k < xs.length) : xs.take (k + 1) = xs.take k ++ [xs[k]?.getD 0] := by
  rw [List.take_add_one, List.getElem?_eq_getElem hk]; rfl

set_option maxRecDepth 100000 in
set_option maxHeartbeats 400000 in
theorem values1_in (n : Nat) (hn : 2 ≤ n) (l Bn B m : Nat) (ys : List Int) (J Jx : List Int → World → Prop)
    (hY : ∀ pre (x : Int) W, J pre W → pre.length < 8 → YieldAt Fence.wide (n - 1) Try.prog l #[.int .i64 x] W fun e W' =>
      (e = .returned (.bool true) ∧ J (pre ++ [x]) W' ∧ KeepR W W') ∨ (e = .returned (.bool false) ∧ Jx (pre ++ [x]) W'))
    (W : World) (hBn : Boxed W Bn 75 (.pointer (some ⟨B, 0, none⟩))) (hR : Rng W B m ys) (hJ : AbidesFrom W.heap.size J) (h0 : J [] W) :
    CallsIn Fence.wide n Try.prog 65 #[.func (.yield l) #[] #[], .pointer (some ⟨Bn, 0, none⟩)] W fun e W' => (∃ v, e = .returned v) ∧
      ((∃ xs, xs = ys ∧ J xs W') ∨ (∃ pre, pre <+: ys ∧ Jx pre W')) := by
  have hlen := hR
  have hR0 := hR
  obtain ⟨vs, f, hraw, hys, hf, hnm, hm⟩ := hR
  have HY := Lib.hid hys
  have hBc := hBn.cell
  refine callsIn_of_wp Try.func65 rfl trivial ?_ rfl
  simp only [Try.ntmps65, List.size_toArray, List.length_cons, List.length_nil, Nat.reduceAdd, Nat.reduceSub, Array.replicate_succ, Array.replicate_zero, List.push_toArray, List.append_toArray, List.nil_append, List.cons_append]
  clear hys hlen
  gi_wp2_with (first | (refine ⟨trivial, fun _ => by omega, ?_⟩; gi_at_call 57; refine (callsIn_wide.2 (place_box B _)).mono ?_; rintro e W1 ⟨rfl, hP, hg1⟩; have hB1 := hBn.kept hg1 (by simp); have hBc1 := hB1.cell; have hR1 := hR0.kept hg1 (by simp); have hJ1 := hJ [] W W1 none h0 hg1 (fun r e => by cases e); have hraw1 := hraw.kept hg1 (by simp); clear hg1 hBn hBc h0 hR0 hraw) | (refine ⟨trivial, fun _ => by omega, ?_⟩; gi_at_call 64; refine (callsIn_wide.2 (len_ring (B := B) (m := m) (l := ys) _ hR1)).mono ?_; rintro e w' ⟨rfl, rfl⟩))
  clear hR1
  gi_loopw [9] (fun iv wr => ∃ i : Nat, i ≤ ys.length ∧ iv = .int .i64 i ∧ J (ys.take i) wr ∧ RawAt wr B vs f ys.length m ∧ Boxed wr Bn 75 (.pointer (some ⟨B, 0, none⟩)) ∧ Boxed wr W.heap.size 75 (.pointer (some ⟨B, 0, none⟩))) (fun iv _ => ys.length - (intOf iv).toNat)
  case atStart => exact ⟨0, Nat.zero_le _, rfl, by simpa using hJ1, hraw1, hB1, hP⟩
  case round =>
    obtain ⟨i, hi, rfl, hJi, hraw, hB, hPb⟩ := hrel
    clear hJ1 hraw1 hB1 hBc1 hP
    by_cases hlt : i < ys.length
    · have hlt' : (i : Int) < (ys.length : Int) := by omega
      have hBc := hB.cell
      have hPc := hPb.cell
      have hs := slotOf_lt f i
      have hs1 : (0 : Int) ≤ (slotOf f i : Int) := by omega
      have hs2 : (slotOf f i : Int) < 8 := by omega
      obtain ⟨x, hx⟩ : ∃ x, x = ys[i]?.getD 0 := ⟨_, rfl⟩
      have hcell : wr.cell? ⟨B, slotOf f i, none⟩ = some (.int .i64 x) := by
        rw [hraw.cellV hs, hx]
        conv => rhs; rw [HY.out]
        rw [heldBy_get _ _ _ _ hlt]
      have HT : Hid (ys.take (i + 1) = ys.take i ++ [x]) := Lib.hid (by rw [hx]; exact take_snocI ys i hlt)
      have HX := Lib.hid hx
      clear hx
      obtain ⟨fn, tmps, assign, body, hy, hR⟩ := hY (ys.take i) x wr.drew (hJ _ wr wr.drew none hJi ⟨rfl, rfl, rfl, Nat.le_refl _, fun _ _ _ => rfl⟩ (fun r e => by cases e)) (by simp; omega)
      have hR' := hR.mono (R' := fun e W' => ∃ b, e = .returned (.bool b) ∧ Hid ((b = true ∧ J (ys.take i ++ [x]) W' ∧ KeepR wr.drew W') ∨ (b = false ∧ Jx (ys.take i ++ [x]) W'))) (by
        rintro e W' (⟨h1, h2, h3⟩ | ⟨h1, h2⟩)
        · exact ⟨true, h1, .inl ⟨rfl, h2, h3⟩⟩
        · exact ⟨false, h1, .inr ⟨rfl, h2⟩⟩)
      have hcall := place1_ring (B := B) (C := W.heap.size) (f := f) (i := i) wr.drew hraw.drew hf (by omega) hPc
      clear hR hJi
      gi_wp2
      gi_region_with (first | (refine ⟨trivial, fun _ => by omega, ?_⟩; gi_at_call 62; refine (callsIn_wide.2 hcall).mono ?_; rintro e w' ⟨rfl, rfl⟩) | (refine ⟨fun _ => by omega, hR'.mono ?_⟩; rintro e W3 ⟨b, rfl, HB⟩))
      all_goals clear hR' hcall hy
      all_goals rcases HB.out with ⟨rfl, hJ2, hK⟩ | ⟨rfl, hJ2⟩
      all_goals clear HB
      all_goals gi_wp2
      all_goals first
        | (go_roundw
           case rel => exact ⟨i + 1, by omega, by go_num, by rw [HT.out]; exact hJ2, hK.raw hraw.drew, hK.box (W := wr.drew) hB, hK.box (W := wr.drew) hPb⟩
           case measure => simp [intOf]; omega)
        | (refine bodyPost_ret (results_none rfl _ _ _) rfl ?_
           refine ⟨⟨_, rfl⟩, .inr ⟨_, ?_, hJ2⟩⟩
           rw [← HT.out]; exact List.take_prefix _ _)
    · obtain rfl : i = ys.length := by omega
      have hlt' : ¬ ((ys.length : Int) < (ys.length : Int)) := by omega
      rw [List.take_length] at hJi
      gi_wp2
      go_end0
      exact ⟨⟨_, rfl⟩, .inl (by first | exact hJi | exact ⟨_, rfl, hJi⟩)⟩

set_option maxHeartbeats 400000 in
theorem values1_none (n : Nat) (hn : 2 ≤ n) (l Bn : Nat) (J Jx : List Int → World → Prop)
    (W : World) (hBn : Boxed W Bn 75 (.pointer none)) (hJ : AbidesFrom W.heap.size J) (h0 : J [] W) :
    CallsIn Fence.wide n Try.prog 65 #[.func (.yield l) #[] #[], .pointer (some ⟨Bn, 0, none⟩)] W fun e W' => (∃ v, e = .returned v) ∧
      ((∃ xs, xs = [] ∧ J xs W') ∨ (∃ pre, pre <+: [] ∧ Jx pre W')) := by
  have hBc := hBn.cell
  refine callsIn_of_wp Try.func65 rfl trivial ?_ rfl
  simp only [Try.ntmps65, List.size_toArray, List.length_cons, List.length_nil, Nat.reduceAdd, Nat.reduceSub, Array.replicate_succ, Array.replicate_zero, List.push_toArray, List.append_toArray, List.nil_append, List.cons_append]
  gi_wp2_with (first | (refine ⟨trivial, fun _ => by omega, ?_⟩; gi_at_call 57; refine (callsIn_wide.2 (place_gen none _)).mono ?_; rintro e W1 ⟨rfl, hP, hg1⟩; have hB1 := hBn.kept hg1 (by simp); have hBc1 := hB1.cell; have hJ1 := hJ [] W W1 none h0 hg1 (fun r e => by cases e); clear hg1 hBn hBc h0) | (refine ⟨trivial, fun _ => by omega, ?_⟩; gi_at_call 64; refine (callsIn_wide.2 (len_nil _)).mono ?_; rintro e w' ⟨rfl, rfl⟩))
  gi_loopw [9] (fun iv wr => iv = .int .i64 0 ∧ J [] wr) (fun _ _ => 0)
  case atStart => exact ⟨rfl, hJ1⟩
  case round =>
    obtain ⟨rfl, hJi⟩ := hrel
    gi_wp2
    go_end0
    exact ⟨⟨_, rfl⟩, .inl (by first | exact hJi | exact ⟨_, rfl, hJi⟩)⟩

/-- The iterator over a pointer: the values ys, in whatever world stands below w. -/
def IterOf (p : Option Addr) (ys : List Int) (w : World) : Prop := ∀ (W : World) (Bn : Nat), Below w.heap.size w W → Boxed W Bn 75 (.pointer p) →
  SeqStopsK Fence.wide 3 Try.prog 65 #[.pointer (some ⟨Bn, 0, none⟩)] (fun x : Int => #[Value.int .i64 x]) KeepR (fun xs => xs = ys) (fun pre => pre <+: ys) 8 W

theorem iter_ring {B m : Nat} {ys : List Int} {w : World} (hR : Rng w B m ys) : IterOf (some ⟨B, 0, none⟩) ys w := fun w1 Bn hw hBn l J Jx W hW hJ _ hY h0 =>
  values1_in 3 (by omega) l Bn B m ys J Jx hY W ((hW.block Bn hBn.lt).trans hBn) ((hR.below hw).below hW) hJ h0
theorem iter_none (w : World) : IterOf none [] w := fun w1 Bn hw hBn l J Jx W hW hJ _ hY h0 =>
  values1_none 3 (by omega) l Bn J Jx W ((hW.block Bn hBn.lt).trans hBn) hJ h0
end Go.Proofs.Ytkpnkhakjgfgfaa.Rg
