/-
  The iterator set.rising: its contract: the numbers of the set, rising, whatever the body of the loop does.
-/
import Derived.RangeFuncNested
import Derived.RangeFuncBound
import Derived.RangeFuncCalls
import Derived.RangeFuncLeaves
import Derived.RangeFuncBox
import Derived.Shelf.Abstract
import Derived.Shelf.RegionOpen
import Derived.OwnWalkIn
import Derived.TacticsInMore
import Derived.LoopNIn
import Derived.LoopIn
import Derived.Maps.AppendAt
import Derived.WalkSmall
import Derived.Test.YtdbocnjphidliaaSBits
namespace Go.Proofs.Ytdbocnjphidliaa
open Go.RowKit Go.Shelf SetM

attribute [local go_sem] Oper.semAt_some

theorem rising_in (n s : Nat) (w : World) :
    CallsIn Fence.wide n Try.prog 21 #[.int .u64 (s : Int)] w fun e w' => e = .returned (.func (.func 24) #[] #[.pointer (some ⟨w.heap.size, 0, none⟩)]) ∧ w' = w.alloc (.cells #[.int .u64 (s : Int)] 23) := by
  refine callsIn_of_wp Try.func21 rfl trivial ?_ rfl
  simp only [Try.ntmps21, List.size_toArray, List.length_cons, List.length_nil, Nat.reduceAdd, Nat.reduceSub, Array.replicate_succ, Array.replicate_zero, List.push_toArray, List.append_toArray, List.nil_append, List.cons_append]
  gi_wp2
  go_ret
  exact ⟨rfl, rfl⟩

theorem half {u s i : Nat} (h : u = s / 2 ^ i) : u / 2 = s / 2 ^ (i + 1) := by
  rw [h, Nat.div_div_eq_div_mul, Nat.pow_succ]
theorem bit_half {u s i : Nat} (h : u = s / 2 ^ i) : s.testBit i = decide (u % 2 = 1) := by
  rw [h, Nat.testBit_eq_decide_div_mod_eq]
theorem done_half {u s i : Nat} (h : u = s / 2 ^ i) (h0 : u = 0) : s < 2 ^ i := by
  rw [h] at h0
  rcases Nat.div_eq_zero_iff.1 h0 with h1 | h1
  · have := Nat.two_pow_pos i; omega
  · exact h1

set_option maxRecDepth 100000 in
set_option maxHeartbeats 1000000 in
theorem rise1_in (n : Nat) (hn : 1 ≤ n) (l Bn s : Nat) (hs : s < 18446744073709551616) (J Jx : List (Fin 64) → World → Prop)
    (hY : ∀ pre (x : Fin 64) W, J pre W → pre.length < 64 → YieldAt Fence.wide (n - 1) Try.prog l #[.int .i64 (x.val : Int)] W fun e W' =>
      (e = .returned (.bool true) ∧ J (pre ++ [x]) W' ∧ True) ∨ (e = .returned (.bool false) ∧ Jx (pre ++ [x]) W'))
    (W : World) (hBn : W.cell? ⟨Bn, 0, none⟩ = some (.int .u64 (s : Int))) (hJ : AbidesFrom W.heap.size J) (h0 : J [] W) :
    CallsIn Fence.wide n Try.prog 24 #[.func (.yield l) #[] #[], .pointer (some ⟨Bn, 0, none⟩)] W fun e W' => (∃ v, e = .returned v) ∧
      ((∃ ys, ys = nums s ∧ J ys W') ∨ (∃ pre, pre <+: nums s ∧ Jx pre W')) := by
  refine callsIn_of_wp Try.func24 rfl trivial ?_ rfl
  simp only [Try.ntmps24, List.size_toArray, List.length_cons, List.length_nil, Nat.reduceAdd, Nat.reduceSub, Array.replicate_succ, Array.replicate_zero, List.push_toArray, List.append_toArray, List.nil_append, List.cons_append]
  gi_wp2
  gi_quiet (fail)
  rename_i nq
  have h0' : J [] (W.drewN nq) := hJ [] W _ none h0 ⟨rfl, rfl, rfl, Nat.le_refl _, fun _ _ _ => rfl⟩ (fun r e => by cases e)
  gi_wp2
  gi_loopw [3, 4] (fun kv lv wr => ∃ i u : Nat, i ≤ 64 ∧ kv = .int .i64 i ∧ lv = .int .u64 u ∧ Hid (u = s / 2 ^ i) ∧ J (numsTo i s) wr) (fun _ lv _ => (intOf lv).toNat)
  case atStart => exact ⟨0, s, by omega, rfl, rfl, Lib.hid (by simp), h0'⟩
  case round =>
    obtain ⟨i, u, hi, rfl, rfl, HU, hJs⟩ := hrel
    have hub : u < 18446744073709551616 := by rw [HU.out]; exact Nat.lt_of_le_of_lt (Nat.div_le_self _ _) hs
    by_cases hu : u = 0
    · have HN := Lib.hid (nums_of_lt (done_half HU.out hu) hi)
      subst hu
      gi_wp2
      go_end0
      exact ⟨⟨_, rfl⟩, .inl ⟨_, HN.out.symm, hJs⟩⟩
    · have hi64 : i < 64 := by
        apply Classical.byContradiction
        intro h
        obtain rfl : i = 64 := by omega
        apply hu
        rw [HU.out, show (2 : Nat) ^ 64 = 18446744073709551616 from rfl]; omega
      have hune : ((u : Int) != 0) = true := by simp; omega
      have HB := Lib.hid (bit_half HU.out)
      have HH := Lib.hid (half HU.out)
      have hand : bits .and .u64 (u : Int) 1 = ((u % 2 : Nat) : Int) := by
        have := u64_and_nat u 1 hub (by decide)
        rw [nat_mask1] at this; exact this
      by_cases h1 : u % 2 = 1
      · have hb1 : (bits .and .u64 (u : Int) 1 != 0) = true := by rw [hand, h1]; rfl
        have hx : ((Fin.ofNat 64 i).val : Int) = (i : Int) := by rw [val_of hi64]
        obtain ⟨fn, tmps, assign, body, hy, hR⟩ := hY (numsTo i s) (Fin.ofNat 64 i) wr hJs (by have := numsTo_len i s; omega)
        rw [hx] at hy
        have HP := Lib.hid (numsTo_hit (n := i) (s := s) (by rw [HB.out, h1]; rfl))
        have hpre : numsTo i s ++ [Fin.ofNat 64 i] <+: nums s := by
          have h2 := numsTo_prefix s (i + 1) (63 - i)
          rw [show i + 1 + (63 - i) = 64 by omega, HP.out] at h2
          exact h2
        clear HB
        gi_wp2
        refine hR.mono ?_
        rintro e W3 (⟨rfl, hJ3, _⟩ | ⟨rfl, hJx3⟩)
        · gi_wp2
          go_roundw
          case rel => exact ⟨i + 1, u / 2, by omega, by go_num, by go_num, HH, by rw [HP.out]; exact hJ3⟩
          case measure => simp [intOf]; omega
        · gi_wp2
          refine bodyPost_ret (results_none rfl _ _ _) rfl ?_
          exact ⟨⟨_, rfl⟩, .inr ⟨_, hpre, hJx3⟩⟩
      · have hb1 : (bits .and .u64 (u : Int) 1 != 0) = false := by rw [hand, show u % 2 = 0 by omega]; rfl
        have HP := Lib.hid (numsTo_miss (n := i) (s := s) (by rw [HB.out]; simp; omega))
        clear HB
        gi_wp2
        refine ⟨fun _ h => (by cases h), ?_⟩
        gi_wp2
        go_roundw
        case rel => exact ⟨i + 1, u / 2, by omega, by go_num, by go_num, HH, by rw [HP.out]; exact hJs⟩
        case measure => simp [intOf]; omega

theorem rise_stops (n : Nat) (hn : 1 ≤ n) (Bn s : Nat) (hs : s < 18446744073709551616) (w : World) (hBn : Bn < w.heap.size) (hc : w.cell? ⟨Bn, 0, none⟩ = some (.int .u64 (s : Int))) :
    SeqStopsK Fence.wide n Try.prog 24 #[.pointer (some ⟨Bn, 0, none⟩)] (fun x : Fin 64 => #[Value.int .i64 (x.val : Int)]) (fun _ _ => True) (fun ys => ys = nums s) (fun pre => pre <+: nums s) 64 w := fun l J Jx W hW hJ _ hY h0 =>
  rise1_in n hn l Bn s hs J Jx hY W ((hW.cell (p := ⟨Bn, 0, none⟩) hBn).trans hc) hJ h0
end Go.Proofs.Ytdbocnjphidliaa
