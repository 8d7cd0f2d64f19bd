/-
  The walk of named: the iterator that goes over what a kind names.
-/
import Derived.RangeFuncNested
import Derived.RangeFuncBound
import Derived.RangeFuncCalls
import Derived.RangeFuncLeaves
import Derived.RangeFuncBox
import Derived.Shelf.Abstract
import Derived.Shelf.RegionOpen
import Derived.OwnWalkIn
import Derived.TacticsInMore
import Derived.LoopNIn
import Derived.LoopIn
import Derived.Maps.AppendAt
import Derived.WalkSmall
import Derived.Laws.EntriesVeiled
import Derived.Test.YtnngkpggejmdkaaESmall
namespace Go.Proofs.Ytnngkpggejmdkaa
open Go.RowKit Go.Shelf SetM

attribute [local go_sem] Oper.semAt_some

/-- The numbers below i that m has as bits. -/
def nsTo : Nat → Nat → List (Fin 13)
  | 0, _ => []
  | n + 1, m => nsTo n m ++ (if m.testBit n = true then [Fin.ofNat 13 n] else [])
theorem nsTo_hit {n m : Nat} (h : m.testBit n = true) : nsTo (n + 1) m = nsTo n m ++ [Fin.ofNat 13 n] := by rw [nsTo, if_pos h]
theorem nsTo_miss {n m : Nat} (h : m.testBit n = false) : nsTo (n + 1) m = nsTo n m := by rw [nsTo, if_neg (by rw [h]; decide)]; simp
theorem nsTo_len (n m : Nat) : (nsTo n m).length ≤ n := by
  induction n with
  | zero => simp [nsTo]
  | succ n ih => rw [nsTo]; split <;> simp <;> omega
theorem nsTo_prefix (m i j : Nat) : nsTo i m <+: nsTo (i + j) m := by
  induction j with
  | zero => exact List.prefix_refl _
  | succ j ih => exact ih.trans ⟨_, rfl⟩
theorem val_of13 {n : Nat} (h : n < 13) : (Fin.ofNat 13 n).val = n := Nat.mod_eq_of_lt h
/-- What a kind names, in order. -/
def nsOf (k : Nat) : List (Fin 13) := nsTo 13 (maskN k)
theorem nsOf_map (k : Nat) : (nsOf k).map (·.val) = namesOf k := by
  cases h : known k with
  | false => unfold nsOf; rw [namesOf_out h, maskN_out h]; decide
  | true => rcases known_cases h with rfl | rfl | rfl | rfl | rfl | rfl | rfl | rfl | rfl | rfl | rfl | rfl | rfl | rfl | rfl | rfl | rfl <;> decide

/-- Block B is the variable that holds a kind: a word, and a set. -/
def KdAt (W : World) (B : Nat) (wd : ByteArray) (m : Nat) : Prop := Two W B 51 (.string wd) (.int .u64 (m : Int))
/-- What a round keeps: that block. -/
def KeepK (n : Nat) (W W' : World) : Prop := W'.heap[n]? = W.heap[n]?
section
variable {W W' : World} {n : Nat} {wd : ByteArray} {m : Nat}
theorem KdAt.keep (h : KdAt W n wd m) (k : KeepK n W W') : KdAt W' n wd m := Two.of_block h k
theorem KeepK.trans {A B C : World} (h : KeepK n A B) (k : KeepK n B C) : KeepK n A C := Eq.trans k h
theorem KdAt.lt (h : KdAt W n wd m) : n < W.heap.size := Two.lt h
theorem KdAt.but (h : KdAt W n wd m) {S : List Nat} (hb : But S W W') (hn : n ∉ S) : KdAt W' n wd m := Two.of_block h (hb.block n (Two.lt h) hn)
theorem KdAt.keeps (h : KdAt W n wd m) {S : List Nat} (hb : But S W W') (hn : n ∉ S) : KeepK n W W' := hb.block n (Two.lt h) hn
theorem keepK_putObj (W : World) (l : Nat) (o o' : Obj) (hn : n < l) (h : W.heap[l]? = some o) (_ : o.isCells = false) : KeepK n W (W.putObj l o') :=
  (grownBy_putObj' W l o').block n (by have := (Array.getElem?_eq_some_iff.1 h).1; omega) (fun e => by have := Option.some.inj e; omega)
theorem kdAt_abides {β : Type} (n : Nat) (wd : ByteArray) (m : Nat) (b : Nat) : OwnFrom b (fun (_ : β) W => KdAt W n wd m) :=
  Own.from (I := fun (_ : β) (W : World) => KdAt W n wd m) (fun _ A W' row hs hg hr => by
    exact Two.of_block hs (hg.block n (Two.lt hs) (fun e => by
      obtain ⟨o, ho, hn⟩ := hr n e.symm
      rw [show A.heap[n]? = _ from hs] at ho
      cases ho
      cases hn))) b
end

theorem named_any (wd : ByteArray) (m : Nat) (w : World) :
    Calls Try.prog 34 #[.agg #[.string wd, .int .u64 (m : Int)]] w fun e w' => e = .returned (.func (.func 45) #[] #[.pointer (some ⟨w.heap.size, 0, none⟩)]) ∧ w' = w.alloc (.cells #[.string wd, .int .u64 (m : Int)] 51) := by
  go_enter Try.func34, Try.ntmps34
  go_wp2_with fail
  go_ret
  exact ⟨rfl, rfl⟩

theorem has_bit {m i : Nat} (hi : i < 13) : has m (i : Int) = m.testBit i := by
  unfold has
  rw [decide_eq_true (by omega), Bool.true_and, Int.toNat_natCast]
set_option maxRecDepth 100000 in
set_option maxHeartbeats 1000000 in
theorem named1_in (n : Nat) (hn : 2 ≤ n) (l n0 : Nat) (wd : ByteArray) (m : Nat) (hm : m < 18446744073709551616) (J Jx : List (Fin 13) → World → Prop)
    (hY : ∀ pre (p : Fin 13) W, J pre W → pre.length < 13 → YieldAt Fence.wide (n - 1) Try.prog l #[.int .i64 (p.val : Int)] W fun e W' =>
      (e = .returned (.bool true) ∧ J (pre ++ [p]) W' ∧ KeepK n0 W W') ∨ (e = .returned (.bool false) ∧ Jx (pre ++ [p]) W'))
    (W : World) (hN : KdAt W n0 wd m) (h0 : J [] W) :
    CallsIn Fence.wide n Try.prog 45 #[.func (.yield l) #[] #[], .pointer (some ⟨n0, 0, none⟩)] W fun e W' => (∃ v, e = .returned v) ∧
      ((∃ ys, ys = nsTo 13 m ∧ J ys W') ∨ (∃ pre, pre <+: nsTo 13 m ∧ Jx pre W')) := by
  refine callsIn_of_wp Try.func45 rfl trivial ?_ rfl
  simp only [Try.ntmps45, List.size_toArray, List.length_cons, List.length_nil, Nat.reduceAdd, Nat.reduceSub, Array.replicate_succ, Array.replicate_zero, List.push_toArray, List.append_toArray, List.nil_append, List.cons_append]
  gi_wp2
  gi_loopw [4] (fun iv wr => ∃ i : Nat, i ≤ 13 ∧ iv = .int .i64 i ∧ J (nsTo i m) wr ∧ KdAt wr n0 wd m) (fun iv _ => 13 - (intOf iv).toNat)
  case atStart => exact ⟨0, Nat.zero_le _, rfl, h0, hN⟩
  case round =>
    clear hN h0
    obtain ⟨i, hi, rfl, hJi, hN⟩ := hrel
    by_cases hlt : i < 13
    · have hlt' : (i : Int) < 13 := by omega
      have i0 : (0 : Int) ≤ (i : Int) := by omega
      have c1 := Two.c1 hN
      have hcall := has_any m (i : Int) hm (by omega) (by omega) wr
      rw [has_bit hlt] at hcall
      have hval : ((Fin.ofNat 13 i).val : Int) = (i : Int) := by rw [val_of13 hlt]
      obtain ⟨fn, tmps, assign, body, hy, hR⟩ := hY (nsTo i m) (Fin.ofNat 13 i) wr hJi (by have := nsTo_len i m; omega)
      rw [hval] at hy
      cases hb : m.testBit i with
      | true =>
        have HT := Lib.hid (nsTo_hit hb)
        have HP : Hid (nsTo i m ++ [Fin.ofNat 13 i] <+: nsTo 13 m) := Lib.hid (by
          have h2 := nsTo_prefix m (i + 1) (12 - i)
          rw [show i + 1 + (12 - i) = 13 by omega, HT.out] at h2
          exact h2)
        rw [hb] at hcall
        clear hb
        gi_wp2_with (first | (refine ⟨trivial, fun _ => by omega, ?_⟩; gi_at_call 46; refine (callsIn_wide.2 hcall).mono ?_; rintro e w' ⟨rfl, rfl⟩))
        refine ⟨fun _ => by omega, hR.mono ?_⟩
        clear hcall hy hR
        rintro e W3 (⟨rfl, hJ3, hK⟩ | ⟨rfl, hJx3⟩)
        · have hN3 := hN.keep hK
          clear hN hK
          gi_wp2
          go_roundw
          case rel => exact ⟨i + 1, by omega, by go_num, by rw [HT.out]; exact hJ3, hN3⟩
          case measure => simp [intOf]; omega
        · gi_wp2
          refine bodyPost_ret (results_none rfl _ _ _) rfl ?_
          exact ⟨⟨_, rfl⟩, .inr ⟨_, HP.out, hJx3⟩⟩
      | false =>
        have HT := Lib.hid (nsTo_miss hb)
        rw [hb] at hcall
        clear hb hy hR
        gi_wp2_with (first | (refine ⟨trivial, fun _ => by omega, ?_⟩; gi_at_call 46; refine (callsIn_wide.2 hcall).mono ?_; rintro e w' ⟨rfl, rfl⟩))
        refine ⟨fun _ h => (by cases h), ?_⟩
        gi_wp2
        go_roundw
        case rel => exact ⟨i + 1, by omega, by go_num, by rw [HT.out]; exact hJi, hN⟩
        case measure => simp [intOf]; omega
    · obtain rfl : i = 13 := by omega
      gi_wp2
      go_end0
      exact ⟨⟨_, rfl⟩, .inl ⟨_, rfl, hJi⟩⟩

/-- The iterator over what a kind names, its variable in block n0. -/
theorem iter_named {w : World} {n0 : Nat} {wd : ByteArray} {m : Nat} (hm : m < 18446744073709551616) (hN : KdAt w n0 wd m) :
    SeqStopsK Fence.wide 3 Try.prog 45 #[.pointer (some ⟨n0, 0, none⟩)] (fun p : Fin 13 => #[Value.int .i64 (p.val : Int)]) (KeepK n0) (fun xs => xs = nsTo 13 m) (fun pre => pre <+: nsTo 13 m) 13 w :=
  fun l J Jx W hW _ _ hY h0 => named1_in 3 (by omega) l n0 wd m hm J Jx hY W (hN.but (But.of_below hW []) (by simp)) h0
end Go.Proofs.Ytnngkpggejmdkaa
