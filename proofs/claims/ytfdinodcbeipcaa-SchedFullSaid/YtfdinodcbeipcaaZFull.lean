/-
  The walk of the law SchedFull.
-/
import Derived.Test.YtfdinodcbeipcaaZAlive
namespace Go.Proofs.Ytfdinodcbeipcaa
open Go.RowKit

/-- i were made of n, all are ready. -/
def upto (i n : Nat) : Ss := ⟨(List.range i).map (fun j : Nat => (j : Int)), n, i, i, 0⟩
/-- All n were made, and i have gone round. -/
def turned (i n : Nat) : Ss := ⟨(List.range n).map (fun j : Nat => (((i + j) % n : Nat) : Int)), n, n, n, 0⟩
def rest (i n : Nat) : List Int := (List.range (n - 1)).map (fun j : Nat => (((i + 1 + j) % n : Nat) : Int))

theorem upto_make {i n : Nat} (h : i < n) : (i : Int) = (upto i n).makeV ∧ 0 = (upto i n).makeE ∧ upto (i + 1) n = (upto i n).make := by
  have hne : ¬ (upto i n).made = (upto i n).m := by show ¬ i = n; omega
  rw [Ss.makeV, Ss.makeE, Ss.make, if_neg hne, if_neg hne, if_neg hne]
  refine ⟨rfl, rfl, ?_⟩
  simp [upto, List.range_succ]
theorem upto_full (n : Nat) : 0 = (upto n n).makeV ∧ 4 = (upto n n).makeE ∧ upto n n = (upto n n).make := by
  have hne : (upto n n).made = (upto n n).m := rfl
  rw [Ss.makeV, Ss.makeE, Ss.make, if_pos hne, if_pos hne, if_pos hne]
  exact ⟨rfl, rfl, rfl⟩
theorem turned_zero (n : Nat) : turned 0 n = upto n n := by
  unfold turned upto
  congr 1
  refine List.map_congr_left fun j hj => ?_
  have := List.mem_range.1 hj
  rw [Nat.zero_add, Nat.mod_eq_of_lt this]
theorem turned_cons {i n : Nat} (hn : 1 ≤ n) : (turned i n).l = ((i % n : Nat) : Int) :: rest i n := by
  obtain ⟨k, rfl⟩ : ∃ k, n = k + 1 := ⟨n - 1, by omega⟩
  simp only [turned, rest, List.range_succ_eq_map, List.map_cons, List.map_map, Nat.add_zero, Nat.add_sub_cancel]
  congr 1
  refine List.map_congr_left fun j _ => ?_
  simp only [Function.comp]
  rw [show i + j.succ = i + 1 + j by omega]
theorem turned_snoc {i n : Nat} (hn : 1 ≤ n) : (turned (i + 1) n).l = rest i n ++ [((i % n : Nat) : Int)] := by
  obtain ⟨k, rfl⟩ : ∃ k, n = k + 1 := ⟨n - 1, by omega⟩
  simp only [turned, rest, List.range_succ, List.map_append, List.map_cons, List.map_nil, Nat.add_sub_cancel]
  rw [show i + 1 + k = i + (k + 1) by omega, Nat.add_mod_right]
theorem turned_next {i n : Nat} (hn : 1 ≤ n) : ((i % n : Nat) : Int) = (turned i n).first ∧ 1 = (turned i n).what ∧ ⟨rest i n, n, n, n, 1⟩ = (turned i n).next := by
  have h := turned_cons (i := i) hn
  have hne : (turned i n).l ≠ [] := by rw [h]; simp
  refine ⟨?_, (Ss.what_task hne).symm, ?_⟩
  · rw [Ss.first, h]; rfl
  · rw [Ss.next, if_neg hne, h]; rfl
theorem turned_back {i n : Nat} (hn : 1 ≤ n) (hd : (turned i n).l.Nodup) : 0 = (Ss.mk (rest i n) n n n 1).backE ((i % n : Nat) : Int) ∧ turned (i + 1) n = (Ss.mk (rest i n) n n n 1).back ((i % n : Nat) : Int) := by
  rw [turned_cons hn, List.nodup_cons] at hd
  have hlt := Nat.mod_lt i (show 0 < n by omega)
  have h1 : ¬ (((i % n : Nat) : Int) < 0 ∨ ((n : Nat) : Int) ≤ ((i % n : Nat) : Int)) := by omega
  have e : (Ss.mk (rest i n) n n n 1).backE ((i % n : Nat) : Int) = 0 := by
    rw [Ss.backE, if_neg (by show ¬ (1 = 0); omega), Ss.pushE, if_neg h1, if_neg hd.1]
  refine ⟨e.symm, ?_⟩
  rw [Ss.back, if_pos e, ← turned_snoc hn]
  rfl

set_option maxRecDepth 100000 in
set_option maxHeartbeats 3200000 in
theorem full_any (q : Int) (hq0 : 0 ≤ q) (hq1 : q < 256) (w : World) :
    Calls Try.prog 5 #[.int .u8 q] w fun e w' => e = .returned (.bool true) ∧ Below w.heap.size w w' := by
  obtain ⟨n, hm⟩ : ∃ n : Nat, 1 + q % 32 = (n : Int) := ⟨(1 + q % 32).toNat, by omega⟩
  have hm0 : 1 ≤ n := by omega
  have hm1 : n ≤ 32 := by omega
  have hwq : IntKind.i64.wrap q = q := by rw [IntKind.wrap_i64]; omega
  have hwm : IntKind.i64.wrap (1 + q % 32) = (n : Int) := by rw [IntKind.wrap_i64]; omega
  have hnew := w_new (w0 := w) n w hm0 hm1 (But.refl [] w)
  go_enter Try.func5, Try.ntmps5
  go_wp2_with fail
  refine hnew.mono ?_
  rintro e w1 ⟨S, F, rfl, H⟩
  clear hnew hwq hwm hm
  go_wp2_with fail
  go_loopw [6] (fun iv wr => ∃ i : Nat, i ≤ n ∧ iv = .int .i64 (i : Int) ∧ Mys w wr S F (upto i n)) (fun iv _ => n - (intOf iv).toNat)
  case atStart => exact ⟨0, Nat.zero_le _, rfl, H⟩
  case round =>
    clear H
    obtain ⟨i, hi, rfl, H⟩ := hrel
    by_cases hlt : i < n
    · have hlt' : (i : Int) < (n : Int) := by omega
      obtain ⟨p1, p2, p3⟩ := upto_make hlt
      have hmk := w_make wr H p1 p2 p3
      have hii : ((i : Int) != (i : Int)) = false := by simp
      clear p1 p2 p3 H
      go_wp2_with fail
      refine hmk.mono ?_
      rintro e w2 ⟨rfl, H⟩
      clear hmk
      go_wp2_with fail
      go_roundw
      case rel => exact ⟨i + 1, by omega, by go_num, H⟩
      case measure => simp [intOf]; omega
    · obtain rfl : i = n := by omega
      have hlt' : ¬ (i : Int) < (i : Int) := by omega
      obtain ⟨p1, p2, p3⟩ := upto_full i
      have hmk := w_make wr H p1 p2 p3
      clear p1 p2 p3 H
      go_wp2_with fail
      refine hmk.mono ?_
      rintro e w2 ⟨rfl, H⟩
      clear hmk
      rw [← turned_zero] at H
      clear hlt' hlt hi
      go_wp2_with fail
      go_loopw [11] (fun jv wj => ∃ j : Nat, j ≤ 2 * i ∧ jv = .int .i64 (j : Int) ∧ Mys w wj S F (turned j i)) (fun jv _ => 2 * i - (intOf jv).toNat)
      case atStart => exact ⟨0, Nat.zero_le _, rfl, H⟩
      case round =>
        clear H
        obtain ⟨j, hj, rfl, H⟩ := hrel
        by_cases hlt : j < 2 * i
        · have hlt' : (j : Int) < 2 * (i : Int) := by omega
          obtain ⟨p1, p2, p3⟩ := turned_next (i := j) hm0
          obtain ⟨q1, q2⟩ := turned_back (i := j) hm0 H.scd.row.nd
          have hnx := w_next wr H (by show 0 < 1000000000; omega) p1 p2 p3
          have hbk := fun W (h : Mys w W S F ⟨rest j i, i, i, i, 1⟩) => w_back ((j % i : Nat) : Int) W h q1 q2
          have hx : (j : Int) % (i : Int) = ((j % i : Nat) : Int) := (Int.natCast_emod j i).symm
          have hi0 : ((i : Int) == 0) = false := by simp; omega
          have hi1 : ¬ (i : Int) = 0 := by omega
          have hxl := Nat.mod_lt j (show 0 < i by omega)
          clear p1 p2 p3 q1 q2 H
          obtain ⟨x, hxe⟩ : ∃ x, x = j % i := ⟨_, rfl⟩
          rw [← hxe] at hnx hbk hx hxl
          have hxx : ((x : Int) != (x : Int)) = false := by simp
          clear hxe
          go_wp2_with fail
          refine hnx.mono ?_
          rintro e w3 ⟨rfl, H⟩
          clear hnx
          go_wp2_with fail
          refine (hbk _ H).mono ?_
          rintro e w4 ⟨rfl, H⟩
          clear hbk
          go_wp2_with fail
          go_roundw
          case rel => exact ⟨j + 1, by omega, by go_num, H⟩
          case measure => simp [intOf]; omega
        · obtain rfl : j = 2 * i := by omega
          have hlt' : ¬ ((2 * i : Nat) : Int) < 2 * (i : Int) := by omega
          have hii : ((i : Int) == (i : Int)) = true := by simp
          have hlv := w_live (n := i) wr H rfl
          clear H
          go_wp2_with fail
          refine hlv.mono ?_
          rintro e w3 ⟨rfl, H, -⟩
          clear hlv
          go_wp2_with fail
          refine (w_busy (n := 0) _ H rfl).mono ?_
          rintro e w4 ⟨rfl, H, -⟩
          have hb := H.below
          clear H
          go_wp2_with fail
          refine (alive_any _).mono ?_
          rintro e w5 ⟨rfl, hb2⟩
          have hbe := hb.trans (hb2.mono hb.size)
          clear hb hb2
          go_wp2_with fail
          go_ret
          exact ⟨rfl, hbe⟩
end Go.Proofs.Ytfdinodcbeipcaa
