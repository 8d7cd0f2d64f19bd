/-
  The walk of pool.New.
-/
import Derived.Test.YtmllalmdaobboaaPAbs
namespace Go.Proofs.Ytmllalmdaobboaa
open Go.RowKit

theorem made_flat {α : Type} (f : α → List Value) (x : α) (z : Array Value) (m : Nat) (hz : z.toList = f x) (hm0 : 0 < m) (hf : ∀ x, (f x).length = m) (n : Nat) : (madeCells z (n * m)).toList = (List.replicate n x).flatMap f := by
  have hs : z.size = m := by rw [← Array.length_toList, hz, hf]
  refine List.ext_getElem? fun k => ?_
  have e : k = k / m * m + k % m := by rw [Nat.mul_comm]; exact (Nat.div_add_mod k m).symm
  have hlt : k % m < m := Nat.mod_lt _ hm0
  by_cases hk : k < n * m
  · have hkn : k / m < n := (Nat.div_lt_iff_lt_mul hm0).2 hk
    conv => rhs; rw [e]
    rw [flat_get f m hf _ _ _ hlt, List.getElem?_replicate, if_pos hkn]
    simp only [madeCells, Array.toList_map, Array.toList_range, List.getElem?_map, List.getElem?_range hk, Option.map_some, Option.bind_some]
    rw [← hz, hs, getElem!_pos z (k % m) (by omega)]
    simp [hs, hlt]
  · rw [List.getElem?_eq_none (by simp [madeCells]; omega), List.getElem?_eq_none (by rw [flat_len f m hf]; simp; omega)]

theorem infoSlot : (Try.prog.info? 54).map (fun i => (i.zero, i.size, i.bytes)) = some (some (.agg #[.bool false, .int .i64 0, .int .i64 0, .bool false, .int .i64 0, .int .u64 0, .int .i64 0]), 7, 56) := by kernel_rfl

/-- The slots behind so many rounds. -/
def newS (n k : Nat) : List Slo := (List.range n).map fun i => (none, if i < k then i + 1 else 0)
theorem newS_len (n k : Nat) : (newS n k).length = n := by simp [newS]
theorem newS_get {n k i : Nat} (hi : i < n) : (newS n k)[i]? = some (none, if i < k then i + 1 else 0) := by simp [newS, List.getElem?_range hi]
theorem newS_zero (n : Nat) : newS n 0 = List.replicate n (none, 0) := by
  refine List.ext_getElem? fun i => ?_
  by_cases hi : i < n
  · rw [newS_get hi, List.getElem?_replicate, if_pos hi, if_neg (Nat.not_lt_zero i)]
  · rw [List.getElem?_eq_none (by rw [newS_len]; omega), List.getElem?_eq_none (by simp; omega)]
theorem newS_succ {n k : Nat} (hk : k < n) : (newS n k).set k (none, k + 1) = newS n (k + 1) := by
  refine List.ext_getElem? fun i => ?_
  by_cases hi : i < n
  · rw [newS_get hi]
    by_cases e : i = k
    · subst e; rw [List.getElem?_set_self (by rw [newS_len]; exact hi), if_pos (Nat.lt_succ_self i)]
    · rw [List.getElem?_set_ne (Ne.symm e), newS_get hi]
      by_cases e2 : i < k
      · rw [if_pos e2, if_pos (by omega)]
      · rw [if_neg e2, if_neg (by omega)]
  · rw [List.getElem?_eq_none (by rw [List.length_set, newS_len]; omega), List.getElem?_eq_none (by rw [newS_len]; omega)]
theorem newS_chain {n : Nat} : ∀ (m f : Nat), f + m = n → Chain (newS n n) f (List.range' f m) := by
  intro m
  induction m with
  | zero => intro f h; exact (show f = (newS n n).length by rw [newS_len]; omega)
  | succ m ih => intro f h; exact ⟨rfl, f + 1, by rw [newS_get (by omega), if_pos (by omega)], ih (f + 1) (by omega)⟩
theorem cnt_none (n : Nat) : ∀ k, cntTo (List.replicate n none) k = 0 := by
  intro k
  induction k with
  | zero => rfl
  | succ k ih =>
    rw [cntTo, ih, tk, List.getElem?_replicate]
    split <;> rfl
theorem newS_pool {W : World} {B V n : Nat} (h : Pol W B V n (newS n n) 0 0) : PoolAt W B V n (List.replicate n none) (List.range n) := by
  have hl := h.len
  rw [newS_len] at hl
  refine ⟨⟨_, _, by rw [cnt_none]; exact h, ?_, by rw [List.range_eq_range']; exact newS_chain n 0 (by omega)⟩, List.nodup_range, fun i hi => ?_, fun i hi => ?_, by rw [cnt_none]; simp, by simpa using hl⟩
  · refine List.ext_getElem? fun i => ?_
    rw [List.getElem?_map]
    by_cases hi : i < n
    · simp [newS_get hi, hi]
    · rw [List.getElem?_eq_none (by rw [newS_len]; omega), List.getElem?_eq_none (by simp; omega)]; rfl
  · have := (List.getElem?_eq_some_iff.1 hi).1
    rw [List.length_replicate] at this
    exact List.mem_range.2 this
  · rw [List.getElem?_replicate, if_pos (List.mem_range.1 hi)]

theorem new_bad (k : Int) (w : World) (h : k < 1 ∨ 1024 < k) :
    Calls Try.prog 8 #[.int .i64 k] w fun e w' => e = .returned (.tuple #[.pointer none, .int .i64 2]) ∧ w' = w := by
  rcases h with h | h
  · have t1 : decide (k < 1) = true := decide_eq_true h
    go_enter Try.func8, Try.ntmps8
    go_wp2_with fail
    go_ret2
    exact ⟨rfl, rfl⟩
  · have h' : ¬ k < 1 := by omega
    have t1 : decide (k < 1) = false := decide_eq_false h'
    have t2 : decide (1024 < k) = true := decide_eq_true h
    go_enter Try.func8, Try.ntmps8
    go_wp2_with fail
    go_ret2
    exact ⟨rfl, rfl⟩

/-- What New leaves. -/
def MadePool (w : World) (n : Nat) (e : Ending) (w' : World) : Prop := ∃ B V, e = .returned (.tuple #[.pointer (some ⟨B, 0, none⟩), .int .i64 0]) ∧ PoolAt w' B V n (List.replicate n none) (List.range n) ∧ w.heap.size ≤ B ∧ w.heap.size ≤ V ∧ But [] w w'

theorem pool_made {w w1 : World} {n : Nat} (h : w1.ownsRow w.heap.size 54 7 (.slice (some ⟨w.heap.size, 0, none⟩) n n) n (madeCells (Value.agg #[.bool false, .int .i64 0, .int .i64 0, .bool false, .int .i64 0, .int .u64 0, .int .i64 0]).cells (n * 7)).toList) (hn : n ≤ 1024) :
    Pol (w1.alloc (.cells #[.slice (some ⟨w.heap.size, 0, none⟩) n n, .int .i64 0, .int .i64 0] 52)) w1.heap.size w.heap.size n (newS n 0) 0 0 := by
  have e : (madeCells (Value.agg #[.bool false, .int .i64 0, .int .i64 0, .bool false, .int .i64 0, .int .u64 0, .int .i64 0]).cells (n * 7)).toList = _ := made_flat sloV (none, 0) _ 7 rfl (by omega) (fun _ => rfl) n
  rw [e, ← newS_zero] at h
  have h1 : RowOf sloV 7 54 w1 w.heap.size n (newS n 0) := RowOf.of_owns (f := sloV) (fun _ => rfl) (by rw [newS_len]; exact h) (by rw [newS_len])
  exact ⟨by rw [newS_len]; exact World.alloc_heap_new w1 _, h1.of_block (Below.heap_alloc w1 _ _ h1.lt), Nat.zero_le _, Nat.zero_le _, by rw [newS_len]; exact hn⟩

theorem new_ok (n : Nat) (w : World) (h1 : 1 ≤ n) (h2 : n ≤ 1024) :
    Calls Try.prog 8 #[.int .i64 (n : Int)] w (MadePool w n) := by
  obtain ⟨i0, hi, hz0, hz1, hz2⟩ := info_parts infoSlot
  have t1 : ¬ (n : Int) < 1 := by omega
  have t2 : decide ((n : Int) < 1) = false := decide_eq_false t1
  have t3 : ¬ (1024 : Int) < (n : Int) := by omega
  have t4 : decide ((1024 : Int) < (n : Int)) = false := decide_eq_false t3
  go_enter Try.func8, Try.ntmps8
  go_wp2_with (at_make; refine wpList_make_full _ rfl _ _ 50 rfl w.heap.size 54 i0 _ 7 Try.underlying50 hi hz0 hz1 .i64 .i64 _ _ n rfl rfl rfl rfl (by rw [hz2]; omega) (by unfold maxLen; omega) (Nat.le_refl _) ?_; intro w1 hown hgrow)
  have hP := pool_made hown h2
  have hb := (But.of_none hgrow []).alloc (.cells #[.slice (some ⟨w.heap.size, 0, none⟩) n n, .int .i64 0, .int .i64 0] 52)
  have hs := hgrow.size
  obtain ⟨B, hB⟩ : ∃ B, B = w1.heap.size := ⟨_, rfl⟩
  obtain ⟨V, hV⟩ : ∃ V, V = w.heap.size := ⟨_, rfl⟩
  have hBw : w.heap.size ≤ B := by omega
  have hVw : w.heap.size ≤ V := by omega
  rw [← hB, ← hV] at hP
  rw [← hV] at hb
  rw [← hB, ← hV]
  clear hown hgrow hB hs hV
  go_wp2_with fail
  have hcS := hP.cellS
  rw [newS_len] at hcS
  go_loopw [21] (fun iv wr => ∃ k : Nat, k ≤ n ∧ iv = .int .i64 (k : Int) ∧ Pol wr B V n (newS n k) 0 0 ∧ But [] w wr) (fun iv _ => n - (intOf iv).toNat)
  case atStart => exact ⟨0, Nat.zero_le _, rfl, hP, hb⟩
  case round =>
    clear hP hb hcS
    obtain ⟨k, hk, rfl, hP, hb⟩ := hrel
    by_cases hlt : k < n
    · have hlt' : (k : Int) < (n : Int) := by omega
      have hcS := hP.cellS
      rw [newS_len] at hcS
      have hv := hP.row.cell (newS_get hlt) (j := 6) (by omega)
      simp only [sudV, sloV, List.cons_append, List.nil_append, List.getElem?_cons_zero, List.getElem?_cons_succ] at hv
      have hz := hP.row.frozen (k * 7 + 6)
      have H := Lib.hid hP
      clear hP
      go_wp2_with fail
      go_roundw
      case rel =>
        refine ⟨k + 1, by omega, by go_num, ⟨(Below.heap_setCell _ _ _ B H.out.ne).trans (by rw [newS_len]; have := H.out.head; rw [newS_len] at this; exact this), ?_, Nat.zero_le _, Nat.zero_le _, by rw [newS_len]; exact h2⟩, hb.set (.inr hVw) _⟩
        rw [← newS_succ hlt]
        refine H.out.row.set1 (by rw [newS_len]; exact hlt) (by omega) (newS_get hlt) fun m hm => ?_
        have hm' : m = 0 ∨ m = 1 ∨ m = 2 ∨ m = 3 ∨ m = 4 ∨ m = 5 ∨ m = 6 := by omega
        rcases hm' with rfl | rfl | rfl | rfl | rfl | rfl | rfl <;> rfl
      case measure => simp [intOf]; omega
    · obtain rfl : k = n := by omega
      have hlt' : ¬ (k : Int) < (k : Int) := by omega
      go_wp2_with fail
      go_ret2
      exact ⟨B, V, rfl, newS_pool hP, hBw, hVw, hb⟩
end Go.Proofs.Ytmllalmdaobboaa
