/-
  The walks of cell.New, Len, Count, has, Peek.
-/
import Derived.Test.YtbjfongjdlankaaCMath
namespace Go.Proofs.Ytbjfongjdlankaa
open Go.RowKit

theorem infoU64 : (Try.prog.info? 33).map (fun i => (i.zero, i.size, i.bytes)) = some (some (.int .u64 0), 1, 8) := by kernel_rfl
theorem madeU64 (n : Nat) : (madeCells (Value.int .u64 0).cells (n * 1)).toList = U64 (List.replicate n 0) := by
  rw [show (Value.int .u64 0).cells = #[Value.int .u64 0] from rfl, Nat.mul_one, toList_madeCells_one]
  simp [U64]

/-- What New leaves. -/
def MadeCells (w : World) (n : Nat) (e : Ending) (w' : World) : Prop := ∃ B V, e = .returned (.tuple #[.pointer (some ⟨B, 0, none⟩), .int .i64 0]) ∧ Cels w' B V (List.replicate n 0) 0 ∧ w.heap.size ≤ V ∧ w.heap.size ≤ B ∧ But [] w w'

theorem cells_made {W w : World} {n : Nat} (h : W.ownsRow w.heap.size 33 1 (.slice (some ⟨w.heap.size, 0, none⟩) n n) n (madeCells (Value.int .u64 0).cells (n * 1)).toList) (hn : n ≤ 4096) :
    Cels (W.alloc (.cells #[.slice (some ⟨w.heap.size, 0, none⟩) n n, .int .u64 0] 85)) W.heap.size w.heap.size (List.replicate n 0) 0 := by
  rw [madeU64] at h
  rcases h.2 with ⟨h0, _⟩ | ⟨g, cap, cur, he, _, hb, _, _, hs, ht⟩
  · cases h0
  · simp only [Value.slice.injEq, Option.some.injEq, Addr.mk.injEq, and_true, true_and] at he
    obtain ⟨rfl, rfl⟩ := he
    have hlt := (Array.getElem?_eq_some_iff.1 hb).1
    have hcur : cur = (U64 (List.replicate n 0)).toArray := by
      rw [← ht, ← hs, ← Array.length_toList, List.take_length]
    refine ⟨?_, (Below.heap_alloc W _ _ hlt).trans (by rw [hb, hcur]), fun x hx => by rw [List.eq_of_mem_replicate hx]; omega, by omega, by simpa using hn⟩
    rw [List.length_replicate]; exact World.alloc_heap_new W _

theorem cell_new (n : Nat) (h1 : 1 ≤ n) (h2 : n ≤ 4096) (w : World) :
    Calls Try.prog 26 #[.int .i64 (n : Int)] w (MadeCells w n) := by
  obtain ⟨i0, hi, hz0, hz1, hz2⟩ := info_parts infoU64
  have t1 : ¬ (n : Int) < 1 := by omega
  have t2 : decide ((n : Int) < 1) = false := by simp; omega
  have t3 : ¬ (4096 : Int) < (n : Int) := by omega
  have t4 : decide ((4096 : Int) < (n : Int)) = false := by simp; omega
  go_enter Try.func26, Try.ntmps26
  go_wp2_with (at_make; refine wpList_make_full _ rfl _ _ 32 rfl w.heap.size 33 i0 (.int .u64 0) 1 Try.underlying32 hi hz0 hz1 .i64 .i64 _ _ n rfl rfl rfl rfl (by rw [hz2]; omega) (by unfold maxLen; omega) (Nat.le_refl _) ?_; intro w1 hown hgrow)
  go_ret2
  have hs := hgrow.size
  exact ⟨_, _, rfl, cells_made hown h2, Nat.le_refl _, hs, (But.of_none hgrow []).alloc _⟩

theorem clen_any {B V : Nat} {vs : List Nat} {n : Nat} (w : World) (h : Cels w B V vs n) :
    Calls Try.prog 44 #[.pointer (some ⟨B, 0, none⟩)] w fun e w' => e = .returned (.int .i64 (vs.length : Int)) ∧ w' = w := by
  have hc := h.cellS
  have hl := h.len
  clear h
  go_enter Try.func44, Try.ntmps44
  go_wp2_with fail
  go_ret
  exact ⟨rfl, rfl⟩
theorem clen_nil (w : World) :
    Calls Try.prog 44 #[.pointer none] w fun e w' => e = .returned (.int .i64 0) ∧ w' = w := by
  go_enter Try.func44, Try.ntmps44
  go_wp2_with fail
  go_ret
  exact ⟨rfl, rfl⟩
theorem count_any {B V : Nat} {vs : List Nat} {n : Nat} (w : World) (h : Cels w B V vs n) :
    Calls Try.prog 17 #[.pointer (some ⟨B, 0, none⟩)] w fun e w' => e = .returned (.int .u64 (n : Int)) ∧ w' = w := by
  have hc := h.cellN
  clear h
  go_enter Try.func17, Try.ntmps17
  go_wp2_with fail
  go_ret
  exact ⟨rfl, rfl⟩

theorem has_any {B V : Nat} {vs : List Nat} {n : Nat} (i : Int) (w : World) (h : Cels w B V vs n) (h1 : -9223372036854775808 ≤ i) (h2 : i ≤ 9223372036854775807) :
    Calls Try.prog 58 #[.pointer (some ⟨B, 0, none⟩), .int .i64 i] w fun e w' => e = .returned (.bool (inRow vs.length i)) ∧ w' = w := by
  have hl := h.len
  have hcall := fun w => clen_any (B := B) (V := V) (vs := vs) (n := n) w
  by_cases h0 : i < 0
  · have t1 : decide (0 ≤ i) = false := by simp; omega
    rw [show inRow vs.length i = false from decide_eq_false (by omega)]
    clear hcall
    go_enter Try.func58, Try.ntmps58
    go_wp2_with fail
    go_ret
    exact ⟨rfl, rfl⟩
  · have t1 : 0 ≤ i := by omega
    have t2 : decide (0 ≤ i) = true := decide_eq_true t1
    have hR : Hid (inRow vs.length i = decide (i < (vs.length : Int))) := by unfold inRow; show _ = _; simp [t1]
    go_enter Try.func58, Try.ntmps58
    go_wp2_with (go_at_call 44; refine (hcall _ h).mono ?_; rintro e w' ⟨rfl, rfl⟩)
    go_ret
    exact ⟨by rw [hR.out]; rfl, rfl⟩

theorem peek_there {B V : Nat} {vs : List Nat} {n : Nat} (i : Nat) (w : World) (h : Cels w B V vs n) (hi : i < vs.length) :
    Calls Try.prog 51 #[.pointer (some ⟨B, 0, none⟩), .int .i64 (i : Int)] w fun e w' => e = .returned (.int .u64 (nth vs i : Int)) ∧ w' = w := by
  have hl := h.len
  have hc := h.cellS
  have hv := h.cellV hi
  have hin : Hid (inRow vs.length (i : Int) = true) := decide_eq_true (by omega)
  have hcall := has_any (i : Int) w h (by omega) (by omega)
  rw [hin.out] at hcall
  clear h
  go_enter Try.func51, Try.ntmps51
  go_wp2_with (go_at_call 58; refine hcall.mono ?_; rintro e w' ⟨rfl, rfl⟩)
  go_ret
  exact ⟨rfl, rfl⟩
theorem peek_out {B V : Nat} {vs : List Nat} {n : Nat} (i : Int) (w : World) (h : Cels w B V vs n) (h1 : -9223372036854775808 ≤ i) (h2 : i ≤ 9223372036854775807) (hi : inRow vs.length i = false) :
    Calls Try.prog 51 #[.pointer (some ⟨B, 0, none⟩), .int .i64 i] w fun e w' => e = .returned (.int .u64 0) ∧ w' = w := by
  have hcall := has_any i w h h1 h2
  rw [hi] at hcall
  clear h hi
  go_enter Try.func51, Try.ntmps51
  go_wp2_with (go_at_call 58; refine hcall.mono ?_; rintro e w' ⟨rfl, rfl⟩)
  go_ret
  exact ⟨rfl, rfl⟩
theorem inRow_nat {len : Nat} {i : Int} (h : inRow len i = true) : ∃ k : Nat, i = (k : Int) ∧ k < len := by
  have := of_decide_eq_true h
  obtain ⟨k, rfl⟩ := Int.eq_ofNat_of_zero_le this.1
  exact ⟨k, rfl, by omega⟩
theorem cellAt_nat {vs : List Nat} {i : Nat} (h : i < vs.length) : cellAt vs (i : Int) = nth vs i := by
  unfold cellAt inRow; rw [if_pos (decide_eq_true (by omega))]; rfl
theorem cellAt_out {vs : List Nat} {i : Int} (h : inRow vs.length i = false) : cellAt vs i = 0 := by unfold cellAt; rw [h]; rfl
theorem peek_any {B V : Nat} {vs : List Nat} {n : Nat} (i : Int) (w : World) (h : Cels w B V vs n) (h1 : -9223372036854775808 ≤ i) (h2 : i ≤ 9223372036854775807) :
    Calls Try.prog 51 #[.pointer (some ⟨B, 0, none⟩), .int .i64 i] w fun e w' => e = .returned (.int .u64 (cellAt vs i : Nat)) ∧ w' = w := by
  cases hi : inRow vs.length i with
  | true =>
    obtain ⟨k, rfl, hk⟩ := inRow_nat hi
    rw [cellAt_nat hk]; exact peek_there k w h hk
  | false => rw [cellAt_out hi]; exact peek_out i w h h1 h2 hi
end Go.Proofs.Ytbjfongjdlankaa
