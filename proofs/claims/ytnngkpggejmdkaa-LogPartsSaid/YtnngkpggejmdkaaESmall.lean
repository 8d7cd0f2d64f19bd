/-
  The walks of flag, tell, with, isFault, may, Commit.
-/
import Derived.Test.YtnngkpggejmdkaaEKinds
namespace Go.Proofs.Ytnngkpggejmdkaa
open Go.RowKit SetM

theorem flag_any (b : Bool) (w : World) :
    Calls Try.prog 47 #[.bool b] w fun e w' => e = .returned (.int .i64 (flagI b)) ∧ w' = w := by
  cases b <;> (go_enter Try.func47, Try.ntmps47; go_wp2_with fail; go_ret; exact ⟨rfl, rfl⟩)

theorem wrap_sgn {s : Nat} (h : s < 18446744073709551616) : IntKind.i64.wrap (s : Int) = sgn s := by
  rw [IntKind.wrap_i64]; unfold sgn; split <;> omega
theorem wrap_uns {v : Int} (h : I64b v) : IntKind.u64.wrap v = (uns v : Int) := by
  unfold I64b at h
  rw [IntKind.wrap_u64]; unfold uns; split <;> omega

theorem below1 (w : World) (o : Obj) : Below w.heap.size w (w.alloc o) := (Below.refl _ w).alloc (Nat.le_refl _) _
theorem below2 (w : World) (o1 o2 : Obj) : Below w.heap.size w ((w.alloc o1).alloc o2) := ((Below.refl _ w).alloc (Nat.le_refl _) _).alloc (by simp) _
set_option maxRecDepth 100000 in
set_option maxHeartbeats 1600000 in
theorem tell_any (x : En) (n : Nat) (hx : x.ok) (hn : n < 13) (w : World) :
    Calls Try.prog 35 #[x.val, .int .i64 (n : Int)] w fun e w' => e = .returned (.int .i64 (x.get n)) ∧ Below w.heap.size w w' := by
  have hs := wrap_sgn hx.s
  have hb := below1 w
  obtain ⟨a, k, w0, t, p, c, b, q, v, u, o, e0, s⟩ := x
  have hf := flag_any o
  obtain ⟨z, hz⟩ : ∃ z, z = sgn s := ⟨_, rfl⟩
  simp only at hs
  rw [← hz] at hs
  have HZ := Lib.hid hz
  clear hz hx
  unfold En.val
  rcases lt13 hn with rfl | rfl | rfl | rfl | rfl | rfl | rfl | rfl | rfl | rfl | rfl | rfl | rfl
  case' inr.inr.inr.inr.inr.inr.inr.inr.inr.inr.inl =>
    clear hn hs
    go_enter Try.func35, Try.ntmps35
    go_wp2_with fail
    refine (hf _).mono ?_
    rintro e w' ⟨rfl, rfl⟩
    go_wp2_with fail
    go_ret
    exact ⟨rfl, hb _⟩
  case' inr.inr.inr.inr.inr.inr.inr.inr.inr.inr.inr.inr =>
    clear hn hf
    go_enter Try.func35, Try.ntmps35
    go_wp2_with fail
    go_ret
    exact ⟨ret_v (by rw [HZ.out]; rfl), hb _⟩
  all_goals
    clear hn hf hs
    go_enter Try.func35, Try.ntmps35
    go_wp2_with fail
    go_ret
    exact ⟨rfl, hb _⟩

set_option maxRecDepth 100000 in
set_option maxHeartbeats 3200000 in
theorem with_any (x : En) (n : Nat) (v0 : Int) (hv : I64b v0) (hn : n < 13) (w : World) :
    Calls Try.prog 37 #[x.val, .int .i64 (n : Int), .int .i64 v0] w fun e w' => e = .returned (x.put n v0).val ∧ Below w.heap.size w w' := by
  have hs := wrap_uns hv
  have hb := below2 w
  obtain ⟨a, k, w0, t, p, c, b, q, v, u, o, e0, s⟩ := x
  obtain ⟨z, hz⟩ : ∃ z, z = uns v0 := ⟨_, rfl⟩
  rw [← hz] at hs
  have HZ := Lib.hid hz
  clear hz hv
  unfold En.val
  rcases lt13 hn with rfl | rfl | rfl | rfl | rfl | rfl | rfl | rfl | rfl | rfl | rfl | rfl | rfl
  · clear hn hs
    go_enter Try.func37, Try.ntmps37
    go_wp2_with fail
    exact bodyPost_ret (v := .agg #[.int .i64 a, .int .u8 (k : Int), .int .i64 v0, .int .i64 t, .int .i64 p, .int .i64 c, .int .i64 b, .int .i64 q, .int .i64 v, .int .i64 u, .bool o, .int .i64 e0, .int .u64 (s : Int)]) (by simp [results, Try.f37, go_sem]) rfl ⟨rfl, hb _ _⟩
  · clear hn hs
    go_enter Try.func37, Try.ntmps37
    go_wp2_with fail
    exact bodyPost_ret (v := .agg #[.int .i64 a, .int .u8 (k : Int), .int .i64 w0, .int .i64 v0, .int .i64 p, .int .i64 c, .int .i64 b, .int .i64 q, .int .i64 v, .int .i64 u, .bool o, .int .i64 e0, .int .u64 (s : Int)]) (by simp [results, Try.f37, go_sem]) rfl ⟨rfl, hb _ _⟩
  · clear hn hs
    go_enter Try.func37, Try.ntmps37
    go_wp2_with fail
    exact bodyPost_ret (v := .agg #[.int .i64 a, .int .u8 (k : Int), .int .i64 w0, .int .i64 t, .int .i64 v0, .int .i64 c, .int .i64 b, .int .i64 q, .int .i64 v, .int .i64 u, .bool o, .int .i64 e0, .int .u64 (s : Int)]) (by simp [results, Try.f37, go_sem]) rfl ⟨rfl, hb _ _⟩
  · clear hn hs
    go_enter Try.func37, Try.ntmps37
    go_wp2_with fail
    exact bodyPost_ret (v := .agg #[.int .i64 a, .int .u8 (k : Int), .int .i64 w0, .int .i64 t, .int .i64 v0, .int .i64 c, .int .i64 b, .int .i64 q, .int .i64 v, .int .i64 u, .bool o, .int .i64 e0, .int .u64 (s : Int)]) (by simp [results, Try.f37, go_sem]) rfl ⟨rfl, hb _ _⟩
  · clear hn hs
    go_enter Try.func37, Try.ntmps37
    go_wp2_with fail
    exact bodyPost_ret (v := .agg #[.int .i64 a, .int .u8 (k : Int), .int .i64 w0, .int .i64 t, .int .i64 p, .int .i64 v0, .int .i64 b, .int .i64 q, .int .i64 v, .int .i64 u, .bool o, .int .i64 e0, .int .u64 (s : Int)]) (by simp [results, Try.f37, go_sem]) rfl ⟨rfl, hb _ _⟩
  · clear hn hs
    go_enter Try.func37, Try.ntmps37
    go_wp2_with fail
    exact bodyPost_ret (v := .agg #[.int .i64 a, .int .u8 (k : Int), .int .i64 w0, .int .i64 t, .int .i64 p, .int .i64 c, .int .i64 v0, .int .i64 q, .int .i64 v, .int .i64 u, .bool o, .int .i64 e0, .int .u64 (s : Int)]) (by simp [results, Try.f37, go_sem]) rfl ⟨rfl, hb _ _⟩
  · clear hn hs
    go_enter Try.func37, Try.ntmps37
    go_wp2_with fail
    exact bodyPost_ret (v := .agg #[.int .i64 a, .int .u8 (k : Int), .int .i64 w0, .int .i64 t, .int .i64 p, .int .i64 c, .int .i64 v0, .int .i64 q, .int .i64 v, .int .i64 u, .bool o, .int .i64 e0, .int .u64 (s : Int)]) (by simp [results, Try.f37, go_sem]) rfl ⟨rfl, hb _ _⟩
  · clear hn hs
    go_enter Try.func37, Try.ntmps37
    go_wp2_with fail
    exact bodyPost_ret (v := .agg #[.int .i64 a, .int .u8 (k : Int), .int .i64 w0, .int .i64 t, .int .i64 p, .int .i64 c, .int .i64 b, .int .i64 v0, .int .i64 v, .int .i64 u, .bool o, .int .i64 e0, .int .u64 (s : Int)]) (by simp [results, Try.f37, go_sem]) rfl ⟨rfl, hb _ _⟩
  · clear hn hs
    go_enter Try.func37, Try.ntmps37
    go_wp2_with fail
    exact bodyPost_ret (v := .agg #[.int .i64 a, .int .u8 (k : Int), .int .i64 w0, .int .i64 t, .int .i64 p, .int .i64 c, .int .i64 b, .int .i64 q, .int .i64 v0, .int .i64 u, .bool o, .int .i64 e0, .int .u64 (s : Int)]) (by simp [results, Try.f37, go_sem]) rfl ⟨rfl, hb _ _⟩
  · clear hn hs
    go_enter Try.func37, Try.ntmps37
    go_wp2_with fail
    exact bodyPost_ret (v := .agg #[.int .i64 a, .int .u8 (k : Int), .int .i64 w0, .int .i64 t, .int .i64 p, .int .i64 c, .int .i64 b, .int .i64 q, .int .i64 v, .int .i64 v0, .bool o, .int .i64 e0, .int .u64 (s : Int)]) (by simp [results, Try.f37, go_sem]) rfl ⟨rfl, hb _ _⟩
  · clear hn hs
    go_enter Try.func37, Try.ntmps37
    go_wp2_with fail
    exact bodyPost_ret (v := .agg #[.int .i64 a, .int .u8 (k : Int), .int .i64 w0, .int .i64 t, .int .i64 p, .int .i64 c, .int .i64 b, .int .i64 q, .int .i64 v, .int .i64 u, .bool (v0 != 0), .int .i64 e0, .int .u64 (s : Int)]) (by simp [results, Try.f37, go_sem]) rfl ⟨rfl, hb _ _⟩
  · clear hn hs
    go_enter Try.func37, Try.ntmps37
    go_wp2_with fail
    exact bodyPost_ret (v := .agg #[.int .i64 a, .int .u8 (k : Int), .int .i64 w0, .int .i64 t, .int .i64 p, .int .i64 c, .int .i64 b, .int .i64 q, .int .i64 v, .int .i64 u, .bool o, .int .i64 v0, .int .u64 (s : Int)]) (by simp [results, Try.f37, go_sem]) rfl ⟨rfl, hb _ _⟩
  · clear hn
    go_enter Try.func37, Try.ntmps37
    go_wp2_with fail
    exact bodyPost_ret (v := .agg #[.int .i64 a, .int .u8 (k : Int), .int .i64 w0, .int .i64 t, .int .i64 p, .int .i64 c, .int .i64 b, .int .i64 q, .int .i64 v, .int .i64 u, .bool o, .int .i64 e0, .int .u64 (z : Int)]) (by simp [results, Try.f37, go_sem]) rfl ⟨ret_v (by rw [HZ.out]; rfl), hb _ _⟩

def faultB (v : Int) : Bool := v == 140 || (v == 141 || (v == 142 || v == 143))
set_option maxHeartbeats 400000 in
theorem isFault_any (v : Int) (w : World) :
    Calls Try.prog 49 #[.int .i64 v] w fun e w' => e = .returned (.bool (faultB v)) ∧ w' = w := by
  go_enter Try.func49, Try.ntmps49
  by_cases h : v = 140 ∨ v = 141 ∨ v = 142 ∨ v = 143
  · have HE : Hid (faultB v = true) := Lib.hid (by rcases h with rfl | rfl | rfl | rfl <;> rfl)
    rcases h with rfl | rfl | rfl | rfl <;> (go_wp2_with fail; go_ret; exact ⟨rfl, rfl⟩)
  · have e0 : (v == 140) = false := by rw [beq_eq_false_iff_ne]; omega
    have e1 : (v == 141) = false := by rw [beq_eq_false_iff_ne]; omega
    have e2 : (v == 142) = false := by rw [beq_eq_false_iff_ne]; omega
    have e3 : (v == 143) = false := by rw [beq_eq_false_iff_ne]; omega
    have HE : Hid (faultB v = false) := Lib.hid (by unfold faultB; rw [e0, e1, e2, e3]; rfl)
    clear h
    go_wp2_with fail
    go_ret
    exact ⟨ret_v (by rw [HE.out]; rfl), rfl⟩
theorem within_any (l m v : Int) (B : Nat) (w : World) (h : w.cell? ⟨B, 0, none⟩ = some (.int .i64 v)) :
    Calls Try.prog 48 #[.int .i64 l, .int .i64 m, .pointer (some ⟨B, 0, none⟩)] w fun e w' => e = .returned (.bool (decide (l ≤ v) && decide (v < m))) ∧ w' = w := by
  go_enter Try.func48, Try.ntmps48
  by_cases h0 : l ≤ v
  · have HE : Hid ((decide (l ≤ v) && decide (v < m)) = decide (v < m)) := Lib.hid (by simp [h0])
    rw [HE.out]
    go_wp2_with fail
    go_ret
    exact ⟨rfl, rfl⟩
  · have HE : Hid ((decide (l ≤ v) && decide (v < m)) = false) := Lib.hid (by simp [h0])
    rw [HE.out]
    go_wp2_with fail
    go_ret
    exact ⟨rfl, rfl⟩
set_option maxRecDepth 100000 in
set_option maxHeartbeats 1600000 in
theorem may_any (n : Nat) (v : Int) (hn : n < 13) (w : World) :
    Calls Try.prog 36 #[.int .i64 (n : Int), .int .i64 v] w fun e w' => e = .returned (.bool (mayN n v)) ∧ Below w.heap.size w w' := by
  have hb := below1 w
  have hc : (w.alloc (.cells #[.int .i64 v] 2)).cell? ⟨w.heap.size, 0, none⟩ = some (.int .i64 v) := Boxed.cell (Boxed.new w _ _)
  have hin := fun l m => within_any l m v w.heap.size _ hc
  have hf := fun W => isFault_any v W
  rcases lt13 hn with rfl | rfl | rfl | rfl | rfl | rfl | rfl | rfl | rfl | rfl | rfl | rfl | rfl
  case' inr.inr.inr.inr.inr.inr.inr.inr.inl => skip
  all_goals
    clear hn
    go_enter Try.func36, Try.ntmps36
    go_wp2_with fail
    first
      | (refine (hin _ _).mono ?_
         rintro e w' ⟨rfl, rfl⟩
         go_wp2_with fail
         go_ret
         exact ⟨rfl, hb _⟩)
      | (refine (hf _).mono ?_
         rintro e w' ⟨rfl, rfl⟩
         go_wp2_with fail
         go_ret
         exact ⟨rfl, hb _⟩)
      | (go_ret
         exact ⟨rfl, hb _⟩)

def commitB (k : Nat) : Bool := decide (1 ≤ k ∧ k ≤ 11)
theorem commit_any (k : Nat) (w : World) :
    Calls Try.prog 10 #[.int .u8 (k : Int)] w fun e w' => e = .returned (.bool (commitB k)) ∧ w' = w := by
  go_enter Try.func10, Try.ntmps10
  by_cases h0 : 1 ≤ k
  · have h1 : (1 : Int) ≤ (k : Int) := by omega
    have HE : Hid (commitB k = decide ((k : Int) ≤ 11)) := Lib.hid (by unfold commitB; simp only [h0, true_and]; exact decide_eq_decide.2 (by omega))
    go_wp2_with fail
    go_ret
    exact ⟨ret_v (by rw [HE.out]; rfl), rfl⟩
  · have h1 : ¬ (1 : Int) ≤ (k : Int) := by omega
    have HE : Hid (commitB k = false) := Lib.hid (by simp [commitB, h0])
    go_wp2_with fail
    go_ret
    exact ⟨ret_v (by rw [HE.out]; rfl), rfl⟩
end Go.Proofs.Ytnngkpggejmdkaa
