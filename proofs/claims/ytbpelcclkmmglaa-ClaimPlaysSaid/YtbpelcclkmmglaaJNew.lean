/-
  The walks of claim.New, and of the law's nothing and alive.
-/
import Derived.Test.YtbpelcclkmmglaaJBase
namespace Go.Proofs.Ytbpelcclkmmglaa
open Go.RowKit

theorem knew_nil (b k : Int) (w : World) :
    Calls Try.prog 9 #[.pointer none, .int .i64 b, .int .i64 k] w fun e w' => e = .returned (.tuple #[.pointer none, .int .i64 1]) ∧ But [] w w' := by
  go_enter Try.func9, Try.ntmps9
  go_wp2_with fail
  go_ret2
  exact ⟨rfl, ((But.refl [] w).alloc _).alloc _⟩

/-- What New leaves. -/
def MadeClaims (w : World) (B base n : Nat) (e : Ending) (w' : World) : Prop := ∃ L P Q, e = .returned (.tuple #[.pointer (some ⟨L, 0, none⟩), .int .i64 0]) ∧ Clm w' L P Q B base n ∧ But [] w w' ∧ w.heap.size ≤ L

theorem knew_ok {B V c base n : Nat} {vs : List Nat} (w : World) (hC : Cels w B V vs c) (h1 : 1 ≤ n) (h2 : n ≤ 32) (h3 : base + n ≤ vs.length) :
    Calls Try.prog 9 #[.pointer (some ⟨B, 0, none⟩), .int .i64 (base : Int), .int .i64 (n : Int)] w (MadeClaims w B base n) := by
  have hl := hC.len
  have t1 : decide ((n : Int) < 1) = false := by simp; omega
  have t2 : decide ((32 : Int) < (n : Int)) = false := by simp; omega
  have t3 : decide ((base : Int) < 0) = false := by simp
  have t4 : decide ((vs.length : Int) - (base : Int) < (n : Int)) = false := by simp; omega
  have t4' : ¬ (vs.length : Int) - (base : Int) < (n : Int) := by omega
  have e1 : IntKind.i64.wrap ((vs.length : Int) - (base : Int)) = (vs.length : Int) - (base : Int) := IntWalk.i64_in _ (by omega)
  have g1 := (But.refl [] w).alloc (.cells #[.int .i64 (base : Int)] 3)
  have g2 := g1.alloc (.cells #[.int .i64 (n : Int)] 3)
  have hC2 := hC.but g2 (by simp) (by simp)
  have p := fun m => clen_any (w := World.drewN _ m) (hC2.drewN m)
  have x1 := Boxed.new w 3 (.int .i64 (base : Int))
  have x2 := Boxed.new (w.alloc (.cells #[.int .i64 (base : Int)] 3)) 3 (.int .i64 (n : Int))
  have x1' := x1.alloc (.cells #[.int .i64 (n : Int)] 3)
  rw [World.size_alloc] at x2
  have x3 := World.alloc_heap_new ((w.alloc (.cells #[.int .i64 (base : Int)] 3)).alloc (.cells #[.int .i64 (n : Int)] 3)) (.cells #[.pointer (some ⟨B, 0, none⟩), .int .i64 (n : Int), .func (.func 23) #[] #[.pointer (some ⟨w.heap.size + 1, 0, none⟩), .pointer (some ⟨w.heap.size, 0, none⟩)]] 57)
  rw [World.size_alloc, World.size_alloc] at x3
  have H3 := Lib.hid x3
  clear x3
  go_enter Try.func9, Try.ntmps9
  go_wp2_with fail
  go_quiet (first | (go_at_call 22; with_reducible exact Calls.quiet_of_same (p _)))
  clear e1
  go_wp2_with fail
  go_ret2
  exact ⟨_, _, _, rfl, ⟨H3.out, x2.alloc _, x1'.alloc _, h2, by omega⟩, (g2.alloc _).drewN _, by omega⟩

theorem knew_bad {B V c : Nat} {b k : Int} {vs : List Nat} (w : World) (hC : Cels w B V vs c) (hb1 : -9223372036854775808 ≤ b) (hb2 : b ≤ 9223372036854775807) (hk1 : -9223372036854775808 ≤ k) (hk2 : k ≤ 9223372036854775807)
    (h : ¬ (1 ≤ k ∧ k ≤ 32 ∧ 0 ≤ b ∧ b + k ≤ (vs.length : Int))) :
    Calls Try.prog 9 #[.pointer (some ⟨B, 0, none⟩), .int .i64 b, .int .i64 k] w fun e w' => e = .returned (.tuple #[.pointer none, .int .i64 2]) ∧ But [] w w' := by
  have hl := hC.len
  have g1 := (But.refl [] w).alloc (.cells #[.int .i64 b] 3)
  have g2 := g1.alloc (.cells #[.int .i64 k] 3)
  have hC2 := hC.but g2 (by simp) (by simp)
  have p := fun m => clen_any (w := World.drewN _ m) (hC2.drewN m)
  have x1 := (Boxed.new w 3 (.int .i64 b)).alloc (.cells #[.int .i64 k] 3)
  have x2 := Boxed.new (w.alloc (.cells #[.int .i64 b] 3)) 3 (.int .i64 k)
  rw [World.size_alloc] at x2
  by_cases c1 : k < 1
  · have t1 : decide (k < 1) = true := decide_eq_true c1
    clear h p
    go_enter Try.func9, Try.ntmps9
    go_wp2_with fail
    go_quiet (fail)
    go_wp2_with fail
    go_ret2
    exact ⟨rfl, g2.drewN _⟩
  have t1 : decide (k < 1) = false := decide_eq_false c1
  by_cases c2 : 32 < k
  · have t2 : decide (32 < k) = true := decide_eq_true c2
    clear h p
    go_enter Try.func9, Try.ntmps9
    go_wp2_with fail
    go_quiet (fail)
    go_wp2_with fail
    go_ret2
    exact ⟨rfl, g2.drewN _⟩
  have t2 : decide (32 < k) = false := decide_eq_false c2
  by_cases c3 : b < 0
  · have t3 : decide (b < 0) = true := decide_eq_true c3
    clear h p
    go_enter Try.func9, Try.ntmps9
    go_wp2_with fail
    go_quiet (fail)
    go_wp2_with fail
    go_ret2
    exact ⟨rfl, g2.drewN _⟩
  have t3 : decide (b < 0) = false := decide_eq_false c3
  have t4' : (vs.length : Int) - b < k := by omega
  have t4 : decide ((vs.length : Int) - b < k) = true := decide_eq_true t4'
  have e1 : IntKind.i64.wrap ((vs.length : Int) - b) = (vs.length : Int) - b := IntWalk.i64_in _ (by omega)
  clear h
  go_enter Try.func9, Try.ntmps9
  go_wp2_with fail
  go_quiet (first | (go_at_call 22; with_reducible exact Calls.quiet_of_same (p _)))
  clear e1
  go_wp2_with fail
  go_ret2
  exact ⟨rfl, g2.drewN _⟩

/-! ### At known answers -/
theorem cell_new_at {k : Int} {n : Nat} (w : World) (H : Hid (k = (n : Int))) (h1 : 1 ≤ n) (h2 : n ≤ 4096) : Calls Try.prog 8 #[.int .i64 k] w (MadeCells w n) := by
  obtain rfl := H.out
  exact cell_new n h1 h2 w
theorem knew_at {B V c base n : Nat} {b k : Int} {vs : List Nat} (w : World) (hC : Cels w B V vs c) (h1 : 1 ≤ n) (h2 : n ≤ 32) (h3 : base + n ≤ vs.length) (H : Hid (b = (base : Int) ∧ k = (n : Int))) :
    Calls Try.prog 9 #[.pointer (some ⟨B, 0, none⟩), .int .i64 b, .int .i64 k] w (MadeClaims w B base n) := by
  obtain ⟨rfl, rfl⟩ := H.out
  exact knew_ok w hC h1 h2 h3
theorem But.own {w a b : World} (h : But [] w a) {B V : Nat} (k : But [B, V] a b) (h1 : w.heap.size ≤ B) (h2 : w.heap.size ≤ V) : But [] w b := h.trans k (by simp; omega)
theorem open_at {L P Q B V base n c c' : Nat} {vs vs' : List Nat} {k x : Int} (w : World) (h : Clm w L P Q B base n) (hC : Cels w B V vs c) (hl : base + n ≤ vs.length) (H : Hid ((openE base n vs k : Int) = x ∧ openV base n vs k = vs' ∧ openC base n vs k c = c')) :
    Calls Try.prog 10 #[.pointer (some ⟨L, 0, none⟩), .int .i64 k] w fun e w' => e = .returned (.int .u64 x) ∧ Cels w' B V vs' c' ∧ But [B, V] w w' := by
  obtain ⟨rfl, rfl, rfl⟩ := H.out
  exact open_any k w h hC hl
theorem claim_at {L P Q B V base n c c' t : Nat} {vs vs' : List Nat} {k x : Int} {b : Bool} (w : World) (h : Clm w L P Q B base n) (hC : Cels w B V vs c) (hl : base + n ≤ vs.length) (H : Hid (x = (t : Int) ∧ claimE base n vs k t = b ∧ claimV base n vs k t = vs' ∧ claimC n k t c = c')) :
    Calls Try.prog 12 #[.pointer (some ⟨L, 0, none⟩), .int .i64 k, .int .u64 x] w fun e w' => e = .returned (.bool b) ∧ Cels w' B V vs' c' ∧ But [B, V] w w' := by
  obtain ⟨rfl, rfl, rfl, rfl⟩ := H.out
  exact claim_any k t w h hC hl
theorem isopen_at {L P Q B V base n c : Nat} {vs : List Nat} {k : Int} {b : Bool} (w : World) (h : Clm w L P Q B base n) (hC : Cels w B V vs c) (hl : base + n ≤ vs.length) (H : Hid (openIs base n vs k = b)) :
    Calls Try.prog 19 #[.pointer (some ⟨L, 0, none⟩), .int .i64 k] w fun e w' => e = .returned (.bool b) ∧ w' = w := by
  obtain rfl := H.out
  exact isopen_any k w h hC hl
theorem claim_nil_at {x : Int} (k : Int) (t : Nat) (w : World) (H : Hid (x = (t : Int))) :
    Calls Try.prog 12 #[.pointer none, .int .i64 k, .int .u64 x] w fun e w' => e = .returned (.bool false) ∧ w' = w := by
  obtain rfl := H.out
  exact claim_none k t w (kcell_nil k w)

theorem nothing_any (w : World) : Calls Try.prog 7 #[] w fun e w' => e = .returned (.bool true) ∧ w' = w := by
  go_enter Try.func7, Try.ntmps7
  go_wp2_with fail
  refine (open_none _ _ (kcell_nil _ _)).mono ?_
  rintro e w ⟨rfl, rfl⟩
  go_wp2_with fail
  refine (claim_nil_at _ 1 _ (Lib.hid rfl)).mono ?_
  rintro e w ⟨rfl, rfl⟩
  go_wp2_with fail
  refine (isopen_none _ _ (kcell_nil _ _)).mono ?_
  rintro e w ⟨rfl, rfl⟩
  go_wp2_with fail
  refine (turn_none _ _ (kcell_nil _ _)).mono ?_
  rintro e w ⟨rfl, rfl⟩
  go_wp2_with fail
  refine (klen_nil _).mono ?_
  rintro e w ⟨rfl, rfl⟩
  go_wp2_with fail
  go_ret
  exact ⟨rfl, rfl⟩

/-! ### alive -/
theorem al1 : (openE 2 4 [0, 0, 0, 0, 0, 0, 0, 0, 0, 0] 2 : Int) = 1 ∧ openV 2 4 [0, 0, 0, 0, 0, 0, 0, 0, 0, 0] 2 = [0, 0, 0, 0, 1, 0, 0, 0, 0, 0] ∧ openC 2 4 [0, 0, 0, 0, 0, 0, 0, 0, 0, 0] 2 0 = 1 := by decide +kernel
theorem al2 : (1 : Int) = ((1 : Nat) : Int) ∧ claimE 2 4 [0, 0, 0, 0, 1, 0, 0, 0, 0, 0] 2 1 = true ∧ claimV 2 4 [0, 0, 0, 0, 1, 0, 0, 0, 0, 0] 2 1 = [0, 0, 0, 0, 2, 0, 0, 0, 0, 0] ∧ claimC 4 2 1 1 = 2 := by decide +kernel
theorem al3 : (1 : Int) = ((1 : Nat) : Int) ∧ claimE 2 4 [0, 0, 0, 0, 2, 0, 0, 0, 0, 0] 2 1 = false ∧ claimV 2 4 [0, 0, 0, 0, 2, 0, 0, 0, 0, 0] 2 1 = [0, 0, 0, 0, 2, 0, 0, 0, 0, 0] ∧ claimC 4 2 1 2 = 3 := by decide +kernel
theorem al4 : (openE 2 4 [0, 0, 0, 0, 2, 0, 0, 0, 0, 0] 2 : Int) = 3 ∧ openV 2 4 [0, 0, 0, 0, 2, 0, 0, 0, 0, 0] 2 = [0, 0, 0, 0, 3, 0, 0, 0, 0, 0] ∧ openC 2 4 [0, 0, 0, 0, 2, 0, 0, 0, 0, 0] 2 3 = 4 := by decide +kernel
theorem al5 : (1 : Int) = ((1 : Nat) : Int) ∧ claimE 2 4 [0, 0, 0, 0, 3, 0, 0, 0, 0, 0] 2 1 = false ∧ claimV 2 4 [0, 0, 0, 0, 3, 0, 0, 0, 0, 0] 2 1 = [0, 0, 0, 0, 3, 0, 0, 0, 0, 0] ∧ claimC 4 2 1 4 = 5 := by decide +kernel
theorem al6 : (2 : Int) = ((2 : Nat) : Int) ∧ claimE 2 4 [0, 0, 0, 0, 3, 0, 0, 0, 0, 0] 2 2 = false ∧ claimV 2 4 [0, 0, 0, 0, 3, 0, 0, 0, 0, 0] 2 2 = [0, 0, 0, 0, 3, 0, 0, 0, 0, 0] ∧ claimC 4 2 2 5 = 5 := by decide +kernel
theorem al7 : openIs 2 4 [0, 0, 0, 0, 3, 0, 0, 0, 0, 0] 2 = true := by decide +kernel

set_option maxRecDepth 100000 in
set_option maxHeartbeats 400000 in
theorem alive_any (w : World) : Calls Try.prog 6 #[] w fun e w' => e = .returned (.bool true) ∧ Below w.heap.size w w' := by
  go_enter Try.func6, Try.ntmps6
  go_wp2_with fail
  refine (cell_new_at (n := 10) _ (Lib.hid rfl) (by omega) (by omega)).mono ?_
  rintro e w1 ⟨B, V, rfl, hC, hV, hB, hz⟩
  have hC1 : Cels w1 B V [0, 0, 0, 0, 0, 0, 0, 0, 0, 0] 0 := hC
  clear hC
  go_wp2_with fail
  refine (knew_at (base := 2) (n := 4) _ hC1 (by omega) (by omega) (by simp) (Lib.hid ⟨rfl, rfl⟩)).mono ?_
  rintro e w2 ⟨L, P, Q, rfl, hL, hg, -⟩
  have hC2 := hC1.but hg (by simp) (by simp)
  have hz2 := hz.next hg
  clear hC1 hg hz
  go_wp2_with fail
  refine (knew_nil _ _ _).mono ?_
  rintro e w3 ⟨rfl, hg⟩
  have hC3 := hC2.but hg (by simp) (by simp)
  have hL3 := hL.but hg (by simp) (by simp) (by simp)
  have hz3 := hz2.next hg
  clear hC2 hg hz2 hL
  go_wp2_with fail
  refine (knew_bad _ hC3 (by omega) (by omega) (by omega) (by omega) (by simp)).mono ?_
  rintro e w4 ⟨rfl, hg⟩
  have hC4 := hC3.but hg (by simp) (by simp)
  have hL4 := hL3.but hg (by simp) (by simp) (by simp)
  have hz4 := hz3.next hg
  clear hC3 hg hz3 hL3
  go_wp2_with fail
  refine (open_at _ hL4 hC4 (by simp) (Lib.hid al1)).mono ?_
  rintro e w5 ⟨rfl, hC5, hg⟩
  have hL5 := hL4.cels hC4 hg
  have hz5 := hz4.own hg hB hV
  clear hC4 hg hz4 hL4
  go_wp2_with fail
  refine (claim_at _ hL5 hC5 (by simp) (Lib.hid al2)).mono ?_
  rintro e w6 ⟨rfl, hC6, hg⟩
  have hL6 := hL5.cels hC5 hg
  have hz6 := hz5.own hg hB hV
  clear hC5 hg hz5 hL5
  go_wp2_with fail
  refine (claim_at _ hL6 hC6 (by simp) (Lib.hid al3)).mono ?_
  rintro e w7 ⟨rfl, hC7, hg⟩
  have hL7 := hL6.cels hC6 hg
  have hz7 := hz6.own hg hB hV
  clear hC6 hg hz6 hL6
  go_wp2_with fail
  refine (open_at _ hL7 hC7 (by simp) (Lib.hid al4)).mono ?_
  rintro e w8 ⟨rfl, hC8, hg⟩
  have hL8 := hL7.cels hC7 hg
  have hz8 := hz7.own hg hB hV
  clear hC7 hg hz7 hL7
  go_wp2_with fail
  refine (claim_at _ hL8 hC8 (by simp) (Lib.hid al5)).mono ?_
  rintro e w9 ⟨rfl, hC9, hg⟩
  have hL9 := hL8.cels hC8 hg
  have hz9 := hz8.own hg hB hV
  clear hC8 hg hz8 hL8
  go_wp2_with fail
  refine (claim_at _ hL9 hC9 (by simp) (Lib.hid al6)).mono ?_
  rintro e wa ⟨rfl, hCa, hg⟩
  have hLa := hL9.cels hC9 hg
  have hza := hz9.own hg hB hV
  clear hC9 hg hz9 hL9
  go_wp2_with fail
  refine (isopen_at _ hLa hCa (by simp) (Lib.hid al7)).mono ?_
  rintro e wa ⟨rfl, rfl⟩
  go_wp2_with fail
  refine (klen_any _ hLa).mono ?_
  rintro e wa ⟨rfl, rfl⟩
  go_wp2_with fail
  go_ret
  exact ⟨rfl, hza.below (Nat.le_refl _) (by simp)⟩
end Go.Proofs.Ytbpelcclkmmglaa
