/-
  Sizes and rows of numbers in memory; the walks of within and its closure, sum, product, the document's in, add and mul.
-/
import Derived.Lib.SliceRun
import Derived.RangeFuncBox
import Derived.Test.YtfbcaicfppommaaShelf
import Derived.Test.YtfbcaicfppommaaBMath
namespace Go.Proofs.Ytfbcaicfppommaa
open Go.RowKit

theorem ret_u64 {x y : Int} (h : x = y) : Ending.returned (.int .u64 x) = .returned (.int .u64 y) := by rw [h]
theorem ret_i {x y : Int} (h : x = y) : Ending.returned (.int .i64 x) = .returned (.int .i64 y) := by rw [h]
theorem ret_b {x y : Bool} (h : x = y) : Ending.returned (.bool x) = .returned (.bool y) := by rw [h]
theorem below_next {n : Nat} {w w1 w2 : World} (h : Below n w w1) (k : Below w1.heap.size w1 w2) (hn : n ≤ w.heap.size) : Below n w w2 :=
  ⟨k.os.trans h.os, k.tape.trans h.tape, k.output.trans h.output, Nat.le_trans h.size k.size, fun i hi => (k.block i (Nat.lt_of_lt_of_le hi (Nat.le_trans hn h.size))).trans (h.block i hi)⟩

/-! ### What may have been turned: the blocks of a list, and new ones -/
structure But (S : List Nat) (w w' : World) : Prop where
  os : w'.os = w.os
  tape : w'.tape = w.tape
  output : w'.output = w.output
  size : w.heap.size ≤ w'.heap.size
  block : ∀ k, k < w.heap.size → k ∉ S → w'.heap[k]? = w.heap[k]?

theorem But.refl (S : List Nat) (w : World) : But S w w := ⟨rfl, rfl, rfl, Nat.le_refl _, fun _ _ _ => rfl⟩
theorem But.mono {S T : List Nat} {w w' : World} (h : But S w w') (hS : ∀ k ∈ S, k ∈ T) : But T w w' := ⟨h.os, h.tape, h.output, h.size, fun k hk hn => h.block k hk (fun e => hn (hS k e))⟩
theorem But.trans {S T : List Nat} {a b c : World} (h : But S a b) (k : But T b c) (hT : ∀ x ∈ T, x < a.heap.size → x ∈ S) : But S a c :=
  ⟨k.os.trans h.os, k.tape.trans h.tape, k.output.trans h.output, Nat.le_trans h.size k.size,
   fun i hi hn => (k.block i (Nat.lt_of_lt_of_le hi h.size) (fun e => hn (hT i e hi))).trans (h.block i hi hn)⟩
theorem But.next {S : List Nat} {a b c : World} (h : But S a b) (k : But S b c) : But S a c := h.trans k (fun _ h _ => h)
theorem But.own {S T : List Nat} {a b c : World} (h : But S a b) (k : But T b c) (hT : ∀ x ∈ T, a.heap.size ≤ x) : But S a c := h.trans k (fun x hx h0 => by have := hT x hx; omega)
theorem But.of_none {w w' : World} (h : w.grownBy w' none) (S : List Nat) : But S w w' := ⟨h.os, h.tape, h.output, h.size, fun k hk _ => h.block k hk (by simp)⟩
theorem But.of_some {w w' : World} {B : Nat} (h : w.grownBy w' (some B)) {S : List Nat} (hB : B ∈ S) : But S w w' := ⟨h.os, h.tape, h.output, h.size, fun k hk hn => h.block k hk (fun e => by cases e; exact hn hB)⟩
theorem But.drewN {S : List Nat} {w w' : World} (h : But S w w') (n : Nat) : But S w (w'.drewN n) := ⟨h.os, h.tape, h.output, h.size, h.block⟩
theorem But.drew {S : List Nat} {w w' : World} (h : But S w w') : But S w w'.drew := ⟨h.os, h.tape, h.output, h.size, h.block⟩
theorem But.alloc {S : List Nat} {w w' : World} (h : But S w w') (o : Obj) : But S w (w'.alloc o) := h.trans (.of_none (World.grownBy_alloc w' o none) []) (by simp)
theorem But.set {S : List Nat} {w w' : World} (h : But S w w') {p : Addr} (hp : p.block ∈ S ∨ w.heap.size ≤ p.block) (v : Value) : But S w (w'.setCell p v) :=
  ⟨h.os, h.tape, h.output, by simpa [World.setCell] using h.size, fun k hk hn => (Below.heap_setCell w' p v k (fun e => by subst e; rcases hp with hp | hp; exact hn hp; omega)).trans (h.block k hk hn)⟩
theorem But.cell {S : List Nat} {w w' : World} (h : But S w w') {p : Addr} {v : Value} (hv : w.cell? p = some v) (hn : p.block ∉ S) : w'.cell? p = some v :=
  (World.cell?_of_block (w := w) (h.block p.block (World.block_lt_of_cell? w p hv) hn)).trans hv
theorem But.frozen {S : List Nat} {w w' : World} (h : But S w w') {p : Addr} {b : Bool} (hv : w.frozen? p = b) (hl : p.block < w.heap.size) (hn : p.block ∉ S) : w'.frozen? p = b :=
  (World.frozen?_of_block (w := w) (h.block p.block hl hn)).trans hv
theorem But.boxed {S : List Nat} {w w' : World} (h : But S w w') {B : Nat} {t : TypeId} {v : Value} (hb : Boxed w B t v) (hn : B ∉ S) : Boxed w' B t v := (h.block B hb.lt hn).trans hb
theorem But.below {S : List Nat} {w w' : World} (h : But S w w') {n : Nat} (hn : n ≤ w.heap.size) (hS : ∀ k ∈ S, n ≤ k) : Below n w w' :=
  ⟨h.os, h.tape, h.output, h.size, fun k hk => h.block k (Nat.lt_of_lt_of_le hk hn) (fun e => Nat.lt_irrefl _ (Nat.lt_of_lt_of_le hk (hS k e)))⟩
theorem But.of_below {w w' : World} (h : Below w.heap.size w w') (S : List Nat) : But S w w' := ⟨h.os, h.tape, h.output, h.size, fun k hk _ => h.block k hk⟩
theorem But.row {S : List Nat} {w w' : World} (h : But S w w') {base : Nat} {e : TypeId} {size : Nat} {v : Value} {n : Nat} {xs : List Value} (hr : w.ownsRow base e size v n xs) (hn : ∀ g, v.ownBlock = some g → g ∉ S) : w'.ownsRow base e size v n xs := by
  refine ⟨hr.1, ?_⟩
  rcases hr.2 with h0 | ⟨g, cap, cur, rfl, hg, hb, r⟩
  · exact .inl h0
  · exact .inr ⟨g, cap, cur, rfl, hg, (h.block g (Array.getElem?_eq_some_iff.1 hb).1 (hn g rfl)).trans hb, r⟩
theorem heap_set_same {W : World} {B k : Nat} {cs : Array Value} {t : TypeId} {z : Nat × Nat} (v : Value) (h : W.heap[B]? = some (.cells cs t z)) : (W.setCell ⟨B, k, none⟩ v).heap[B]? = some (.cells (cs.setIfInBounds k v) t z) := by
  obtain ⟨hlt, hk⟩ := Array.getElem?_eq_some_iff.1 h
  show (W.heap.modify B _)[B]? = _
  rw [Array.getElem?_eq_getElem (by rw [Array.size_modify]; exact hlt), Array.getElem_modify_self, hk]
  rfl



/-! ### Rows of numbers -/
def U64 (xs : List Nat) : List Value := xs.map fun (x : Nat) => .int .u64 (x : Int)
/-- The slice value v reads as the numbers xs. -/
def Row64 (w : World) (v : Value) (xs : List Nat) : Prop :=
  ∃ b off cap, v = .slice (some ⟨b, off, none⟩) xs.length cap ∧ b < w.heap.size ∧ ∀ j, j < xs.length → w.cell? ⟨b, off + j, none⟩ = some (.int .u64 (xs[j]?.getD 0 : Nat))
theorem row2 (w : World) (x y : Nat) : Row64 (w.alloc (.cells #[.int .u64 (x : Int), .int .u64 (y : Int)] 25)) (.slice (some ⟨w.heap.size, 0, none⟩) 2 2) [x, y] := by
  refine ⟨w.heap.size, 0, 2, rfl, by simp, fun j hj => ?_⟩
  have hh := World.alloc_heap_new w (.cells #[.int .u64 (x : Int), .int .u64 (y : Int)] 25)
  simp only [World.cell?, hh]
  simp only [List.length_cons, List.length_nil, Nat.zero_add, Nat.reduceAdd] at hj
  rcases (by omega : j = 0 ∨ j = 1) with rfl | rfl <;> rfl
theorem row3 (w : World) (x y z : Nat) : Row64 (w.alloc (.cells #[.int .u64 (x : Int), .int .u64 (y : Int), .int .u64 (z : Int)] 25)) (.slice (some ⟨w.heap.size, 0, none⟩) 3 3) [x, y, z] := by
  refine ⟨w.heap.size, 0, 3, rfl, by simp, fun j hj => ?_⟩
  have hh := World.alloc_heap_new w (.cells #[.int .u64 (x : Int), .int .u64 (y : Int), .int .u64 (z : Int)] 25)
  simp only [World.cell?, hh]
  simp only [List.length_cons, List.length_nil, Nat.zero_add, Nat.reduceAdd] at hj
  rcases (by omega : j = 0 ∨ j = 1 ∨ j = 2) with rfl | rfl | rfl <;> rfl

/-! ### Ranges -/
def insB (a b x : Int) : Bool := decide (a ≤ x) && decide (x ≤ b)
theorem insB_no {a b x : Int} (h : ¬ a ≤ x) : insB a b x = false := by simp [insB, h]
theorem insB_yes {a b x : Int} (h : a ≤ x) : insB a b x = decide (x ≤ b) := by simp [insB, h]
theorem insB_iff {a b x : Int} : insB a b x = true ↔ a ≤ x ∧ x ≤ b := by simp [insB]
theorem within_any (a b : Int) (w : World) :
    Calls Try.prog 25 #[.int .i64 a, .int .i64 b] w fun e w' => e = .returned (.func (.func 32) #[] #[.pointer (some ⟨w.heap.size, 0, none⟩), .pointer (some ⟨w.heap.size + 1, 0, none⟩)]) ∧ Boxed w' w.heap.size 3 (.int .i64 a) ∧ Boxed w' (w.heap.size + 1) 3 (.int .i64 b) ∧ But [] w w' := by
  have x1 := (Boxed.new w 3 (.int .i64 a)).alloc (.cells #[.int .i64 b] 3)
  have x2 := Boxed.new (w.alloc (.cells #[.int .i64 a] 3)) 3 (.int .i64 b)
  rw [World.size_alloc] at x2
  have g := ((But.refl [] w).alloc (.cells #[.int .i64 a] 3)).alloc (.cells #[.int .i64 b] 3)
  go_enter Try.func25, Try.ntmps25
  go_wp2_with fail
  go_ret
  exact ⟨by simp, x1, x2, g⟩
theorem in_any (P Q : Nat) (a b x : Int) (w : World) (hP : Boxed w P 3 (.int .i64 a)) (hQ : Boxed w Q 3 (.int .i64 b)) :
    Calls Try.prog 32 #[.int .i64 x, .pointer (some ⟨P, 0, none⟩), .pointer (some ⟨Q, 0, none⟩)] w fun e w' => e = .returned (.bool (insB a b x)) ∧ w' = w := by
  have c1 := hP.cell
  have c2 := hQ.cell
  clear hP hQ
  go_enter Try.func32, Try.ntmps32
  by_cases h : a ≤ x
  · have t1 : decide (a ≤ x) = true := decide_eq_true h
    go_wp2_with fail
    go_ret
    exact ⟨ret_b (insB_yes h).symm, rfl⟩
  · have t1 : decide (a ≤ x) = false := decide_eq_false h
    go_wp2_with fail
    go_ret
    exact ⟨ret_b (insB_no (by omega)).symm, rfl⟩
theorem in_is {a b x : Int} {c : Bool} (h : insB a b x = c) (P Q : Nat) (w : World) (hP : Boxed w P 3 (.int .i64 a)) (hQ : Boxed w Q 3 (.int .i64 b)) :
    Calls Try.prog 32 #[.int .i64 x, .pointer (some ⟨P, 0, none⟩), .pointer (some ⟨Q, 0, none⟩)] w fun e w' => e = .returned (.bool c) ∧ w' = w := by
  subst h; exact in_any P Q a b x w hP hQ
theorem rin_any (x a b : Int) (w : World) :
    Calls Try.prog 27 #[.int .i64 x, .int .i64 a, .int .i64 b] w fun e w' => e = .returned (.bool (insB a b x)) ∧ w' = w := by
  go_enter Try.func27, Try.ntmps27
  by_cases h : a ≤ x
  · have t1 : decide (a ≤ x) = true := decide_eq_true h
    go_wp2_with fail
    go_ret
    exact ⟨ret_b (insB_yes h).symm, rfl⟩
  · have t1 : decide (a ≤ x) = false := decide_eq_false h
    go_wp2_with fail
    go_ret
    exact ⟨ret_b (insB_no (by omega)).symm, rfl⟩
theorem rin_is {a b x : Int} {c : Bool} (h : insB a b x = c) (w : World) :
    Calls Try.prog 27 #[.int .i64 x, .int .i64 a, .int .i64 b] w fun e w' => e = .returned (.bool c) ∧ w' = w := by
  subst h; exact rin_any x a b w

/-! ### Sums and products -/
theorem lid_if (n : Nat) : (if (4611686018427387904 : Int) < (n : Int) then (4611686018427387904 : Int) else (n : Int)) = (lid n : Int) := by unfold lid; split <;> omega
theorem mul64_any (x y : Nat) (hx : x < 18446744073709551616) (hy : y < 18446744073709551616) (w : World) :
    Calls Try.prog 31 #[.int .u64 (x : Int), .int .u64 (y : Int)] w fun e w' => e = .returned (.tuple #[.int .u64 ((x * y / 18446744073709551616 : Nat) : Int), .int .u64 ((x * y % 18446744073709551616 : Nat) : Int)]) ∧ w' = w :=
  Any.bits_Mul64 Try.lays264 x y hx hy w

theorem sum_any (v : Value) (xs : List Nat) (w : World) (hr : Row64 w v xs) (hx : ∀ x ∈ xs, x < 18446744073709551616) (hl : xs.length ≤ 1000) :
    Calls Try.prog 22 #[v] w fun e w' => e = .returned (.int .u64 (lid (sumL xs) : Int)) ∧ w' = w := by
  obtain ⟨b, off, cap, rfl, hb, hc⟩ := hr
  go_enter Try.func22, Try.ntmps22
  go_wp2_with fail
  go_loop [2, 7] (fun av iv => ∃ i : Nat, i ≤ xs.length ∧ av = .int .u64 (lid (sumL (xs.take i)) : Int) ∧ iv = .int .i64 (i : Int)) (fun _ iv => xs.length - (intOf iv).toNat)
  case atStart => exact ⟨0, Nat.zero_le _, rfl, rfl⟩
  case round =>
    obtain ⟨i, hi, rfl, rfl⟩ := hrel
    by_cases hlt : i < xs.length
    · have hlt' : (i : Int) < (xs.length : Int) := by omega
      have i0 : (0 : Int) ≤ (i : Int) := by omega
      have hcell := hc i hlt
      have hm := hx _ (show xs[i]?.getD 0 ∈ xs by rw [List.getElem?_eq_getElem hlt]; simp)
      have HN := Lib.hid (sumL_next xs i hlt)
      have HT := Lib.hid (sumL_take_le xs (i + 1))
      generalize xs[i]?.getD 0 = x at hcell hm HN
      obtain ⟨a, ha⟩ : ∃ a, a = lid (sumL (xs.take i)) := ⟨_, rfl⟩
      have hale : a ≤ 4611686018427387904 := ha ▸ lid_le _
      rw [← ha]
      have HA := Lib.hid ha
      have ew : IntKind.u64.wrap (4611686018427387904 - (a : Int)) = 4611686018427387904 - (a : Int) := by rw [IntKind.wrap_u64]; omega
      clear ha hc
      by_cases ho : 4611686018427387904 - a < x
      · have ht : decide (4611686018427387904 - (a : Int) < (x : Int)) = true := decide_eq_true (by omega)
        have HE : Hid (lid (sumL xs) = 4611686018427387904) := Lib.hid (by
          have h1 := HN.out; have h2 := HT.out; have h3 := HA.out
          refine lid_of_ge ?_
          unfold lid at h3; omega)
        clear HN HT HA
        go_wp2_with fail
        go_ret
        exact ⟨ret_u64 (by rw [HE.out]; rfl), rfl⟩
      · have ht : decide (4611686018427387904 - (a : Int) < (x : Int)) = false := decide_eq_false (by omega)
        have ew2 : IntKind.u64.wrap ((a : Int) + (x : Int)) = ((a + x : Nat) : Int) := by rw [IntKind.wrap_u64]; omega
        have HE : Hid (a + x = lid (sumL (xs.take (i + 1)))) := Lib.hid (by
          have h1 := HN.out; have h3 := HA.out
          rw [h1]; unfold lid at h3 ⊢; omega)
        clear HN HT HA
        go_wp2_with fail
        go_round
        case rel => exact ⟨i + 1, by omega, by rw [← HE.out, Int.natCast_add], by go_num⟩
        case measure => simp [intOf]; omega
    · have hlt' : ¬ (i : Int) < (xs.length : Int) := by omega
      have HE : Hid (xs.take i = xs) := Lib.hid (List.take_of_length_le (by omega))
      clear hc
      go_wp2_with fail
      go_ret
      exact ⟨ret_u64 (by rw [HE.out]), rfl⟩
theorem product_any (v : Value) (xs : List Nat) (w : World) (hr : Row64 w v xs) (hx : ∀ x ∈ xs, x < 18446744073709551616) (hl : xs.length ≤ 1000) :
    Calls Try.prog 23 #[v] w fun e w' => e = .returned (.int .u64 (lid (mulL xs) : Int)) ∧ w' = w := by
  obtain ⟨b, off, cap, rfl, hb, hc⟩ := hr
  go_enter Try.func23, Try.ntmps23
  go_wp2_with fail
  go_loop [3, 10] (fun av iv => ∃ i : Nat, i ≤ xs.length ∧ av = .int .u64 (lid (mulL (xs.take i)) : Int) ∧ iv = .int .i64 (i : Int)) (fun _ iv => xs.length - (intOf iv).toNat)
  case atStart => exact ⟨0, Nat.zero_le _, rfl, rfl⟩
  case round =>
    obtain ⟨i, hi, rfl, rfl⟩ := hrel
    by_cases hlt : i < xs.length
    · have hlt' : (i : Int) < (xs.length : Int) := by omega
      have i0 : (0 : Int) ≤ (i : Int) := by omega
      have hcell := hc i hlt
      have hm := hx _ (show xs[i]?.getD 0 ∈ xs by rw [List.getElem?_eq_getElem hlt]; simp)
      have HN := Lib.hid (mulL_next xs i hlt)
      generalize xs[i]?.getD 0 = x at hcell hm HN
      obtain ⟨a, ha⟩ : ∃ a, a = lid (mulL (xs.take i)) := ⟨_, rfl⟩
      have hale : a < 18446744073709551616 := by have := lid_le (mulL (xs.take i)); omega
      rw [← ha]
      have HA := Lib.hid ha
      clear ha hc
      have HE : Hid (lid (a * x) = lid (mulL (xs.take (i + 1)))) := Lib.hid (by rw [HA.out, HN.out, lid_mul])
      clear HN HA
      have hcall := mul64_any a x hale hm w
      obtain ⟨hi', hhi⟩ : ∃ k, k = a * x / 18446744073709551616 := ⟨_, rfl⟩
      obtain ⟨lo, hlo⟩ : ∃ k, k = a * x % 18446744073709551616 := ⟨_, rfl⟩
      rw [← hhi, ← hlo] at hcall
      have hloB : lo < 18446744073709551616 := by omega
      have HH := Lib.hid hhi
      have HL := Lib.hid hlo
      clear hhi hlo
      go_wp2_with fail
      refine hcall.mono ?_
      rintro e w1 ⟨rfl, rfl⟩
      clear hcall
      by_cases hz : hi' = 0
      · subst hz
        have HE2 : Hid (lid lo = lid (mulL (xs.take (i + 1)))) := Lib.hid (by
          have h1 := HE.out; have h2 := HH.out; have h3 := HL.out
          rw [← h1, show lo = a * x by omega])
        clear HE HH HL
        go_wp2_with fail
        go_round
        case rel => exact ⟨i + 1, by omega, by rw [← HE2.out, lid_if], by go_num⟩
        case measure => simp [intOf]; omega
      · have ht : ((hi' : Int) == 0) = false := by simpa using hz
        have HE2 : Hid (4611686018427387904 = lid (mulL (xs.take (i + 1)))) := Lib.hid (by
          have h1 := HE.out; have h2 := HH.out
          rw [← h1, lid_of_ge (by omega)])
        clear HE HH HL
        go_wp2_with fail
        go_round
        case rel => exact ⟨i + 1, by omega, by rw [← HE2.out]; rfl, by go_num⟩
        case measure => simp [intOf]; omega
    · have hlt' : ¬ (i : Int) < (xs.length : Int) := by omega
      have HE : Hid (xs.take i = xs) := Lib.hid (List.take_of_length_le (by omega))
      clear hc
      go_wp2_with fail
      go_ret
      exact ⟨ret_u64 (by rw [HE.out]), rfl⟩
theorem in64 {xs : List Nat} (h : ∀ x ∈ xs, x ≤ 4611686018427387904) : ∀ x ∈ xs, x < 18446744073709551616 := fun x hx => Nat.lt_of_le_of_lt (h x hx) (by omega)
theorem sum2 (x y : Nat) (w : World) (hx : x ≤ 4611686018427387904) (hy : y ≤ 4611686018427387904) :
    Calls Try.prog 22 #[.slice (some ⟨w.heap.size, 0, none⟩) 2 2] (w.alloc (.cells #[.int .u64 (x : Int), .int .u64 (y : Int)] 25)) fun e w' => e = .returned (.int .u64 (lid (sumL [x, y]) : Int)) ∧ But [] w w' := by
  refine (sum_any _ [x, y] _ (row2 w x y) (in64 (by simp [hx, hy])) (by simp)).mono ?_
  rintro e w' ⟨rfl, rfl⟩
  exact ⟨rfl, (But.refl _ _).alloc _⟩
theorem sum3 (x y z : Nat) (w : World) (hx : x ≤ 4611686018427387904) (hy : y ≤ 4611686018427387904) (hz : z ≤ 4611686018427387904) :
    Calls Try.prog 22 #[.slice (some ⟨w.heap.size, 0, none⟩) 3 3] (w.alloc (.cells #[.int .u64 (x : Int), .int .u64 (y : Int), .int .u64 (z : Int)] 25)) fun e w' => e = .returned (.int .u64 (lid (sumL [x, y, z]) : Int)) ∧ But [] w w' := by
  refine (sum_any _ [x, y, z] _ (row3 w x y z) (in64 (by simp [hx, hy, hz])) (by simp)).mono ?_
  rintro e w' ⟨rfl, rfl⟩
  exact ⟨rfl, (But.refl _ _).alloc _⟩
theorem prod2 (x y : Nat) (w : World) (hx : x ≤ 4611686018427387904) (hy : y ≤ 4611686018427387904) :
    Calls Try.prog 23 #[.slice (some ⟨w.heap.size, 0, none⟩) 2 2] (w.alloc (.cells #[.int .u64 (x : Int), .int .u64 (y : Int)] 25)) fun e w' => e = .returned (.int .u64 (lid (mulL [x, y]) : Int)) ∧ But [] w w' := by
  refine (product_any _ [x, y] _ (row2 w x y) (in64 (by simp [hx, hy])) (by simp)).mono ?_
  rintro e w' ⟨rfl, rfl⟩
  exact ⟨rfl, (But.refl _ _).alloc _⟩
theorem prod3 (x y z : Nat) (w : World) (hx : x ≤ 4611686018427387904) (hy : y ≤ 4611686018427387904) (hz : z ≤ 4611686018427387904) :
    Calls Try.prog 23 #[.slice (some ⟨w.heap.size, 0, none⟩) 3 3] (w.alloc (.cells #[.int .u64 (x : Int), .int .u64 (y : Int), .int .u64 (z : Int)] 25)) fun e w' => e = .returned (.int .u64 (lid (mulL [x, y, z]) : Int)) ∧ But [] w w' := by
  refine (product_any _ [x, y, z] _ (row3 w x y z) (in64 (by simp [hx, hy, hz])) (by simp)).mono ?_
  rintro e w' ⟨rfl, rfl⟩
  exact ⟨rfl, (But.refl _ _).alloc _⟩
theorem add_any (a b : Nat) (w : World) (ha : a ≤ 4611686018427387904) (hb : b ≤ 4611686018427387904) :
    Calls Try.prog 29 #[.int .u64 (a : Int), .int .u64 (b : Int)] w fun e w' => e = .returned (.int .u64 (lid (a + b) : Int)) ∧ w' = w := by
  have ew : IntKind.u64.wrap ((a : Int) + (b : Int)) = ((a + b : Nat) : Int) := by rw [IntKind.wrap_u64]; omega
  obtain ⟨c, hc⟩ : ∃ c, c = a + b := ⟨_, rfl⟩
  rw [← hc] at ew
  have HC := Lib.hid hc
  clear hc
  by_cases h : 4611686018427387904 < c
  · have t : decide ((4611686018427387904 : Int) < (c : Int)) = true := decide_eq_true (by omega)
    go_enter Try.func29, Try.ntmps29
    go_wp2_with fail
    go_ret
    exact ⟨ret_u64 (by rw [← HC.out, lid_of_ge (by omega)]; rfl), rfl⟩
  · have t : decide ((4611686018427387904 : Int) < (c : Int)) = false := decide_eq_false (by omega)
    go_enter Try.func29, Try.ntmps29
    go_wp2_with fail
    go_ret
    exact ⟨ret_u64 (by rw [← HC.out, lid_of_le (by omega)]), rfl⟩
theorem wrap_nat {n : Nat} (h : n < 18446744073709551616) : IntKind.u64.wrap (n : Int) = (n : Int) := by rw [IntKind.wrap_u64]; omega
theorem mul_over {a b : Nat} (ha : 0 < a) : 4611686018427387904 / a < b ↔ 4611686018427387904 < a * b := by
  rw [Nat.div_lt_iff_lt_mul ha, Nat.mul_comm]
theorem mul_any (a b : Nat) (w : World) (ha : a < 18446744073709551616) :
    Calls Try.prog 30 #[.int .u64 (a : Int), .int .u64 (b : Int)] w fun e w' => e = .returned (.int .u64 (lid (a * b) : Int)) ∧ w' = w := by
  rcases Nat.eq_zero_or_pos a with rfl | h0
  · go_enter Try.func30, Try.ntmps30
    go_wp2_with fail
    go_ret
    exact ⟨ret_u64 (by simp [lid]), rfl⟩
  have hz : ((a : Int) == 0) = false := by simp; omega
  have hm := mul_over (b := b) h0
  have hdl : 4611686018427387904 / a ≤ 4611686018427387904 := Nat.div_le_self _ _
  have ed : IntKind.u64.wrap (Int.tdiv 4611686018427387904 (a : Int)) = ((4611686018427387904 / a : Nat) : Int) := by
    rw [show (4611686018427387904 : Int) = ((4611686018427387904 : Nat) : Int) from rfl, ← Int.ofNat_tdiv, wrap_nat (Nat.lt_of_le_of_lt hdl (by omega))]
  by_cases h : 4611686018427387904 / a < b
  · have HE := Lib.hid (lid_of_ge (Nat.le_of_lt (hm.1 h)))
    generalize 4611686018427387904 / a = d at ed h
    clear hm hdl
    have t : decide ((d : Int) < (b : Int)) = true := decide_eq_true (by omega)
    go_enter Try.func30, Try.ntmps30
    go_wp2_with fail
    go_ret
    exact ⟨ret_u64 (by rw [HE.out]; rfl), rfl⟩
  · have hle : a * b ≤ 4611686018427387904 := Nat.le_of_not_lt fun e => h (hm.2 e)
    have ew : IntKind.u64.wrap ((a : Int) * (b : Int)) = ((a * b : Nat) : Int) := by rw [← Int.natCast_mul, wrap_nat (Nat.lt_of_le_of_lt hle (by omega))]
    have HE := Lib.hid (lid_of_le hle)
    generalize a * b = c at ew HE
    generalize 4611686018427387904 / a = d at ed h
    clear hm hdl hle
    have t : decide ((d : Int) < (b : Int)) = false := decide_eq_false (by omega)
    go_enter Try.func30, Try.ntmps30
    go_wp2_with fail
    go_ret
    exact ⟨ret_u64 (by rw [HE.out]), rfl⟩
end Go.Proofs.Ytfbcaicfppommaa
