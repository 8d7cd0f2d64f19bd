/-
  The walk of bound.locks.
-/
import Derived.Laws.Rows
import Derived.Laws.Tables
import Derived.Test.YtfbcaicfppommaaBHold
namespace Go.Proofs.Ytfbcaicfppommaa
open Go.RowKit

/-! ### Blocks -/
def Blk (W : World) (B : Nat) (t : TypeId) (cs : Array Value) : Prop := W.heap[B]? = some (.cells cs t (0, 0))
section
variable {W W' : World} {B : Nat} {t : TypeId} {cs : Array Value}
theorem Blk.lt (h : Blk W B t cs) : B < W.heap.size := (Array.getElem?_eq_some_iff.1 h).1
theorem Blk.cell (h : Blk W B t cs) {k : Nat} {v : Value} (hv : cs[k]? = some v) : W.cell? ⟨B, k, none⟩ = some v := by
  simp [World.cell?, show W.heap[B]? = _ from h, hv]
theorem Blk.but (h : Blk W B t cs) {S : List Nat} (hb : But S W W') (hn : B ∉ S) : Blk W' B t cs := (hb.block B h.lt hn).trans h
theorem Blk.next (h : Blk W B t cs) (hb : But [] W W') : Blk W' B t cs := h.but hb (by simp)
theorem Blk.frozen (h : Blk W B t cs) (k : Nat) : W.frozen? ⟨B, k, none⟩ = false := by simp [World.frozen?, show W.heap[B]? = _ from h]
theorem Blk.set (h : Blk W B t cs) (k : Nat) (v : Value) : Blk (W.setCell ⟨B, k, none⟩ v) B t (cs.setIfInBounds k v) := heap_set_same v h
theorem blk_new (W : World) (t : TypeId) (cs : Array Value) : Blk (W.alloc (.cells cs t)) W.heap.size t cs := World.alloc_heap_new W _
end
/-- What is stored whole: the block has it; all others stay. -/
theorem setRow_put {w : World} {g : Nat} {t : TypeId} {old cs : Array Value} (hg : Blk w g t old) : Blk (w.setRow g cs) g t cs ∧ But [g] w (w.setRow g cs) := by
  refine ⟨setRow_heap w g old cs t (0, 0) hg, ⟨rfl, rfl, rfl, by simp [World.setRow], fun k hk hn => ?_⟩⟩
  have hne : g ≠ k := fun e => hn (by simp [e])
  simp only [World.setRow, Array.getElem?_modify, if_neg hne]
theorem wpList_put {P : Program} {ops : Array Oper} {rest : List Oper} {o : Oper} {a : Act} {w : World} {Q : Exit → Act → World → Prop} (hgd : o.guard = none) (ty : TypeId) (x y : Operand) (ho : o.op = .store ty x y)
    (g : Nat) (cs : Array Value) (hx : a.eval x = .pointer (some ⟨g, 0, none⟩)) (hy : a.eval y = .agg cs) {t : TypeId} {old : Array Value} (hg : Blk w g t old) (hi : (P.info? ty).map (·.size) = some cs.size)
    (hold : old.size = cs.size) (h1 : cs.all (·.oneCell') = true)
    (h : ∀ W', Blk W' g t cs → But [g] w W' → wpList P ops Q rest (a.put o.dst undef) W') : wpList P ops Q (o :: rest) a w :=
  wpList_store_row hgd ty x y ho g cs hx hy t old hg hi hold h1 (h _ (setRow_put hg).1 (setRow_put hg).2)
/-- Two results: an array in a variable, and a value. -/
theorem results_cell_row2 {P : Program} {fn : Func} {p q : Tmp} {ty : TypeId} (h : fn.results = #[.cell p ty, .tmp q]) (tmps : Array Value) (w : World) (g : Nat) (t : TypeId) (cs : Array Value) (d : TypeDesc) (v : Value)
    (hp : tmps.getD p undef = .pointer (some ⟨g, 0, none⟩)) (hq : tmps.getD q undef = v) (hg : Blk w g t cs)
    (hu : P.underlying ty = some d) (hd : (match d with | .struct _ | .array _ _ => true | _ => false) = true) (hi : (P.info? ty).map (·.size) = some cs.size) :
    (results fn tmps).run P w = .ok (.tuple #[.agg cs, v]) w := by
  have hp' : tmps[p]?.getD undef = .pointer (some ⟨g, 0, none⟩) := by simpa using hp
  have hq' : tmps[q]?.getD undef = v := by simpa using hq
  simp [results, h, hp', hq', asAddr, run_loadVar_row w g t ty cs (0, 0) d hg hu hd hi]
theorem szArr : (Try.prog.info? 41).map (·.size) = some 6 := by kernel_rfl

/-! ### Six numbers -/
def arrA (f : Nat → Nat) : Array Value := #[.int .u64 (f 0 : Int), .int .u64 (f 1 : Int), .int .u64 (f 2 : Int), .int .u64 (f 3 : Int), .int .u64 (f 4 : Int), .int .u64 (f 5 : Int)]
theorem arrA_set (f : Nat → Nat) {j : Nat} (hj : j < 6) (x : Nat) : (arrA f).setIfInBounds j (.int .u64 (x : Int)) = arrA (fun i => if i = j then x else f i) := by
  rcases (by omega : j = 0 ∨ j = 1 ∨ j = 2 ∨ j = 3 ∨ j = 4 ∨ j = 5) with rfl | rfl | rfl | rfl | rfl | rfl <;> simp [arrA]
theorem arrA_at (f : Nat → Nat) {j : Nat} (hj : j < 6) : (arrA f)[j]? = some (.int .u64 (f j : Int)) := by
  rcases (by omega : j = 0 ∨ j = 1 ∨ j = 2 ∨ j = 3 ∨ j = 4 ∨ j = 5) with rfl | rfl | rfl | rfl | rfl | rfl <;> rfl
/-- L of each channel, when k are done. -/
def lockF (p h c k i : Nat) : Nat := if c ≤ k + i ∧ i < c then lid (lkN p h (c - 1 - i)) else 0
theorem lockF_none (p h c : Nat) : lockF p h c 0 = fun _ => 0 := by
  funext i; unfold lockF; rw [if_neg (by omega)]
theorem lockF_next {p h c k j : Nat} (hj : j + k + 1 = c) : (fun i => if i = j then lid (lkN p h k) else lockF p h c k i) = lockF p h c (k + 1) := by
  funext i
  unfold lockF
  by_cases e : i = j
  · subst e; rw [if_pos rfl, if_pos (by omega), show c - 1 - i = k by omega]
  · rw [if_neg e]
    by_cases h1 : c ≤ k + i ∧ i < c
    · rw [if_pos h1, if_pos (by omega)]
    · rw [if_neg h1, if_neg (by omega)]

theorem lk_eq (p h k : Nat) : lid (mulL [p, lid (sumL [h, lid (beh p h k)])]) = lid (lkN p h k) := by
  simp only [sumL, mulL, Nat.mul_one, Nat.add_zero]
  rw [lid_mul', ← lid_mul', lid_add', lid_mul']; rfl
theorem beh_eq (p h k : Nat) : lid (sumL [lid (beh p h k), lid (lkN p h k), 2]) = lid (beh p h (k + 1)) := by
  simp only [sumL, Nat.add_zero]
  rw [lid_add, ← Nat.add_assoc, Nat.add_right_comm, lid_add', beh_succ, Nat.add_right_comm]

theorem size_set (w : World) (p : Addr) (v : Value) : (w.setCell p v).heap.size = w.heap.size := by simp [World.setCell]
/-- A new array of six. -/
def arrO : Obj := .cells #[.int .u64 0, .int .u64 0, .int .u64 0, .int .u64 0, .int .u64 0, .int .u64 0] 41
theorem arr_new (W : World) : Blk (W.alloc arrO) W.heap.size 41 (arrA (fun _ => 0)) := World.alloc_heap_new W _

set_option maxHeartbeats 1600000 in
theorem locks_any {w p t c n q : Nat} (h : Sm w p t c n q) (W : World) :
    Calls Try.prog 21 #[(szN w p t c n q).val] W fun e W' => e = .returned (.tuple #[.agg (arrA (lockF p (hN t n) c c)), .int .u64 (lid (beh p (hN t n) c) : Int)]) ∧ But [] W W' := by
  have hZ := szAt_new W (szN w p t c n q)
  have hB : But [] W (W.alloc (szO (szN w p t c n q))) := (But.refl _ _).alloc _
  have hA := arr_new (W.alloc (szO (szN w p t c n q)))
  have hZ := hZ.next ((But.refl _ _).alloc arrO)
  have hB := hB.alloc arrO
  rw [World.size_alloc] at hA
  have hH := fun W => hold_any h W
  have ep : IntKind.u64.wrap (p : Int) = (p : Int) := wrap_nat (by have := h.p2; omega)
  have hp := h.p2
  have hc := h.c2
  have hhN := hN_le h.t2 h.n2
  unfold szO arrO at hZ hB hA
  unfold Sz.val at hH ⊢
  simp only [szN] at hZ hB hA hH ⊢
  generalize hN t n = hh at hH hhN ⊢
  clear h
  go_enter Try.func21, Try.ntmps21
  go_wp2_with fail
  generalize (W.alloc (.cells #[.int .i64 (w : Int), .int .i64 (p : Int), .int .i64 (t : Int), .int .i64 (c : Int), .int .i64 (n : Int), .int .i64 (q : Int)] 23)).alloc (.cells #[.int .u64 0, .int .u64 0, .int .u64 0, .int .u64 0, .int .u64 0, .int .u64 0] 41) = w0 at hZ hB hA ⊢
  obtain ⟨B, hBB⟩ : ∃ B, B = W.heap.size := ⟨_, rfl⟩
  rw [← hBB] at hZ hA ⊢
  obtain ⟨A, hAA⟩ : ∃ A, A = B + 1 := ⟨_, rfl⟩
  rw [← hAA] at hA ⊢
  have HA : Hid (W.heap.size ≤ A) := Lib.hid (by omega)
  clear hBB hAA
  have cW : w0.cell? ⟨B, 0, none⟩ = some (.int .i64 (w : Int)) := hZ.cW
  have cP : w0.cell? ⟨B, 1, none⟩ = some (.int .i64 (p : Int)) := hZ.cP
  have cT : w0.cell? ⟨B, 2, none⟩ = some (.int .i64 (t : Int)) := hZ.cT
  have cC : w0.cell? ⟨B, 3, none⟩ = some (.int .i64 (c : Int)) := hZ.cC
  have cN : w0.cell? ⟨B, 4, none⟩ = some (.int .i64 (n : Int)) := hZ.cN
  have cQ : w0.cell? ⟨B, 5, none⟩ = some (.int .i64 (q : Int)) := hZ.cQ
  have h00 := But.refl [] w0
  go_region_held3 (fun w' => w'.cell? ⟨B, 0, none⟩ = some (.int .i64 (w : Int)) ∧ w'.cell? ⟨B, 1, none⟩ = some (.int .i64 (p : Int)) ∧ w'.cell? ⟨B, 2, none⟩ = some (.int .i64 (t : Int)) ∧ w'.cell? ⟨B, 3, none⟩ = some (.int .i64 (c : Int)) ∧ w'.cell? ⟨B, 4, none⟩ = some (.int .i64 (n : Int)) ∧ w'.cell? ⟨B, 5, none⟩ = some (.int .i64 (q : Int)) ∧ But [] w0 w')
    (refine ⟨?_, ?_, ?_, ?_, ?_, ?_, ?_⟩ <;> first | assumption | exact h00.drew | (exact But.next (by assumption) hb1) | (exact But.next h00.drew hb1) | (exact hb1.cell cW (by simp)) | (exact hb1.cell cP (by simp)) | (exact hb1.cell cT (by simp)) | (exact hb1.cell cC (by simp)) | (exact hb1.cell cN (by simp)) | (exact hb1.cell cQ (by simp)))
    ((go_at_call 24; refine (hH _).mono ?_; rintro e w1 ⟨rfl, hb1⟩))
  have hb2 := h00.drew.next hb1
  have hZ := hZ.next hb2
  have hA := hA.next hb2
  have hB := hB.next hb2
  clear hb1 hb2 h00 cW cP cT cC cN cQ hH
  have cC : w1.cell? ⟨B, 3, none⟩ = some (.int .i64 (c : Int)) := hZ.cC
  rw [← lockF_none p hh c] at hA
  clear hZ
  go_wp2_with fail
  go_loopw [3, 6] (fun av iv wr => ∃ k : Nat, k ≤ c ∧ av = .int .u64 (lid (beh p hh k) : Int) ∧ iv = .int .i64 ((c : Int) - 1 - (k : Int)) ∧ Blk wr A 41 (arrA (lockF p hh c k)) ∧ But [] W wr) (fun _ iv _ => (intOf iv + 1).toNat)
  case atStart => exact ⟨0, Nat.zero_le _, rfl, by go_num, hA, hB⟩
  case round =>
    clear hA hB
    obtain ⟨k, hk, rfl, rfl, hA, hB⟩ := hrel
    by_cases hlt : k < c
    · obtain ⟨j, hj⟩ : ∃ j : Nat, j + k + 1 = c := ⟨c - k - 1, by omega⟩
      have ej : (c : Int) - 1 - (k : Int) = (j : Int) := by omega
      rw [ej]
      have HJ := Lib.hid hj
      have hj6 : j < 6 := by omega
      have hj6' : (j : Int) < 6 := by omega
      have j0 : (0 : Int) ≤ (j : Int) := by omega
      have HL := Lib.hid (lk_eq p hh k)
      have HE := Lib.hid (beh_eq p hh k)
      have HF := Lib.hid (lockF_next (p := p) (h := hh) hj)
      obtain ⟨a, ha⟩ : ∃ a, a = lid (beh p hh k) := ⟨_, rfl⟩
      have hale : a ≤ 4611686018427387904 := ha ▸ lid_le _
      rw [← ha] at HL HE ⊢
      clear ha ej hj
      have HC := Lib.hid hlt
      clear hlt
      go_wp2_with fail
      refine (sum2 hh a wr (by omega) hale).mono ?_
      rintro e w2 ⟨rfl, hb2⟩
      have hA := hA.next hb2
      have hB := hB.next hb2
      clear hb2
      obtain ⟨b, hb⟩ : ∃ b, b = lid (sumL [hh, a]) := ⟨_, rfl⟩
      have hble : b ≤ 4611686018427387904 := hb ▸ lid_le _
      rw [← hb] at HL ⊢
      clear hb
      go_wp2_with fail
      have hP := prod2 p b w2 (by omega) hble
      obtain ⟨l, hl⟩ : ∃ l, l = lid (mulL [p, b]) := ⟨_, rfl⟩
      have hlle : l ≤ 4611686018427387904 := hl ▸ lid_le _
      rw [← hl] at HL hP
      clear hl
      rw [← HL.out] at HE HF
      refine hP.mono ?_
      rintro e w3 ⟨rfl, hb3⟩
      have hA := hA.next hb3
      have hB := hB.next hb3
      have hfz := hA.frozen j
      have hcj := hA.cell (arrA_at (lockF p hh c k) hj6)
      have hA2 := hA.set j (.int .u64 (l : Int))
      rw [arrA_set _ hj6, HF.out] at hA2
      have hc2 := hA2.cell (arrA_at (lockF p hh c (k + 1)) hj6)
      rw [← HF.out] at hc2
      simp only [if_true] at hc2
      have hB2 : But [] W (w3.setCell ⟨A, j, none⟩ (.int .u64 (l : Int))) := hB.set (.inr (by have := HA.out; simpa using this)) _
      have HA2 := Lib.hid hA2
      have HB2 := Lib.hid hB2
      clear hA hA2 hB hB2 hP hb3 HL HF
      go_wp2_with fail
      have hS := sum3 a l 2 (w3.setCell ⟨A, j, none⟩ (.int .u64 (l : Int))) hale hlle (by omega)
      rw [size_set] at hS
      refine hS.mono ?_
      rintro e w4 ⟨rfl, hb4⟩
      have hA2 := HA2.out.next hb4
      have hB2 := HB2.out.next hb4
      clear hS hb4 HA2 HB2 hc2 hcj hfz
      go_wp2_with fail
      go_roundw
      case rel =>
        have hj := HJ.out
        exact ⟨k + 1, by have := HC.out; omega, by rw [HE.out], by first | (go_num; done) | (simp; omega) | (congr 1; omega), hA2, hB2⟩
      case measure => have := HJ.out; simp [intOf]
    · have hBr := hB
      have HAr := HA.out
      obtain rfl : k = c := by omega
      have hN : ¬ (0 : Int) ≤ (k : Int) - 1 - (k : Int) := by omega
      have hc := hA.cell (arrA_at (lockF p hh k k) (show 0 < 6 by omega))
      have hc1 := hA.cell (arrA_at (lockF p hh k k) (show 1 < 6 by omega))
      have hc2 := hA.cell (arrA_at (lockF p hh k k) (show 2 < 6 by omega))
      have hc3 := hA.cell (arrA_at (lockF p hh k k) (show 3 < 6 by omega))
      have hc4 := hA.cell (arrA_at (lockF p hh k k) (show 4 < 6 by omega))
      have hc5 := hA.cell (arrA_at (lockF p hh k k) (show 5 < 6 by omega))
      go_wp2_with (refine wpList_put rfl _ _ _ rfl A (arrA (lockF p hh k k)) rfl rfl hA szArr rfl (by simp [Value.oneCell', arrA]) ?_; intro w5 E1 E2; go_frame)
      refine bodyPost_ret (v := .tuple #[.agg (arrA (lockF p hh k k)), .int .u64 (lid (beh p hh k) : Int)]) (results_cell_row2 rfl _ _ A 41 _ _ _ rfl rfl E1 Try.underlying41 rfl szArr) rfl ?_
      exact ⟨rfl, hBr.own E2 (by simpa using HAr)⟩
end Go.Proofs.Ytfbcaicfppommaa
