/-
  The walks of what the document's answer is made of: what a kind names, an instruction that is bare.
-/
import Derived.Test.YtakgcienodigpaaGreatGInsCheck
namespace Go.Proofs.YtakgcienodigpaaGreat
open Go.RowKit

def nA : Nat → Bool
  | 1 | 2 | 4 | 5 | 6 => true
  | _ => false
def nB : Nat → Bool
  | 2 | 6 | 8 => true
  | _ => false
def nC : Nat → Bool
  | 5 | 6 | 7 => true
  | _ => false
def nK : Nat → Bool
  | 1 | 3 | 4 | 8 | 9 => true
  | _ => false
theorem cases9 (o : Nat) : (o = 1 ∨ o = 2 ∨ o = 3 ∨ o = 4 ∨ o = 5 ∨ o = 6 ∨ o = 7 ∨ o = 8 ∨ o = 9) ∨ (nA o = false ∧ nB o = false ∧ nC o = false ∧ nK o = false ∧ ((o : Int) == 1) = false ∧ ((o : Int) == 2) = false ∧ ((o : Int) == 3) = false ∧
    ((o : Int) == 4) = false ∧ ((o : Int) == 5) = false ∧ ((o : Int) == 6) = false ∧ ((o : Int) == 7) = false ∧ ((o : Int) == 8) = false ∧ ((o : Int) == 9) = false) := by
  by_cases h : o = 1 ∨ o = 2 ∨ o = 3 ∨ o = 4 ∨ o = 5 ∨ o = 6 ∨ o = 7 ∨ o = 8 ∨ o = 9
  · exact .inl h
  · refine .inr ⟨?_, ?_, ?_, ?_, ?_, ?_, ?_, ?_, ?_, ?_, ?_, ?_, ?_⟩
    · unfold nA; split <;> first | rfl | omega
    · unfold nB; split <;> first | rfl | omega
    · unfold nC; split <;> first | rfl | omega
    · unfold nK; split <;> first | rfl | omega
    all_goals (rw [beq_eq_false_iff_ne]; omega)

theorem refReg_any (v : Int) (w : World) :
    Calls Tryz.prog 101 #[.int .i64 v] w fun e w' => e = .returned (.bool (belowB v 8)) ∧ w' = w := by
  go_enter Tryz.func101, Tryz.ntmps101
  by_cases h0 : 0 ≤ v
  · have HE : Hid (decide (v < 8) = belowB v 8) := Lib.hid (by simp [belowB, h0])
    go_wp2_with fail
    go_ret
    exact ⟨ret_v (by rw [← HE.out]; rfl), rfl⟩
  · have HE : Hid (belowB v 8 = false) := Lib.hid (by simp [belowB, h0])
    have h1 : v < 0 := by omega
    go_wp2_with fail
    go_ret
    exact ⟨ret_v (by rw [HE.out]; rfl), rfl⟩
theorem refBelow_any (v n : Int) (w : World) :
    Calls Tryz.prog 102 #[.int .i64 v, .int .i64 n] w fun e w' => e = .returned (.bool (belowB v n)) ∧ w' = w := by
  go_enter Tryz.func102, Tryz.ntmps102
  by_cases h0 : 0 ≤ v
  · have HE : Hid (decide (v < n) = belowB v n) := Lib.hid (by simp [belowB, h0])
    go_wp2_with fail
    go_ret
    exact ⟨ret_v (by rw [← HE.out]; rfl), rfl⟩
  · have HE : Hid (belowB v n = false) := Lib.hid (by simp [belowB, h0])
    have h1 : v < 0 := by omega
    go_wp2_with fail
    go_ret
    exact ⟨ret_v (by rw [HE.out]; rfl), rfl⟩
set_option maxHeartbeats 800000 in
theorem of_any (o : Nat) (w : World) :
    Calls Tryz.prog 53 #[.int .u8 (o : Int)] w fun e w' => e = .returned (.agg #[.bool (nA o), .bool (nB o), .bool (nC o), .bool (nK o)]) ∧ But [] w w' := by
  have hb : ∀ o, But [] w (w.alloc o) := fun o => (But.refl [] w).alloc o
  go_enter Tryz.func53, Tryz.ntmps53
  rcases cases9 o with h | ⟨ha, hb', hc, hk, e1, e2, e3, e4, e5, e6, e7, e8, e9⟩
  · rcases h with rfl | rfl | rfl | rfl | rfl | rfl | rfl | rfl | rfl
    all_goals go_wp2_with fail
    all_goals exact bodyPost_ret (by simp [results, Tryz.f53, go_sem] <;> exact ⟨rfl, rfl, rfl, rfl⟩) rfl ⟨rfl, hb _⟩
  · rw [ha, hb', hc, hk]
    go_wp2_with fail
    exact bodyPost_ret (by simp [results, Tryz.f53, go_sem]) rfl ⟨rfl, hb _⟩

def bareR (x : In) : Bool := ((((decide (1 ≤ x.o) && decide (x.o ≤ 10)) && (nA x.o || x.a == 0)) && (nB x.o || x.b == 0)) && (nC x.o || x.c == 0)) && (nK x.o || x.k == 0)
theorem bareR_eq (x : In) : bareR x = okI x := by
  obtain ⟨o, a, b, c, k⟩ := x
  have sw : ∀ z : Int, ((0 : Int) == z) = (z == 0) := fun z => by rw [Bool.eq_iff_iff]; simp; omega
  cases hk : known o with
  | false =>
    have h1 : okI ⟨o, a, b, c, k⟩ = false := by unfold okI; simp only; rw [hk]; rfl
    have h2 : (decide (1 ≤ o) && decide (o ≤ 10)) = false := by
      unfold known at hk
      rw [decide_eq_false_iff_not] at hk
      rw [Bool.and_eq_false_iff]
      by_cases h : 1 ≤ o
      · exact .inr (by simp; omega)
      · exact .inl (by simp; omega)
    rw [h1]
    unfold bareR
    simp only
    rw [h2]; rfl
  | true =>
    rcases known_cases hk with rfl | rfl | rfl | rfl | rfl | rfl | rfl | rfl | rfl | rfl
    all_goals simp [bareR, okI, known, bareOf, pairs, namesOf, bareStep, In.put, In.get, In.only, In.eq, nA, nB, nC, nK, sw, Bool.and_assoc]
theorem three3 (p : Bool) (a : Int) : p = true ∨ (p = false ∧ (a == 0) = true) ∨ (p = false ∧ (a == 0) = false) := by
  cases p
  · cases (a == 0) <;> simp
  · exact .inl rfl
/-- Block B is what a kind names. -/
def NeAt (W : World) (B : Nat) (p q r t : Bool) : Prop := W.heap[B]? = some (.cells #[.bool p, .bool q, .bool r, .bool t] 104 (0, 0))
section
variable {W W' : World} {B : Nat} {p q r t : Bool}
theorem NeAt.lt (h : NeAt W B p q r t) : B < W.heap.size := (Array.getElem?_eq_some_iff.1 h).1
theorem NeAt.c0 (h : NeAt W B p q r t) : W.cell? ⟨B, 0, none⟩ = some (.bool p) := by simp [World.cell?, show W.heap[B]? = _ from h]
theorem NeAt.c1 (h : NeAt W B p q r t) : W.cell? ⟨B, 1, none⟩ = some (.bool q) := by simp [World.cell?, show W.heap[B]? = _ from h]
theorem NeAt.c2 (h : NeAt W B p q r t) : W.cell? ⟨B, 2, none⟩ = some (.bool r) := by simp [World.cell?, show W.heap[B]? = _ from h]
theorem NeAt.c3 (h : NeAt W B p q r t) : W.cell? ⟨B, 3, none⟩ = some (.bool t) := by simp [World.cell?, show W.heap[B]? = _ from h]
theorem neAt_new (W : World) (p q r t : Bool) : NeAt (W.alloc (.cells #[.bool p, .bool q, .bool r, .bool t] 104)) W.heap.size p q r t := World.alloc_heap_new W _
theorem NeAt.of_block (h : NeAt W B p q r t) (hb : W'.heap[B]? = W.heap[B]?) : NeAt W' B p q r t := hb.trans h
end

set_option maxHeartbeats 1600000 in
theorem bare_any (x : In) (w : World) :
    Calls Tryz.prog 100 #[x.val] w fun e w' => e = .returned (.bool (okI x)) ∧ But [] w w' := by
  rw [← bareR_eq]
  obtain ⟨W0, hW0⟩ : ∃ W0, W0 = w.alloc (.cells #[.int .u8 (x.o : Int), .int .i64 x.a, .int .i64 x.b, .int .i64 x.c, .int .i64 x.k] 42) := ⟨_, rfl⟩
  have hb0 : But [] w W0 := by rw [hW0]; exact (But.refl [] w).alloc _
  have hbox : InAt W0 w.heap.size x := by rw [hW0]; exact inAt_new w x
  have hof := of_any x.o W0
  have x0 := hbox.c0
  unfold In.val
  rw [hW0] at x0 hof
  go_enter Tryz.func100, Tryz.ntmps100
  go_wp2_with fail
  refine hof.mono ?_
  rw [← hW0]
  rintro e wk ⟨rfl, hk⟩
  have HE : Hid (bareR x = (((((decide (1 ≤ x.o) && decide (x.o ≤ 10)) && (nA x.o || x.a == 0)) && (nB x.o || x.b == 0)) && (nC x.o || x.c == 0)) && (nK x.o || x.k == 0))) := Lib.hid rfl
  generalize nA x.o = p at HE
  generalize nB x.o = q at HE
  generalize nC x.o = r at HE
  generalize nK x.o = t at HE
  obtain ⟨W1, hW1⟩ : ∃ W1, W1 = wk.alloc (.cells #[.bool p, .bool q, .bool r, .bool t] 104) := ⟨_, rfl⟩
  have hb1 : But [] wk W1 := by rw [hW1]; exact (But.refl [] wk).alloc _
  have hx1 := hbox.of_block ((hk.next hb1).block _ hbox.lt (by simp))
  have hne : NeAt W1 wk.heap.size p q r t := by rw [hW1]; exact neAt_new wk p q r t
  have hB : But [] w W1 := hb0.next (hk.next hb1)
  have n0 := hne.c0
  have n1 := hne.c1
  have n2 := hne.c2
  have n3 := hne.c3
  have y0 := hx1.c0
  have y1 := hx1.c1
  have y2 := hx1.c2
  have y3 := hx1.c3
  have y4 := hx1.c4
  clear hof hk hb0 hb1 hx1 hne hbox x0 hW0
  generalize x.a = a at *
  generalize x.b = b at *
  generalize x.c = c at *
  generalize x.k = k at *
  rw [hW1] at n0 n1 n2 n3 y0 y1 y2 y3 y4
  by_cases h1 : 1 ≤ x.o
  all_goals generalize x.o = o at *
  rotate_left 1
  · have h2 : (o : Int) < 1 := by omega
    rw [decide_eq_false h1] at HE
    clear h1
    go_wp2_with fail
    go_ret
    exact ⟨ret_v (by rw [HE.out]; rfl), by rw [← hW1]; exact hB⟩
  have h2 : (1 : Int) ≤ (o : Int) := by omega
  rw [decide_eq_true h1] at HE
  by_cases h10 : o ≤ 10
  rotate_left 1
  · have h3 : (10 : Int) < (o : Int) := by omega
    rw [decide_eq_false h10] at HE
    clear h1 h10
    go_wp2_with fail
    go_ret
    exact ⟨ret_v (by rw [HE.out]; rfl), by rw [← hW1]; exact hB⟩
  have h3 : (o : Int) ≤ 10 := by omega
  rw [decide_eq_true h10] at HE
  clear h1 h10
  rcases three3 p a with rfl | ⟨rfl, za⟩ | ⟨rfl, za⟩
  rotate_left 2
  · rw [za] at HE
    go_wp2_with fail
    go_ret
    exact ⟨ret_v (by rw [HE.out]; rfl), by rw [← hW1]; exact hB⟩
  all_goals first | rw [za] at HE | skip
  all_goals (rcases three3 q b with rfl | ⟨rfl, zb⟩ | ⟨rfl, zb⟩; rotate_left 2; (focus (rw [zb] at HE; go_wp2_with fail; go_ret; exact ⟨ret_v (by rw [HE.out]; rfl), by rw [← hW1]; exact hB⟩)))
  all_goals first | rw [zb] at HE | skip
  all_goals (rcases three3 r c with rfl | ⟨rfl, zc⟩ | ⟨rfl, zc⟩; rotate_left 2; (focus (rw [zc] at HE; go_wp2_with fail; go_ret; exact ⟨ret_v (by rw [HE.out]; rfl), by rw [← hW1]; exact hB⟩)))
  all_goals first | rw [zc] at HE | skip
  all_goals (rcases three3 t k with rfl | ⟨rfl, zk⟩ | ⟨rfl, zk⟩)
  all_goals first | rw [zk] at HE | skip
  all_goals go_wp2_with fail
  all_goals go_ret
  all_goals exact ⟨ret_v (by rw [HE.out]; rfl), by rw [← hW1]; exact hB⟩
end Go.Proofs.YtakgcienodigpaaGreat
