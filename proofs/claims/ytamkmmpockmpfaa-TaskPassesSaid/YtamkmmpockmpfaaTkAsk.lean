/-
  The walks of task's ask (with any closure), askOrder, Len.
-/
import Derived.Test.YtamkmmpockmpfaaTkMath
namespace Go.Proofs.Ytamkmmpockmpfaa
open Go.RowKit

theorem tk_cells {W : World} {B : Nat} {st M : Nat} {f : Fra} {u : Int} {S : Value} (h : Blk W B 67 (tkA st f u S M)) :
    W.cell? ⟨B, 0, none⟩ = some (.int .u8 (st : Int)) ∧ W.cell? ⟨B, 11, none⟩ = some (.int .i64 u) ∧ W.cell? ⟨B, 12, none⟩ = some S ∧ W.cell? ⟨B, 13, none⟩ = some (.map (some M)) :=
  ⟨h.cell rfl, h.cell rfl, h.cell rfl, h.cell rfl⟩

theorem ask_nil (task : Int) (v : Value) (w : World) :
    Calls Try.prog 25 #[.pointer none, .int .i64 task, v] w fun e w' => e = .returned (.int .i64 1) ∧ w' = w := by
  go_enter Try.func25, Try.ntmps25
  go_wp2_with fail
  go_ret
  exact ⟨rfl, rfl⟩
theorem ask_out {A : Ad} {s : Tb} (task : Int) (v : Value) (w : World) (h : Tab w A s) (ht : task < 0 ∨ (s.ts.length : Int) ≤ task) :
    Calls Try.prog 25 #[.pointer (some ⟨A.T, 0, none⟩), .int .i64 task, v] w fun e w' => e = .returned (.int .i64 3) ∧ w' = w := by
  obtain ⟨ra, rc, hR⟩ := owns_slice h.row
  have c3 : w.cell? ⟨A.T, 3, none⟩ = some (.slice ra s.ts.length rc) := by rw [← hR]; exact h.blk.cell rfl
  by_cases h0 : task < 0
  · have t0 : decide (task < 0) = true := by simpa using h0
    clear h ht hR
    go_enter Try.func25, Try.ntmps25
    go_wp2_with fail
    go_ret
    exact ⟨rfl, rfl⟩
  · have t0 : decide (task < 0) = false := by simpa using h0
    have h1 : (s.ts.length : Int) ≤ task := by omega
    have t1 : decide ((s.ts.length : Int) ≤ task) = true := by simpa using h1
    clear h ht hR
    go_enter Try.func25, Try.ntmps25
    go_wp2_with fail
    go_ret
    exact ⟨rfl, rfl⟩
theorem own_ptr {W : World} {R : Value} {n : Nat} {l : List Ta} (h : W.ownsRow 0 61 1 R n (l.map ptrT)) {i : Nat} {a : Ta} (ha : l[i]? = some a) :
    ∃ g c, R = .slice (some ⟨g, 0, none⟩) n c ∧ W.cell? ⟨g, i, none⟩ = some (.pointer (some ⟨a.B, 0, none⟩)) := by
  have hl : l.length = n := by have := h.1; simpa using this
  have hi : i < n := by rw [← hl]; exact (List.getElem?_eq_some_iff.1 ha).1
  rcases id h.2 with ⟨_, hz⟩ | ⟨g, c, cur, rfl, _, hg, _⟩
  · omega
  · have := h.cells (g := g) rfl i (ptrT a) (by rw [List.getElem?_map, ha]; rfl)
    refine ⟨g, c, rfl, ?_⟩
    by_cases hj : i = 0
    · subst hj; simpa [Addr.add, ptrT] using this
    · simpa [Addr.add, hj, ptrT] using this

set_option maxHeartbeats 800000 in
/-- A task that is there is asked: the closure is called with it, and what it answers is answered. -/
theorem ask_in {A : Ad} {s : Tb} {i : Nat} {a : Ta} (K : Nat) (lb : List Value) (x : Int) (Q : World → Prop) (w : World) (h : Tab w A s) (ha : A.ks[i]? = some a)
    (he : ∀ args W, (callFunc K args).run Try.prog W = .ok (.enter K args) W)
    (hcall : Calls Try.prog K ((.pointer (some ⟨a.B, 0, none⟩) :: lb).toArray) w fun e w' => e = .returned (.int .i64 x) ∧ Q w') :
    Calls Try.prog 25 #[.pointer (some ⟨A.T, 0, none⟩), .int .i64 (i : Int), .func (.func K) #[] lb.toArray] w fun e w' => e = .returned (.int .i64 x) ∧ Q w' := by
  obtain ⟨g, c, hR, hcell⟩ := own_ptr h.row ha
  have hi : i < s.ts.length := by rw [← h.len]; exact (List.getElem?_eq_some_iff.1 ha).1
  have c3 : w.cell? ⟨A.T, 3, none⟩ = some (.slice (some ⟨g, 0, none⟩) s.ts.length c) := by rw [← hR]; exact h.blk.cell rfl
  have i0 : (0 : Int) ≤ (i : Int) := by omega
  have i1 : (i : Int) < (s.ts.length : Int) := by omega
  have t0 : decide ((i : Int) < 0) = false := by rw [decide_eq_false_iff_not]; omega
  have t1 : decide ((s.ts.length : Int) ≤ (i : Int)) = false := by rw [decide_eq_false_iff_not]; omega
  have t2 : ¬ (i : Int) < 0 := by omega
  have t3 : ¬ (s.ts.length : Int) ≤ (i : Int) := by omega
  clear h hR ha
  go_enter Try.func25, Try.ntmps25
  go_wp2_with fail
  refine hcall.mono ?_
  rintro e w2 ⟨rfl, hQ⟩
  clear hcall
  go_wp2_with fail
  go_ret
  exact ⟨rfl, hQ⟩

theorem len_any {A : Ad} {s : Tb} (w : World) (h : Tab w A s) :
    Calls Try.prog 14 #[.pointer (some ⟨A.T, 0, none⟩)] w fun e w' => e = .returned (.int .i64 (s.ts.length : Int)) ∧ w' = w := by
  obtain ⟨ra, rc, hR⟩ := owns_slice h.row
  have c3 : w.cell? ⟨A.T, 3, none⟩ = some (.slice ra s.ts.length rc) := by rw [← hR]; exact h.blk.cell rfl
  clear h hR
  go_enter Try.func14, Try.ntmps14
  go_wp2_with fail
  go_ret
  exact ⟨rfl, rfl⟩

set_option maxHeartbeats 800000 in
/-- The closure that asks an order, where the site is there. -/
theorem site_in {a : Ta} {k : Tk} {j o bs bd : Nat} (K : Nat) (lb : List Value) (x : Int) (Q : World → Prop) (w : World) (h : TkAt w a k) (ho : a.O[j]? = some o) (hj : I64b (j : Int))
    (hs : Boxed w bs 3 (.int .i64 (j : Int))) (hd : Boxed w bd 71 (.func (.func K) #[] lb.toArray))
    (he : ∀ args W, (callFunc K args).run Try.prog W = .ok (.enter K args) W)
    (hcall : ∀ m, Calls Try.prog K ((.pointer (some ⟨o, 0, none⟩) :: lb).toArray) (w.drewN m) fun e w' => e = .returned (.int .i64 x) ∧ Q w') :
    Calls Try.prog 41 #[.pointer (some ⟨a.B, 0, none⟩), .pointer (some ⟨bs, 0, none⟩), .pointer (some ⟨bd, 0, none⟩)] w fun e w' => e = .returned (.int .i64 x) ∧ Q w' := by
  obtain ⟨-, -, -, c13⟩ := tk_cells h.blk
  have cs := hs.cell
  have cd := hd.cell
  have hlk : ∀ m, (Instr.lookup 64 (.map (some a.M)) (.int .i64 (j : Int)) false).run Try.prog (w.drewN m) = .ok (.pointer (some ⟨o, 0, none⟩)) (w.drewN m) := fun m => by
    have := (h.map.of_block (W' := w.drewN m) rfl).look hj
    rwa [oAt_in ho] at this
  clear h hs hd
  go_enter Try.func41, Try.ntmps41
  go_wp2_with fail
  go_quiet (fail)
  have hc := hcall nq
  clear hcall hlk
  go_wp2_with fail
  refine hc.mono ?_
  rintro e w2 ⟨rfl, hQ⟩
  clear hc
  go_wp2_with fail
  go_ret
  exact ⟨rfl, hQ⟩
end Go.Proofs.Ytamkmmpockmpfaa
