/-
  The document's answers of layer 25: Wake, Quiet, Look.
-/
import Derived.Test.YtkpnkhakjgfgfaaPLRef
namespace Go.Proofs.Ytkpnkhakjgfgfaa
open Go.RowKit
open Lq (But I64b)

def wakeP (h : Hs) : Int × Bool × Bool := if h.c then (match h.r, h.s with | x :: _, _ => (x, false, true) | [], x :: _ => (x, true, true) | [], [] => (0, false, false)) else (0, false, false)
def quietP (h : Hs) : Bool := if 0 < h.s.length ∧ (h.b.length < h.m ∨ h.c = true ∨ 0 < h.r.length) then false else decide (h.r.length = 0 ∨ (h.b.length = 0 ∧ h.c = false))
def lookP (h : Hs) (send : Bool) : Nat × Int :=
  if send && h.c then (1, 0) else match h.q (!send) with
    | x :: _ => (2, x)
    | [] => if (if send then decide (h.b.length < h.m) else decide (0 < h.b.length)) then (3, 0) else if !send && h.c then (4, 0) else (5, 0)

theorem own_first {W : World} {v : Value} {x : Int} {t : List Int} (h : W.ownsRow 0 3 1 v (x :: t).length (Lq.I64 (x :: t))) : ∃ g c, v = .slice (some ⟨g, 0, none⟩) (t.length + 1) c ∧ W.cell? ⟨g, 0, none⟩ = some (.int .i64 x) := by
  rcases id h.2 with ⟨_, h0⟩ | ⟨g, cap, cur, rfl, _, hg, _⟩
  · simp at h0
  · have := h.cells (g := g) rfl 0 (.int .i64 x) rfl
    exact ⟨g, cap, rfl, by simpa [Addr.add] using this⟩
theorem ownsl {W : World} {v : Value} {e : TypeId} {n : Nat} {xs : List Value} (h : W.ownsRow 0 e 1 v n xs) : ∃ a c, v = .slice a n c := by
  rcases h.2 with ⟨rfl, rfl⟩ | ⟨g, cap, cur, rfl, _⟩
  · exact ⟨_, _, rfl⟩
  · exact ⟨_, _, rfl⟩
section
variable {W : World} {q : Pr} {h : Hs}
theorem list_nil {R : Nat} (H : Lq.RefL W R []) : ∃ a c, W.cell? ⟨R, 0, none⟩ = some (.slice a 0 c) := by
  obtain ⟨sv, h1, h2⟩ := H
  obtain ⟨a, c, rfl⟩ := ownsl h2
  exact ⟨a, c, by simp [World.cell?, h1]⟩
theorem list_any {R : Nat} {xs : List Int} (H : Lq.RefL W R xs) : ∃ a c, W.cell? ⟨R, 0, none⟩ = some (.slice a xs.length c) := by
  obtain ⟨sv, h1, h2⟩ := H
  obtain ⟨a, c, rfl⟩ := ownsl h2
  exact ⟨a, c, by simp [World.cell?, h1]⟩
theorem list_cons {R : Nat} {x : Int} {t : List Int} (H : Lq.RefL W R (x :: t)) : ∃ g c, W.cell? ⟨R, 0, none⟩ = some (.slice (some ⟨g, 0, none⟩) (t.length + 1) c) ∧ W.cell? ⟨g, 0, none⟩ = some (.int .i64 x) := by
  obtain ⟨sv, h1, h2⟩ := H
  obtain ⟨g, c, rfl, hc⟩ := own_first h2
  exact ⟨g, c, by simp [World.cell?, h1], hc⟩
theorem ring_cells {R m : Nat} {l : List Int} (H : Rg.RefAt W R m l) : ∃ a c, W.cell? ⟨R, 0, none⟩ = some (.int .i64 (m : Int)) ∧ W.cell? ⟨R, 1, none⟩ = some (.slice a l.length c) := by
  obtain ⟨sv, h1, h2⟩ := H
  obtain ⟨a, c, rfl⟩ := ownsl h2
  exact ⟨a, c, by simp [World.cell?, h1], by simp [World.cell?, h1]⟩
end

theorem rwake_any {q : Pr} {h : Hs} (w : World) (H : RefH w q h) :
    Calls Try.prog 8 #[ptrO q.D] w fun e w' => e = .returned (.tuple #[.int .i64 (wakeP h).1, .bool (wakeP h).2.1, .bool (wakeP h).2.2]) ∧ w' = w := by
  obtain ⟨c0, c1, c2, c3⟩ := H.cells
  obtain ⟨m, c, b, s, r⟩ := h
  have hs := H.qs
  have hr := H.qr
  simp only at c3 hs hr
  clear H
  cases c with
  | false =>
    clear hs hr
    go_enter Try.func8, Try.ntmps8
    go_wp2_with fail
    go_ret3
    exact ⟨rfl, rfl⟩
  | true =>
    cases r with
    | cons x t =>
      obtain ⟨g, c, k1, k2⟩ := list_cons hr
      have q1 : (0 : Int) < (t.length : Int) + 1 := by omega
      have q2 : (0 : Int) < ((t.length + 1 : Nat) : Int) := by omega
      clear hs hr
      go_enter Try.func8, Try.ntmps8
      go_wp2_with fail
      go_ret3
      exact ⟨rfl, rfl⟩
    | nil =>
      obtain ⟨a1, a2, k0⟩ := list_nil hr
      cases s with
      | cons x t =>
        obtain ⟨g, c, k1, k2⟩ := list_cons hs
        have q1 : (0 : Int) < (t.length : Int) + 1 := by omega
        have q2 : (0 : Int) < ((t.length + 1 : Nat) : Int) := by omega
        clear hs hr
        go_enter Try.func8, Try.ntmps8
        go_wp2_with fail
        go_ret3
        exact ⟨rfl, rfl⟩
      | nil =>
        obtain ⟨b1, b2, k1⟩ := list_nil hs
        clear hs hr
        go_enter Try.func8, Try.ntmps8
        go_wp2_with fail
        go_ret3
        exact ⟨rfl, rfl⟩
structure QF (w : World) (q : Pr) (m B S R : Nat) (c : Bool) (ba sa ta : Option Addr) (bc sc tc : Nat) : Prop where
  c0 : w.cell? ⟨q.D, 0, none⟩ = some (ptrO q.R)
  c1 : w.cell? ⟨q.D, 1, none⟩ = some (ptrO q.S)
  c2 : w.cell? ⟨q.D, 2, none⟩ = some (ptrO q.T)
  c3 : w.cell? ⟨q.D, 3, none⟩ = some (.bool c)
  r0 : w.cell? ⟨q.R, 0, none⟩ = some (.int .i64 (m : Int))
  r1 : w.cell? ⟨q.R, 1, none⟩ = some (.slice ba B bc)
  k1 : w.cell? ⟨q.S, 0, none⟩ = some (.slice sa S sc)
  k2 : w.cell? ⟨q.T, 0, none⟩ = some (.slice ta R tc)
theorem quiet_1 {q : Pr} {m B S R : Nat} {c : Bool} {ba sa ta : Option Addr} {bc sc tc : Nat} (w : World) (F : QF w q m B S R c ba sa ta bc sc tc) (gS : 0 < S) (gB : B < m) :
    Calls Try.prog 13 #[ptrO q.D] w fun e w' => e = .returned (.bool false) ∧ ∃ n, w' = w.drewN n := by
  obtain ⟨c0, c1, c2, c3, r0, r1, k1, k2⟩ := F
  have pS : (0 : Int) < (S : Int) := by omega
  have dS : decide ((0 : Int) < (S : Int)) = true := by rw [decide_eq_true_eq]; exact pS
  have nS : ¬ (S : Int) = 0 := by omega
  have bS : ((S : Int) == 0) = false := by rw [beq_eq_false_iff_ne]; exact nS
  have l1 : (B : Int) < (m : Int) := by omega
  have l2 : decide ((B : Int) < (m : Int)) = true := by rw [decide_eq_true_eq]; exact l1
  go_enter Try.func13, Try.ntmps13
  go_wp2_with fail
  go_quiet (fail)
  go_wp2_with fail
  go_ret
  exact ⟨rfl, nq, rfl⟩
theorem quiet_2 {q : Pr} {m B S R : Nat} {c : Bool} {ba sa ta : Option Addr} {bc sc tc : Nat} (w : World) (F : QF w q m B S R c ba sa ta bc sc tc) (gS : 0 < S) (gB : ¬ B < m) (gc : c = true) :
    Calls Try.prog 13 #[ptrO q.D] w fun e w' => e = .returned (.bool false) ∧ ∃ n, w' = w.drewN n := by
  obtain ⟨c0, c1, c2, c3, r0, r1, k1, k2⟩ := F
  have pS : (0 : Int) < (S : Int) := by omega
  have dS : decide ((0 : Int) < (S : Int)) = true := by rw [decide_eq_true_eq]; exact pS
  have nS : ¬ (S : Int) = 0 := by omega
  have bS : ((S : Int) == 0) = false := by rw [beq_eq_false_iff_ne]; exact nS
  have l1 : ¬ (B : Int) < (m : Int) := by omega
  have l2 : decide ((B : Int) < (m : Int)) = false := by rw [decide_eq_false_iff_not]; exact l1
  subst gc
  go_enter Try.func13, Try.ntmps13
  go_wp2_with fail
  go_quiet (fail)
  go_wp2_with fail
  go_ret
  exact ⟨rfl, nq, rfl⟩
theorem quiet_3 {q : Pr} {m B S R : Nat} {c : Bool} {ba sa ta : Option Addr} {bc sc tc : Nat} (w : World) (F : QF w q m B S R c ba sa ta bc sc tc) (gS : 0 < S) (gB : ¬ B < m) (gc : c = false) (gR : 0 < R) :
    Calls Try.prog 13 #[ptrO q.D] w fun e w' => e = .returned (.bool false) ∧ ∃ n, w' = w.drewN n := by
  obtain ⟨c0, c1, c2, c3, r0, r1, k1, k2⟩ := F
  have pS : (0 : Int) < (S : Int) := by omega
  have dS : decide ((0 : Int) < (S : Int)) = true := by rw [decide_eq_true_eq]; exact pS
  have nS : ¬ (S : Int) = 0 := by omega
  have bS : ((S : Int) == 0) = false := by rw [beq_eq_false_iff_ne]; exact nS
  have l1 : ¬ (B : Int) < (m : Int) := by omega
  have l2 : decide ((B : Int) < (m : Int)) = false := by rw [decide_eq_false_iff_not]; exact l1
  subst gc
  have pR : (0 : Int) < (R : Int) := by omega
  have dR : decide ((0 : Int) < (R : Int)) = true := by rw [decide_eq_true_eq]; exact pR
  have nR : ¬ (R : Int) = 0 := by omega
  have bR : ((R : Int) == 0) = false := by rw [beq_eq_false_iff_ne]; exact nR
  go_enter Try.func13, Try.ntmps13
  go_wp2_with fail
  go_quiet (fail)
  go_wp2_with fail
  go_ret
  exact ⟨rfl, nq, rfl⟩
theorem quiet_4 {q : Pr} {m B S R : Nat} {c : Bool} {ba sa ta : Option Addr} {bc sc tc : Nat} (w : World) (F : QF w q m B S R c ba sa ta bc sc tc) (gS : 0 < S) (gB : ¬ B < m) (gc : c = false) (zR : R = 0) :
    Calls Try.prog 13 #[ptrO q.D] w fun e w' => e = .returned (.bool true) ∧ ∃ n, w' = w.drewN n := by
  obtain ⟨c0, c1, c2, c3, r0, r1, k1, k2⟩ := F
  have pS : (0 : Int) < (S : Int) := by omega
  have dS : decide ((0 : Int) < (S : Int)) = true := by rw [decide_eq_true_eq]; exact pS
  have nS : ¬ (S : Int) = 0 := by omega
  have bS : ((S : Int) == 0) = false := by rw [beq_eq_false_iff_ne]; exact nS
  have l1 : ¬ (B : Int) < (m : Int) := by omega
  have l2 : decide ((B : Int) < (m : Int)) = false := by rw [decide_eq_false_iff_not]; exact l1
  subst gc
  subst zR
  go_enter Try.func13, Try.ntmps13
  go_wp2_with fail
  go_quiet (fail)
  go_wp2_with fail
  go_ret
  exact ⟨rfl, nq, rfl⟩
theorem quiet_5 {q : Pr} {m B S R : Nat} {c : Bool} {ba sa ta : Option Addr} {bc sc tc : Nat} (w : World) (F : QF w q m B S R c ba sa ta bc sc tc) (zS : S = 0) (zR : R = 0) :
    Calls Try.prog 13 #[ptrO q.D] w fun e w' => e = .returned (.bool true) ∧ ∃ n, w' = w.drewN n := by
  obtain ⟨c0, c1, c2, c3, r0, r1, k1, k2⟩ := F
  subst zS
  subst zR
  go_enter Try.func13, Try.ntmps13
  go_wp2_with fail
  go_quiet (fail)
  go_wp2_with fail
  go_ret
  exact ⟨rfl, nq, rfl⟩
theorem quiet_6 {q : Pr} {m B S R : Nat} {c : Bool} {ba sa ta : Option Addr} {bc sc tc : Nat} (w : World) (F : QF w q m B S R c ba sa ta bc sc tc) (zS : S = 0) (gR : 0 < R) (zB : B = 0) (gc : c = false) :
    Calls Try.prog 13 #[ptrO q.D] w fun e w' => e = .returned (.bool true) ∧ ∃ n, w' = w.drewN n := by
  obtain ⟨c0, c1, c2, c3, r0, r1, k1, k2⟩ := F
  subst zS
  have pR : (0 : Int) < (R : Int) := by omega
  have dR : decide ((0 : Int) < (R : Int)) = true := by rw [decide_eq_true_eq]; exact pR
  have nR : ¬ (R : Int) = 0 := by omega
  have bR : ((R : Int) == 0) = false := by rw [beq_eq_false_iff_ne]; exact nR
  subst zB
  subst gc
  go_enter Try.func13, Try.ntmps13
  go_wp2_with fail
  go_quiet (fail)
  go_wp2_with fail
  go_ret
  exact ⟨rfl, nq, rfl⟩
theorem quiet_7 {q : Pr} {m B S R : Nat} {c : Bool} {ba sa ta : Option Addr} {bc sc tc : Nat} (w : World) (F : QF w q m B S R c ba sa ta bc sc tc) (zS : S = 0) (gR : 0 < R) (zB : B = 0) (gc : c = true) :
    Calls Try.prog 13 #[ptrO q.D] w fun e w' => e = .returned (.bool false) ∧ ∃ n, w' = w.drewN n := by
  obtain ⟨c0, c1, c2, c3, r0, r1, k1, k2⟩ := F
  subst zS
  have pR : (0 : Int) < (R : Int) := by omega
  have dR : decide ((0 : Int) < (R : Int)) = true := by rw [decide_eq_true_eq]; exact pR
  have nR : ¬ (R : Int) = 0 := by omega
  have bR : ((R : Int) == 0) = false := by rw [beq_eq_false_iff_ne]; exact nR
  subst zB
  subst gc
  go_enter Try.func13, Try.ntmps13
  go_wp2_with fail
  go_quiet (fail)
  go_wp2_with fail
  go_ret
  exact ⟨rfl, nq, rfl⟩
theorem quiet_8 {q : Pr} {m B S R : Nat} {c : Bool} {ba sa ta : Option Addr} {bc sc tc : Nat} (w : World) (F : QF w q m B S R c ba sa ta bc sc tc) (zS : S = 0) (gR : 0 < R) (gB : 0 < B) :
    Calls Try.prog 13 #[ptrO q.D] w fun e w' => e = .returned (.bool false) ∧ ∃ n, w' = w.drewN n := by
  obtain ⟨c0, c1, c2, c3, r0, r1, k1, k2⟩ := F
  subst zS
  have pR : (0 : Int) < (R : Int) := by omega
  have dR : decide ((0 : Int) < (R : Int)) = true := by rw [decide_eq_true_eq]; exact pR
  have nR : ¬ (R : Int) = 0 := by omega
  have bR : ((R : Int) == 0) = false := by rw [beq_eq_false_iff_ne]; exact nR
  have pB : (0 : Int) < (B : Int) := by omega
  have dB : decide ((0 : Int) < (B : Int)) = true := by rw [decide_eq_true_eq]; exact pB
  have nB : ¬ (B : Int) = 0 := by omega
  have bB : ((B : Int) == 0) = false := by rw [beq_eq_false_iff_ne]; exact nB
  go_enter Try.func13, Try.ntmps13
  go_wp2_with fail
  go_quiet (fail)
  go_wp2_with fail
  go_ret
  exact ⟨rfl, nq, rfl⟩
theorem rquiet_any {q : Pr} {h : Hs} (w : World) (H : RefH w q h) :
    Calls Try.prog 13 #[ptrO q.D] w fun e w' => e = .returned (.bool (quietP h)) ∧ ∃ n, w' = w.drewN n := by
  obtain ⟨c0, c1, c2, c3⟩ := H.cells
  obtain ⟨ba, bc, r0, r1⟩ := ring_cells H.ring
  obtain ⟨sa, sc, k1⟩ := list_any H.qs
  obtain ⟨ta, tc, k2⟩ := list_any H.qr
  unfold quietP
  by_cases gS : 0 < h.s.length
  · by_cases gB : h.b.length < h.m
    · rw [if_pos ⟨gS, .inl gB⟩]; exact quiet_1 w ⟨c0, c1, c2, c3, r0, r1, k1, k2⟩ gS gB
    · cases gc : h.c with
      | true => rw [if_pos ⟨gS, .inr (.inl rfl)⟩]; rw [gc] at c3; exact quiet_2 w ⟨c0, c1, c2, c3, r0, r1, k1, k2⟩ gS gB rfl
      | false =>
        rw [gc] at c3
        by_cases gR : 0 < h.r.length
        · rw [if_pos ⟨gS, .inr (.inr gR)⟩]; exact quiet_3 w ⟨c0, c1, c2, c3, r0, r1, k1, k2⟩ gS gB rfl gR
        · rw [if_neg (by rintro ⟨_, q | q | q⟩ <;> first | exact gB q | exact gR q | cases q), decide_eq_true (by omega)]; exact quiet_4 w ⟨c0, c1, c2, c3, r0, r1, k1, k2⟩ gS gB rfl (by omega)
  · rw [if_neg (fun q => gS q.1)]
    by_cases gR : 0 < h.r.length
    · by_cases gB : 0 < h.b.length
      · rw [decide_eq_false (by omega)]; exact quiet_8 w ⟨c0, c1, c2, c3, r0, r1, k1, k2⟩ (by omega) gR gB
      · cases gc : h.c with
        | true => rw [gc] at c3; rw [decide_eq_false (by rintro (q | q) <;> first | omega | cases q.2)]; exact quiet_7 w ⟨c0, c1, c2, c3, r0, r1, k1, k2⟩ (by omega) gR (by omega) rfl
        | false => rw [gc] at c3; rw [decide_eq_true (.inr ⟨by omega, rfl⟩)]; exact quiet_6 w ⟨c0, c1, c2, c3, r0, r1, k1, k2⟩ (by omega) gR (by omega) rfl
    · rw [decide_eq_true (by omega)]; exact quiet_5 w ⟨c0, c1, c2, c3, r0, r1, k1, k2⟩ (by omega) (by omega)
theorem plan_set (W : World) {n : Nat} (h : W.heap[n]? = some (.cells #[.int .u8 0, .int .i64 0] 34 (0, 0))) (a b : Value) :
    ((W.setCell ⟨n, 0, none⟩ a).setCell ⟨n, 1, none⟩ b).cell? ⟨n, 0, none⟩ = some a ∧ ((W.setCell ⟨n, 0, none⟩ a).setCell ⟨n, 1, none⟩ b).cell? ⟨n, 1, none⟩ = some b ∧ But [n] W ((W.setCell ⟨n, 0, none⟩ a).setCell ⟨n, 1, none⟩ b) := by
  have h1 := Lq.heap_set_same (k := 0) a h
  have h2 := Lq.heap_set_same (k := 1) b h1
  exact ⟨by simp [World.cell?, h2], by simp [World.cell?, h2], ((Lq.But.refl [n] W).set (p := ⟨n, 0, none⟩) (.inl (by simp)) _).set (p := ⟨n, 1, none⟩) (.inl (by simp)) _⟩
set_option maxRecDepth 100000 in
set_option maxHeartbeats 800000 in
theorem look_s1 {q : Pr} {h : Hs} (w : World) (H : RefH w q h) (hc : h.c = true) :
    Calls Try.prog 12 #[ptrO q.D, .bool true] w fun e w' => e = .returned (.agg #[.int .u8 1, .int .i64 0]) ∧ But [] w w' := by
  have g0 : But [] w (w.alloc (.cells #[.int .u8 0, .int .i64 0] 34)) := (Lq.But.refl _ _).alloc _
  have H0 := H.fresh g0
  have hX : (w.alloc (.cells #[.int .u8 0, .int .i64 0] 34)).heap[w.heap.size]? = some (.cells #[.int .u8 0, .int .i64 0] 34 (0, 0)) := World.alloc_heap_new w _
  obtain ⟨w0, hw0⟩ : ∃ w0, w0 = w.alloc (.cells #[.int .u8 0, .int .i64 0] 34) := ⟨_, rfl⟩
  rw [← hw0] at g0 H0 hX
  have hq := q_any false w0 H0
  obtain ⟨c0, c1, c2, c3⟩ := H0.cells
  obtain ⟨la, lc, l0⟩ := list_any H0.qr
  rw [hc] at c3
  have HX := Lib.hid hX
  have x0 : w0.cell? ⟨w.heap.size, 0, none⟩ = some (.int .u8 0) := by simp [World.cell?, hX]
  have x1 : w0.cell? ⟨w.heap.size, 1, none⟩ = some (.int .i64 0) := by simp [World.cell?, hX]
  have f0 : ∀ k, w0.frozen? ⟨w.heap.size, k, none⟩ = false := fun k => by simp [World.frozen?, hX]
  clear H H0 hX
  go_enter Try.func12, Try.ntmps12
  go_wp2_with fail
  rw [← hw0]
  clear hw0
  refine hq.mono ?_
  rintro e w1 ⟨rfl, rfl⟩
  clear hq
  simp only [Pr.q, Bool.false_eq_true, if_false]
  go_wp2_with fail
  obtain ⟨z0, z1, zb⟩ := plan_set (w1) (by exact HX.out) (.int .u8 1) (.int .i64 0)
  refine bodyPost_ret (v := .agg #[.int .u8 1, .int .i64 0]) (by simp [results, Try.f12, go_sem, z0, z1]) rfl ⟨rfl, ?_⟩
  exact but_new (((g0.mono (T := [w.heap.size]) (by simp))).next zb) (Nat.le_refl _)
set_option maxRecDepth 100000 in
set_option maxHeartbeats 800000 in
theorem look_s2 {q : Pr} {h : Hs} (w : World) (H : RefH w q h) {x : Int} {t : List Int} (hc : h.c = false) (hn : h.r = x :: t) :
    Calls Try.prog 12 #[ptrO q.D, .bool true] w fun e w' => e = .returned (.agg #[.int .u8 2, .int .i64 x]) ∧ But [] w w' := by
  have g0 : But [] w (w.alloc (.cells #[.int .u8 0, .int .i64 0] 34)) := (Lq.But.refl _ _).alloc _
  have H0 := H.fresh g0
  have hX : (w.alloc (.cells #[.int .u8 0, .int .i64 0] 34)).heap[w.heap.size]? = some (.cells #[.int .u8 0, .int .i64 0] 34 (0, 0)) := World.alloc_heap_new w _
  obtain ⟨w0, hw0⟩ : ∃ w0, w0 = w.alloc (.cells #[.int .u8 0, .int .i64 0] 34) := ⟨_, rfl⟩
  rw [← hw0] at g0 H0 hX
  have hq := q_any false w0 H0
  obtain ⟨c0, c1, c2, c3⟩ := H0.cells
  have hl := H0.qr
  rw [hn] at hl
  obtain ⟨lg, lc, l0, l1⟩ := list_cons hl
  have p1 : (0 : Int) < (t.length : Int) + 1 := by omega
  have p2 : (0 : Int) < ((t.length + 1 : Nat) : Int) := by omega
  clear hl
  rw [hc] at c3
  have HX := Lib.hid hX
  have x0 : w0.cell? ⟨w.heap.size, 0, none⟩ = some (.int .u8 0) := by simp [World.cell?, hX]
  have x1 : w0.cell? ⟨w.heap.size, 1, none⟩ = some (.int .i64 0) := by simp [World.cell?, hX]
  have f0 : ∀ k, w0.frozen? ⟨w.heap.size, k, none⟩ = false := fun k => by simp [World.frozen?, hX]
  clear H H0 hX
  go_enter Try.func12, Try.ntmps12
  go_wp2_with fail
  rw [← hw0]
  clear hw0
  refine hq.mono ?_
  rintro e w1 ⟨rfl, rfl⟩
  clear hq
  simp only [Pr.q, Bool.false_eq_true, if_false]
  go_wp2_with fail
  obtain ⟨z0, z1, zb⟩ := plan_set (w1) (by exact HX.out) (.int .u8 2) (.int .i64 x)
  refine bodyPost_ret (v := .agg #[.int .u8 2, .int .i64 x]) (by simp [results, Try.f12, go_sem, z0, z1]) rfl ⟨rfl, ?_⟩
  exact but_new (((g0.mono (T := [w.heap.size]) (by simp))).next zb) (Nat.le_refl _)
set_option maxRecDepth 100000 in
set_option maxHeartbeats 800000 in
theorem look_s3 {q : Pr} {h : Hs} (w : World) (H : RefH w q h) (hc : h.c = false) (hn : h.r = []) (hb : h.b.length < h.m) :
    Calls Try.prog 12 #[ptrO q.D, .bool true] w fun e w' => e = .returned (.agg #[.int .u8 3, .int .i64 0]) ∧ But [] w w' := by
  have g0 : But [] w (w.alloc (.cells #[.int .u8 0, .int .i64 0] 34)) := (Lq.But.refl _ _).alloc _
  have H0 := H.fresh g0
  have hX : (w.alloc (.cells #[.int .u8 0, .int .i64 0] 34)).heap[w.heap.size]? = some (.cells #[.int .u8 0, .int .i64 0] 34 (0, 0)) := World.alloc_heap_new w _
  obtain ⟨w0, hw0⟩ : ∃ w0, w0 = w.alloc (.cells #[.int .u8 0, .int .i64 0] 34) := ⟨_, rfl⟩
  rw [← hw0] at g0 H0 hX
  have hq := q_any false w0 H0
  obtain ⟨c0, c1, c2, c3⟩ := H0.cells
  have hl := H0.qr
  rw [hn] at hl
  obtain ⟨la, lc, l0⟩ := list_nil hl
  rw [hc] at c3
  obtain ⟨ba, bc, r0, r1⟩ := ring_cells H0.ring
  have l2 : (h.b.length : Int) < (h.m : Int) := by omega
  have l3 : decide ((h.b.length : Int) < (h.m : Int)) = true := by rw [decide_eq_true_eq]; exact l2
  have HX := Lib.hid hX
  have x0 : w0.cell? ⟨w.heap.size, 0, none⟩ = some (.int .u8 0) := by simp [World.cell?, hX]
  have x1 : w0.cell? ⟨w.heap.size, 1, none⟩ = some (.int .i64 0) := by simp [World.cell?, hX]
  have f0 : ∀ k, w0.frozen? ⟨w.heap.size, k, none⟩ = false := fun k => by simp [World.frozen?, hX]
  clear H H0 hX
  go_enter Try.func12, Try.ntmps12
  go_wp2_with fail
  rw [← hw0]
  clear hw0
  refine hq.mono ?_
  rintro e w1 ⟨rfl, rfl⟩
  clear hq
  simp only [Pr.q, Bool.false_eq_true, if_false]
  go_wp2_with fail
  go_quiet (fail)
  go_wp2_with fail
  obtain ⟨z0, z1, zb⟩ := plan_set (w1.drewN nq) (by exact HX.out) (.int .u8 3) (.int .i64 0)
  refine bodyPost_ret (v := .agg #[.int .u8 3, .int .i64 0]) (by simp [results, Try.f12, go_sem, z0, z1]) rfl ⟨rfl, ?_⟩
  exact but_new (((g0.mono (T := [w.heap.size]) (by simp)).drewN nq).next zb) (Nat.le_refl _)
set_option maxRecDepth 100000 in
set_option maxHeartbeats 800000 in
theorem look_s5 {q : Pr} {h : Hs} (w : World) (H : RefH w q h) (hc : h.c = false) (hn : h.r = []) (hb : ¬ h.b.length < h.m) :
    Calls Try.prog 12 #[ptrO q.D, .bool true] w fun e w' => e = .returned (.agg #[.int .u8 5, .int .i64 0]) ∧ But [] w w' := by
  have g0 : But [] w (w.alloc (.cells #[.int .u8 0, .int .i64 0] 34)) := (Lq.But.refl _ _).alloc _
  have H0 := H.fresh g0
  have hX : (w.alloc (.cells #[.int .u8 0, .int .i64 0] 34)).heap[w.heap.size]? = some (.cells #[.int .u8 0, .int .i64 0] 34 (0, 0)) := World.alloc_heap_new w _
  obtain ⟨w0, hw0⟩ : ∃ w0, w0 = w.alloc (.cells #[.int .u8 0, .int .i64 0] 34) := ⟨_, rfl⟩
  rw [← hw0] at g0 H0 hX
  have hq := q_any false w0 H0
  obtain ⟨c0, c1, c2, c3⟩ := H0.cells
  have hl := H0.qr
  rw [hn] at hl
  obtain ⟨la, lc, l0⟩ := list_nil hl
  rw [hc] at c3
  obtain ⟨ba, bc, r0, r1⟩ := ring_cells H0.ring
  have l2 : ¬ (h.b.length : Int) < (h.m : Int) := by omega
  have l3 : decide ((h.b.length : Int) < (h.m : Int)) = false := by rw [decide_eq_false_iff_not]; exact l2
  have HX := Lib.hid hX
  have x0 : w0.cell? ⟨w.heap.size, 0, none⟩ = some (.int .u8 0) := by simp [World.cell?, hX]
  have x1 : w0.cell? ⟨w.heap.size, 1, none⟩ = some (.int .i64 0) := by simp [World.cell?, hX]
  have f0 : ∀ k, w0.frozen? ⟨w.heap.size, k, none⟩ = false := fun k => by simp [World.frozen?, hX]
  clear H H0 hX
  go_enter Try.func12, Try.ntmps12
  go_wp2_with fail
  rw [← hw0]
  clear hw0
  refine hq.mono ?_
  rintro e w1 ⟨rfl, rfl⟩
  clear hq
  simp only [Pr.q, Bool.false_eq_true, if_false]
  go_wp2_with fail
  go_quiet (fail)
  go_wp2_with fail
  obtain ⟨z0, z1, zb⟩ := plan_set (w1.drewN nq) (by exact HX.out) (.int .u8 5) (.int .i64 0)
  refine bodyPost_ret (v := .agg #[.int .u8 5, .int .i64 0]) (by simp [results, Try.f12, go_sem, z0, z1]) rfl ⟨rfl, ?_⟩
  exact but_new (((g0.mono (T := [w.heap.size]) (by simp)).drewN nq).next zb) (Nat.le_refl _)
set_option maxRecDepth 100000 in
set_option maxHeartbeats 800000 in
theorem look_r2 {q : Pr} {h : Hs} (w : World) (H : RefH w q h) {x : Int} {t : List Int} (hn : h.s = x :: t) :
    Calls Try.prog 12 #[ptrO q.D, .bool false] w fun e w' => e = .returned (.agg #[.int .u8 2, .int .i64 x]) ∧ But [] w w' := by
  have g0 : But [] w (w.alloc (.cells #[.int .u8 0, .int .i64 0] 34)) := (Lq.But.refl _ _).alloc _
  have H0 := H.fresh g0
  have hX : (w.alloc (.cells #[.int .u8 0, .int .i64 0] 34)).heap[w.heap.size]? = some (.cells #[.int .u8 0, .int .i64 0] 34 (0, 0)) := World.alloc_heap_new w _
  obtain ⟨w0, hw0⟩ : ∃ w0, w0 = w.alloc (.cells #[.int .u8 0, .int .i64 0] 34) := ⟨_, rfl⟩
  rw [← hw0] at g0 H0 hX
  have hq := q_any true w0 H0
  obtain ⟨c0, c1, c2, c3⟩ := H0.cells
  have hl := H0.qs
  rw [hn] at hl
  obtain ⟨lg, lc, l0, l1⟩ := list_cons hl
  have p1 : (0 : Int) < (t.length : Int) + 1 := by omega
  have p2 : (0 : Int) < ((t.length + 1 : Nat) : Int) := by omega
  clear hl
  have HX := Lib.hid hX
  have x0 : w0.cell? ⟨w.heap.size, 0, none⟩ = some (.int .u8 0) := by simp [World.cell?, hX]
  have x1 : w0.cell? ⟨w.heap.size, 1, none⟩ = some (.int .i64 0) := by simp [World.cell?, hX]
  have f0 : ∀ k, w0.frozen? ⟨w.heap.size, k, none⟩ = false := fun k => by simp [World.frozen?, hX]
  clear H H0 hX
  go_enter Try.func12, Try.ntmps12
  go_wp2_with fail
  rw [← hw0]
  clear hw0
  refine hq.mono ?_
  rintro e w1 ⟨rfl, rfl⟩
  clear hq
  simp only [Pr.q, if_true]
  go_wp2_with fail
  obtain ⟨z0, z1, zb⟩ := plan_set (w1) (by exact HX.out) (.int .u8 2) (.int .i64 x)
  refine bodyPost_ret (v := .agg #[.int .u8 2, .int .i64 x]) (by simp [results, Try.f12, go_sem, z0, z1]) rfl ⟨rfl, ?_⟩
  exact but_new (((g0.mono (T := [w.heap.size]) (by simp))).next zb) (Nat.le_refl _)
set_option maxRecDepth 100000 in
set_option maxHeartbeats 800000 in
theorem look_r3 {q : Pr} {h : Hs} (w : World) (H : RefH w q h) (hn : h.s = []) (hb : 0 < h.b.length) :
    Calls Try.prog 12 #[ptrO q.D, .bool false] w fun e w' => e = .returned (.agg #[.int .u8 3, .int .i64 0]) ∧ But [] w w' := by
  have g0 : But [] w (w.alloc (.cells #[.int .u8 0, .int .i64 0] 34)) := (Lq.But.refl _ _).alloc _
  have H0 := H.fresh g0
  have hX : (w.alloc (.cells #[.int .u8 0, .int .i64 0] 34)).heap[w.heap.size]? = some (.cells #[.int .u8 0, .int .i64 0] 34 (0, 0)) := World.alloc_heap_new w _
  obtain ⟨w0, hw0⟩ : ∃ w0, w0 = w.alloc (.cells #[.int .u8 0, .int .i64 0] 34) := ⟨_, rfl⟩
  rw [← hw0] at g0 H0 hX
  have hq := q_any true w0 H0
  obtain ⟨c0, c1, c2, c3⟩ := H0.cells
  have hl := H0.qs
  rw [hn] at hl
  obtain ⟨la, lc, l0⟩ := list_nil hl
  obtain ⟨ba, bc, r0, r1⟩ := ring_cells H0.ring
  have l2 : (0 : Int) < (h.b.length : Int) := by omega
  have l3 : decide ((0 : Int) < (h.b.length : Int)) = true := by rw [decide_eq_true_eq]; exact l2
  have HX := Lib.hid hX
  have x0 : w0.cell? ⟨w.heap.size, 0, none⟩ = some (.int .u8 0) := by simp [World.cell?, hX]
  have x1 : w0.cell? ⟨w.heap.size, 1, none⟩ = some (.int .i64 0) := by simp [World.cell?, hX]
  have f0 : ∀ k, w0.frozen? ⟨w.heap.size, k, none⟩ = false := fun k => by simp [World.frozen?, hX]
  clear H H0 hX
  go_enter Try.func12, Try.ntmps12
  go_wp2_with fail
  rw [← hw0]
  clear hw0
  refine hq.mono ?_
  rintro e w1 ⟨rfl, rfl⟩
  clear hq
  simp only [Pr.q, if_true]
  go_wp2_with fail
  go_quiet (fail)
  go_wp2_with fail
  obtain ⟨z0, z1, zb⟩ := plan_set (w1.drewN nq) (by exact HX.out) (.int .u8 3) (.int .i64 0)
  refine bodyPost_ret (v := .agg #[.int .u8 3, .int .i64 0]) (by simp [results, Try.f12, go_sem, z0, z1]) rfl ⟨rfl, ?_⟩
  exact but_new (((g0.mono (T := [w.heap.size]) (by simp)).drewN nq).next zb) (Nat.le_refl _)
set_option maxRecDepth 100000 in
set_option maxHeartbeats 800000 in
theorem look_r4 {q : Pr} {h : Hs} (w : World) (H : RefH w q h) (hn : h.s = []) (hb : h.b.length = 0) (hc : h.c = true) :
    Calls Try.prog 12 #[ptrO q.D, .bool false] w fun e w' => e = .returned (.agg #[.int .u8 4, .int .i64 0]) ∧ But [] w w' := by
  have g0 : But [] w (w.alloc (.cells #[.int .u8 0, .int .i64 0] 34)) := (Lq.But.refl _ _).alloc _
  have H0 := H.fresh g0
  have hX : (w.alloc (.cells #[.int .u8 0, .int .i64 0] 34)).heap[w.heap.size]? = some (.cells #[.int .u8 0, .int .i64 0] 34 (0, 0)) := World.alloc_heap_new w _
  obtain ⟨w0, hw0⟩ : ∃ w0, w0 = w.alloc (.cells #[.int .u8 0, .int .i64 0] 34) := ⟨_, rfl⟩
  rw [← hw0] at g0 H0 hX
  have hq := q_any true w0 H0
  obtain ⟨c0, c1, c2, c3⟩ := H0.cells
  have hl := H0.qs
  rw [hn] at hl
  obtain ⟨la, lc, l0⟩ := list_nil hl
  rw [hc] at c3
  obtain ⟨ba, bc, r0, r1⟩ := ring_cells H0.ring
  have l2 : ¬ (0 : Int) < (h.b.length : Int) := by omega
  have l3 : decide ((0 : Int) < (h.b.length : Int)) = false := by rw [decide_eq_false_iff_not]; exact l2
  have HX := Lib.hid hX
  have x0 : w0.cell? ⟨w.heap.size, 0, none⟩ = some (.int .u8 0) := by simp [World.cell?, hX]
  have x1 : w0.cell? ⟨w.heap.size, 1, none⟩ = some (.int .i64 0) := by simp [World.cell?, hX]
  have f0 : ∀ k, w0.frozen? ⟨w.heap.size, k, none⟩ = false := fun k => by simp [World.frozen?, hX]
  clear H H0 hX
  go_enter Try.func12, Try.ntmps12
  go_wp2_with fail
  rw [← hw0]
  clear hw0
  refine hq.mono ?_
  rintro e w1 ⟨rfl, rfl⟩
  clear hq
  simp only [Pr.q, if_true]
  go_wp2_with fail
  go_quiet (fail)
  go_wp2_with fail
  obtain ⟨z0, z1, zb⟩ := plan_set (w1.drewN nq) (by exact HX.out) (.int .u8 4) (.int .i64 0)
  refine bodyPost_ret (v := .agg #[.int .u8 4, .int .i64 0]) (by simp [results, Try.f12, go_sem, z0, z1]) rfl ⟨rfl, ?_⟩
  exact but_new (((g0.mono (T := [w.heap.size]) (by simp)).drewN nq).next zb) (Nat.le_refl _)
set_option maxRecDepth 100000 in
set_option maxHeartbeats 800000 in
theorem look_r5 {q : Pr} {h : Hs} (w : World) (H : RefH w q h) (hn : h.s = []) (hb : h.b.length = 0) (hc : h.c = false) :
    Calls Try.prog 12 #[ptrO q.D, .bool false] w fun e w' => e = .returned (.agg #[.int .u8 5, .int .i64 0]) ∧ But [] w w' := by
  have g0 : But [] w (w.alloc (.cells #[.int .u8 0, .int .i64 0] 34)) := (Lq.But.refl _ _).alloc _
  have H0 := H.fresh g0
  have hX : (w.alloc (.cells #[.int .u8 0, .int .i64 0] 34)).heap[w.heap.size]? = some (.cells #[.int .u8 0, .int .i64 0] 34 (0, 0)) := World.alloc_heap_new w _
  obtain ⟨w0, hw0⟩ : ∃ w0, w0 = w.alloc (.cells #[.int .u8 0, .int .i64 0] 34) := ⟨_, rfl⟩
  rw [← hw0] at g0 H0 hX
  have hq := q_any true w0 H0
  obtain ⟨c0, c1, c2, c3⟩ := H0.cells
  have hl := H0.qs
  rw [hn] at hl
  obtain ⟨la, lc, l0⟩ := list_nil hl
  rw [hc] at c3
  obtain ⟨ba, bc, r0, r1⟩ := ring_cells H0.ring
  have l2 : ¬ (0 : Int) < (h.b.length : Int) := by omega
  have l3 : decide ((0 : Int) < (h.b.length : Int)) = false := by rw [decide_eq_false_iff_not]; exact l2
  have HX := Lib.hid hX
  have x0 : w0.cell? ⟨w.heap.size, 0, none⟩ = some (.int .u8 0) := by simp [World.cell?, hX]
  have x1 : w0.cell? ⟨w.heap.size, 1, none⟩ = some (.int .i64 0) := by simp [World.cell?, hX]
  have f0 : ∀ k, w0.frozen? ⟨w.heap.size, k, none⟩ = false := fun k => by simp [World.frozen?, hX]
  clear H H0 hX
  go_enter Try.func12, Try.ntmps12
  go_wp2_with fail
  rw [← hw0]
  clear hw0
  refine hq.mono ?_
  rintro e w1 ⟨rfl, rfl⟩
  clear hq
  simp only [Pr.q, if_true]
  go_wp2_with fail
  go_quiet (fail)
  go_wp2_with fail
  obtain ⟨z0, z1, zb⟩ := plan_set (w1.drewN nq) (by exact HX.out) (.int .u8 5) (.int .i64 0)
  refine bodyPost_ret (v := .agg #[.int .u8 5, .int .i64 0]) (by simp [results, Try.f12, go_sem, z0, z1]) rfl ⟨rfl, ?_⟩
  exact but_new (((g0.mono (T := [w.heap.size]) (by simp)).drewN nq).next zb) (Nat.le_refl _)
theorem rlook_any {q : Pr} {h : Hs} (send : Bool) (w : World) (H : RefH w q h) :
    Calls Try.prog 12 #[ptrO q.D, .bool send] w fun e w' => e = .returned (.agg #[.int .u8 ((lookP h send).1 : Int), .int .i64 (lookP h send).2]) ∧ But [] w w' := by
  cases send with
  | true =>
    cases hc : h.c with
    | true => rw [show lookP h true = (1, 0) by simp [lookP, hc]]; exact look_s1 w H hc
    | false =>
      cases hn : h.r with
      | cons x t => rw [show lookP h true = (2, x) by simp [lookP, hc, Hs.q, hn]]; exact look_s2 w H hc hn
      | nil =>
        by_cases hb : h.b.length < h.m
        · rw [show lookP h true = (3, 0) by simp [lookP, hc, Hs.q, hn, hb]]; exact look_s3 w H hc hn hb
        · rw [show lookP h true = (5, 0) by simp [lookP, hc, Hs.q, hn, hb]]; exact look_s5 w H hc hn hb
  | false =>
    cases hn : h.s with
    | cons x t => rw [show lookP h false = (2, x) by simp [lookP, Hs.q, hn]]; exact look_r2 w H hn
    | nil =>
      by_cases hb : 0 < h.b.length
      · rw [show lookP h false = (3, 0) by simp [lookP, Hs.q, hn, hb]]; exact look_r3 w H hn hb
      · have hb0 : h.b = [] := List.length_eq_zero_iff.1 (by omega)
        cases hc : h.c with
        | true => rw [show lookP h false = (4, 0) by simp [lookP, Hs.q, hn, hb0, hc]]; exact look_r4 w H hn (by omega) hc
        | false => rw [show lookP h false = (5, 0) by simp [lookP, Hs.q, hn, hb0, hc]]; exact look_r5 w H hn (by omega) hc
end Go.Proofs.Ytkpnkhakjgfgfaa
