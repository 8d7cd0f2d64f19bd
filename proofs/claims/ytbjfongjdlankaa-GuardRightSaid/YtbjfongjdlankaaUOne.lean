/-
  One guard alone; the walks of the laws' nothing and alive.
-/
import Derived.Deep.Light
import Derived.Test.YtbjfongjdlankaaUGks
namespace Go.Proofs.Ytbjfongjdlankaa
open Go.RowKit

theorem Gks.congr {w0 W : World} {L P Q B V n : Nat} {gs gs' : Nat → Nat} {ss ss' : Nat → Gs} {vs : List Nat} {c : Nat} (h : Gks w0 W L P Q B V n gs ss vs c) (h1 : ∀ i, i < n → gs i = gs' i) (h2 : ∀ i, i < n → ss i = ss' i) : Gks w0 W L P Q B V n gs' ss' vs c := by
  refine ⟨h.lks, h.cels, h.len, h.but, h.own, fun i hi => h1 i hi ▸ h.gown i hi, fun i hi => ?_, fun i j hi hj he => h.inj i j hi hj (by rw [h1 i hi, h1 j hj, he])⟩
  rw [← h1 i hi, ← h2 i hi]; exact h.gd i hi
/-- One guard. -/
abbrev One (w0 W : World) (L P Q B V G : Nat) (s : Gs) (vs : List Nat) (c : Nat) : Prop := Gks w0 W L P Q B V 1 (fun _ => G) (fun _ => s) vs c
theorem Gks.one {w0 W W' : World} {L P Q B V G c : Nat} {gs : Nat → Nat} {ss : Nat → Gs} {vs : List Nat} {a : Option Addr} {cap : Nat} {s : Gs} (h : Gks w0 W L P Q B V 0 gs ss vs c) (hg : Gd W' G L a cap s) (hb : But [] W W') (hG : W.heap.size ≤ G) : One w0 W' L P Q B V G s vs c :=
  (h.more hg hb hG).congr (fun i hi => by rw [show i = 0 by omega]; exact upd_same _ _ _) (fun i hi => by rw [show i = 0 by omega]; exact upd_same _ _ _)
section
variable {w0 W : World} {L P Q B V G c : Nat} {s : Gs} {vs : List Nat}
theorem one_upd {s' : Gs} (h : Gks w0 W L P Q B V 1 (fun _ => G) (upd (fun _ => s) 0 s') vs c) : One w0 W L P Q B V G s' vs c :=
  h.congr (fun _ _ => rfl) (fun i hi => by rw [show i = 0 by omega]; exact upd_same _ _ _)
theorem one_step (h : One w0 W L P Q B V G s vs c) {s' : Gs} {vs' : List Nat} {c' : Nat} {b : Bool} {x : Int} (H : Hid (stepA 4 6 vs s = b ∧ stepE s = x ∧ stepS 4 6 vs s = s' ∧ stepV 4 6 vs s = vs' ∧ stepC 6 c s = c')) :
    Calls Try.prog 10 #[.pointer (some ⟨G, 0, none⟩)] W fun e w' => e = .returned (.tuple #[.bool b, .int .i64 x]) ∧ One w0 w' L P Q B V G s' vs' c' ∧ But [B, V, G] W w' := by
  obtain ⟨rfl, rfl, rfl, rfl, rfl⟩ := H.out
  refine (ks_step h (i := 0) (by omega)).mono ?_
  rintro e w' ⟨rfl, h1, hb⟩
  exact ⟨rfl, one_upd h1, hb⟩
theorem one_give (h : One w0 W L P Q B V G s vs c) {s' : Gs} {vs' : List Nat} {c' : Nat} {m x : Int} (H : Hid ((giveN s : Int) = m ∧ giveE s = x ∧ giveS s = s' ∧ giveVs 4 6 vs s = vs' ∧ giveC 6 c s = c')) :
    Calls Try.prog 14 #[.pointer (some ⟨G, 0, none⟩)] W fun e w' => e = .returned (.tuple #[.int .i64 m, .int .i64 x]) ∧ One w0 w' L P Q B V G s' vs' c' ∧ But [B, V, G] W w' := by
  obtain ⟨rfl, rfl, rfl, rfl, rfl⟩ := H.out
  refine (ks_give h (i := 0) (by omega)).mono ?_
  rintro e w' ⟨rfl, h1, hb⟩
  exact ⟨rfl, one_upd h1, hb⟩
theorem one_want (h : One w0 W L P Q B V G s vs c) {kap : Nat} {b : Option Addr} {l : List Int} (hr : RowA W b l) (hl : l.length ≤ 4096) {s' : Gs} {x : Int} (H : Hid (wantE 6 s l = x ∧ wantS 6 s l = s')) :
    Calls Try.prog 12 #[.pointer (some ⟨G, 0, none⟩), .slice b l.length kap] W fun e w' => e = .returned (.int .i64 x) ∧ One w0 w' L P Q B V G s' vs c ∧ But [G] W w' := by
  obtain ⟨rfl, rfl⟩ := H.out
  refine (ks_want h (i := 0) (by omega) hr hl).mono ?_
  rintro e w' ⟨rfl, h1, hb⟩
  exact ⟨rfl, one_upd h1, hb⟩
theorem one_all (h : One w0 W L P Q B V G s vs c) {b : Bool} (H : Hid (s.all = b)) :
    Calls Try.prog 20 #[.pointer (some ⟨G, 0, none⟩)] W fun e w' => e = .returned (.bool b) ∧ ∃ m, w' = W.drewN m := by
  obtain rfl := H.out
  exact ks_all h (i := 0) (by omega)
end

/-! ### nothing -/
theorem nothing_any (w : World) : Calls Try.prog 7 #[] w fun e w' => e = .returned (.bool true) ∧ But [] w w' := by
  go_enter Try.func7, Try.ntmps7
  go_wp2_with fail
  refine (gstep_nil _).mono ?_
  rintro e w1 ⟨rfl, hb1⟩
  go_wp2_with fail
  refine (ggive_nil _).mono ?_
  rintro e w2 ⟨rfl, hb2⟩
  have hb2' := hb1.next hb2
  clear hb1 hb2
  go_wp2_with fail
  refine (next_nil _).mono ?_
  rintro e w3 ⟨rfl, rfl⟩
  go_wp2_with fail
  refine (gwant_nil _ _ _ _).mono ?_
  rintro e w4 ⟨rfl, hb4⟩
  have hb4' := (hb2'.alloc _).next hb4
  clear hb2' hb4
  go_wp2_with fail
  refine (all_nil _).mono ?_
  rintro e w5 ⟨rfl, m5, rfl⟩
  go_wp2_with fail
  refine (held_nil _).mono ?_
  rintro e w6 ⟨rfl, rfl⟩
  go_wp2_with fail
  refine (gcopy_nil _).mono ?_
  rintro e w7 ⟨rfl, rfl⟩
  go_wp2_with fail
  go_ret
  exact ⟨rfl, hb4'.drewN _⟩

/-! ### alive -/
def alS : Nat → Gs × List Nat × Nat
  | 0 => (⟨[0, 2], 0, false, 0⟩, zeros, 0)
  | i + 1 => (stepS 4 6 (alS i).2.1 (alS i).1, stepV 4 6 (alS i).2.1 (alS i).1, stepC 6 (alS i).2.2 (alS i).1)
theorem al_step : ∀ i, i < 4 → stepA 4 6 (alS i).2.1 (alS i).1 = decide (i = 3) ∧ stepE (alS i).1 = 0 := by decide +kernel
def alG : Nat → Gs × List Nat × Nat
  | 0 => alS 4
  | i + 1 => (giveS (alG i).1, giveVs 4 6 (alG i).2.1 (alG i).1, giveC 6 (alG i).2.2 (alG i).1)
theorem al_want : wantE 6 Gs.none [0, 2] = 0 ∧ wantS 6 Gs.none [0, 2] = (alS 0).1 := by
  have h : wantE 6 Gs.none [0, 2] = 0 := by decide +kernel
  exact ⟨h, by unfold wantS; rw [if_pos h]; rfl⟩
theorem al_give0 : (giveN (alG 0).1 : Int) = 1 ∧ giveE (alG 0).1 = 0 := by decide +kernel
theorem al_give1 : (giveN (alG 1).1 : Int) = 0 ∧ giveE (alG 1).1 = 0 := by decide +kernel
theorem al_give2 : (giveN (alG 2).1 : Int) = 0 ∧ giveE (alG 2).1 = 3 := by decide +kernel
theorem al_all : (alG 3).1.all = true := by decide +kernel

theorem cell_made (w : World) (cs : Array Value) (t : TypeId) {j : Nat} {v : Value} (h : cs[j]? = some v) : (w.alloc (.cells cs t)).cell? ⟨w.heap.size, j, none⟩ = some v := by
  unfold World.cell?
  rw [World.alloc_heap_new]
  exact h
theorem rowA_two (w : World) : RowA (w.alloc (.cells #[.int .i64 0, .int .i64 2] 3)) (some ⟨w.heap.size, 0, none⟩) [0, 2] := fun _ => by
  refine ⟨_, 0, rfl, fun j hj => ?_⟩
  match j, hj with
  | 0, _ => exact cell_made _ _ _ rfl
  | 1, _ => exact cell_made _ _ _ rfl

set_option maxRecDepth 100000 in
set_option maxHeartbeats 800000 in
theorem alive_any (w : World) : Calls Try.prog 6 #[] w fun e w' => e = .returned (.bool true) ∧ But [] w w' := by
  go_enter Try.func6, Try.ntmps6
  go_wp2_with fail
  refine (made_any _).mono ?_
  rintro e w1 ⟨B, V, L, P, Q, rfl, hK⟩
  go_wp2_with fail
  refine (gnew_any L _).mono ?_
  rintro e w2 ⟨G, rfl, hG, hle, hb⟩
  have hO := hK.one hG hb hle
  clear hK hG hb hle
  go_wp2_with fail
  refine (gnew_nil _).mono ?_
  rintro e w3 ⟨rfl, rfl⟩
  go_wp2_with fail
  refine (one_want (hO.fresh ((But.refl [] w3).alloc _)) (kap := 2) (l := [0, 2]) (rowA_two w3) (by simp) (Lib.hid al_want)).mono ?_
  rintro e w4 ⟨rfl, hO4, -⟩
  clear hO
  go_wp2_with fail
  go_loopw [4, 7, 8] (fun ev gv iv wr => ∃ i : Nat, i ≤ 4 ∧ ev = .int .i64 0 ∧ gv = .bool (decide (i = 4)) ∧ iv = .int .i64 (i : Int) ∧ One w wr L P Q B V G (alS i).1 (alS i).2.1 (alS i).2.2) (fun _ _ iv _ => 4 - (intOf iv).toNat)
  case atStart => exact ⟨0, by omega, rfl, rfl, rfl, hO4⟩
  case round =>
    clear hO4
    obtain ⟨i, hi, rfl, rfl, rfl, hO⟩ := hrel
    by_cases hlt : i < 4
    · have hlt' : (i : Int) < 4 := by omega
      have t0 : decide (i = 4) = false := decide_eq_false (by omega)
      have hs := al_step i hlt
      have t1 : decide (i + 1 = 4) = decide (i = 3) := by simp
      rw [t0]
      go_wp2_with fail
      refine (one_step hO (Lib.hid ⟨hs.1, hs.2, rfl, rfl, rfl⟩)).mono ?_
      rintro e w5 ⟨rfl, hO5, -⟩
      clear hO hs
      go_wp2_with fail
      go_roundw
      case rel => exact ⟨i + 1, by omega, rfl, by rw [t1], by go_num, hO5⟩
      case measure => simp [intOf]; omega
    · obtain rfl : i = 4 := by omega
      have t0 : decide (4 = 4) = true := rfl
      rw [t0]
      have hO0 : One w wr L P Q B V G (alG 0).1 (alG 0).2.1 (alG 0).2.2 := hO
      clear hO t0 hlt hi
      go_wp2_with fail
      refine (one_give hO0 (Lib.hid ⟨al_give0.1, al_give0.2, rfl, rfl, rfl⟩)).mono ?_
      rintro e w5 ⟨rfl, hO5, -⟩
      have hO1 : One w w5 L P Q B V G (alG 1).1 (alG 1).2.1 (alG 1).2.2 := hO5
      clear hO0 hO5
      go_wp2_with fail
      refine (one_give hO1 (Lib.hid ⟨al_give1.1, al_give1.2, rfl, rfl, rfl⟩)).mono ?_
      rintro e w6 ⟨rfl, hO6, -⟩
      have hO2 : One w w6 L P Q B V G (alG 2).1 (alG 2).2.1 (alG 2).2.2 := hO6
      clear hO1 hO6
      go_wp2_with fail
      refine (one_give hO2 (Lib.hid ⟨al_give2.1, al_give2.2, rfl, rfl, rfl⟩)).mono ?_
      rintro e w7 ⟨rfl, hO7, -⟩
      have hO3 : One w w7 L P Q B V G (alG 3).1 (alG 3).2.1 (alG 3).2.2 := hO7
      clear hO2 hO7
      go_wp2_with fail
      refine (one_all hO3 (Lib.hid al_all)).mono ?_
      rintro e w8 ⟨rfl, m, rfl⟩
      have hB := (hO3.drewN m).but
      clear hO3
      go_wp2_with fail
      go_ret
      exact ⟨rfl, hB⟩
end Go.Proofs.Ytbjfongjdlankaa
