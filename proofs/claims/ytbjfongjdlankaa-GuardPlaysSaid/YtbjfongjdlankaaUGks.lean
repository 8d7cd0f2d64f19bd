/-
  Several guards on six locks of twenty cells: what a law holds of them, and what each call does to them; the walk of the laws' made.
-/
import Derived.Test.YtbjfongjdlankaaUWant
namespace Go.Proofs.Ytbjfongjdlankaa
open Go.RowKit

def upd {α : Type} (f : Nat → α) (k : Nat) (v : α) : Nat → α := fun j => if j = k then v else f j
theorem upd_same {α : Type} (f : Nat → α) (k : Nat) (v : α) : upd f k v k = v := by simp [upd]
theorem upd_ne {α : Type} (f : Nat → α) {k j : Nat} (v : α) (h : j ≠ k) : upd f k v j = f j := by simp [upd, h]
theorem upd_id {α : Type} (f : Nat → α) (k : Nat) : upd f k (f k) = f := by funext j; unfold upd; split <;> simp_all

/-- These blocks are of none of the kinds that guards, locks, cells are made of. -/
def Alien (W : World) (S : List Nat) : Prop := ∀ k ∈ S, ∃ cs t z, W.heap[k]? = some (.cells cs t z) ∧ t ≠ 91 ∧ t ≠ 3 ∧ t ≠ 85 ∧ t ≠ 33 ∧ t ≠ 76
theorem Alien.nil (W : World) : Alien W [] := fun _ h => by cases h
theorem Alien.cons {W : World} {S : List Nat} {k : Nat} {cs : Array Value} {t : TypeId} {z : Nat × Nat} (h : W.heap[k]? = some (.cells cs t z)) (ht : t ≠ 91 ∧ t ≠ 3 ∧ t ≠ 85 ∧ t ≠ 33 ∧ t ≠ 76) (hS : Alien W S) : Alien W (k :: S) := by
  intro j hj
  rcases List.mem_cons.1 hj with rfl | hj
  · exact ⟨cs, t, z, h, ht⟩
  · exact hS j hj
theorem Alien.not {W : World} {S : List Nat} (h : Alien W S) {B : Nat} {ds : Array Value} {u : TypeId} {y : Nat × Nat} (hB : W.heap[B]? = some (.cells ds u y)) (hu : u = 91 ∨ u = 3 ∨ u = 85 ∨ u = 33 ∨ u = 76) : B ∉ S := by
  intro hm
  obtain ⟨cs, t, z, h1, h2⟩ := h B hm
  rw [h1] at hB
  simp only [Option.some.injEq, Obj.cells.injEq] at hB
  rw [hB.2.1] at h2
  rcases hu with hu | hu | hu | hu | hu
  · exact h2.1 hu
  · exact h2.2.1 hu
  · exact h2.2.2.1 hu
  · exact h2.2.2.2.1 hu
  · exact h2.2.2.2.2 hu
theorem Alien.notInts {W : World} {S : List Nat} (h : Alien W S) : NotInts W S := fun _ hk _ _ he => h.not he (.inr (.inl rfl)) hk

/-- n guards at gs, that are ss, on six locks of twenty cells vs, from cell 4 on; all of it made since w0. -/
structure Gks (w0 W : World) (L P Q B V n : Nat) (gs : Nat → Nat) (ss : Nat → Gs) (vs : List Nat) (c : Nat) : Prop where
  lks : Lks W L P Q B 4 6
  cels : Cels W B V vs c
  len : vs.length = 20
  but : But [] w0 W
  own : w0.heap.size ≤ B ∧ w0.heap.size ≤ V
  gown : ∀ i, i < n → w0.heap.size ≤ gs i
  gd : ∀ i, i < n → ∃ a cap, Gd W (gs i) L a cap (ss i)
  inj : ∀ i j, i < n → j < n → gs i = gs j → i = j
section
variable {w0 W : World} {L P Q B V n : Nat} {gs : Nat → Nat} {ss : Nat → Gs} {vs : List Nat} {c : Nat}
theorem Gks.hl (h : Gks w0 W L P Q B V n gs ss vs c) : 4 + 2 * 6 ≤ vs.length := by have := h.len; omega
theorem Gks.but' (h : Gks w0 W L P Q B V n gs ss vs c) {W' : World} {S : List Nat} (hb : But S W W') (hS : ∀ k ∈ S, w0.heap.size ≤ k) (hA : Alien W S) : Gks w0 W' L P Q B V n gs ss vs c := by
  refine ⟨h.lks.but hb (hA.not h.lks.head (by decide)) (hA.not h.lks.boxN (by decide)) (hA.not h.lks.boxB (by decide)), h.cels.but hb (hA.not h.cels.head (by decide)) (hA.not h.cels.row (by decide)), h.len, h.but.trans hb (fun k hk hl => ?_), h.own, h.gown, fun i hi => ?_, h.inj⟩
  · have := hS k hk; omega
  · obtain ⟨a, cap, hg⟩ := h.gd i hi
    exact ⟨a, cap, hg.but hb (hA.not hg.head (by decide)) hA.notInts⟩
theorem Gks.fresh (h : Gks w0 W L P Q B V n gs ss vs c) {W' : World} (hb : But [] W W') : Gks w0 W' L P Q B V n gs ss vs c := h.but' hb (by simp) (Alien.nil _)
theorem Gks.drewN (h : Gks w0 W L P Q B V n gs ss vs c) (k : Nat) : Gks w0 (W.drewN k) L P Q B V n gs ss vs c := h.fresh ((But.refl [] W).drewN k)
theorem Gks.drew (h : Gks w0 W L P Q B V n gs ss vs c) : Gks w0 W.drew L P Q B V n gs ss vs c := h.drewN 1
/-- One of the guards was turned, and the cells. -/
theorem Gks.turn (h : Gks w0 W L P Q B V n gs ss vs c) {W' : World} {i c' : Nat} {a' : Option Addr} {cap' : Nat} {s' : Gs} {vs' : List Nat} (hi : i < n) (hg' : Gd W' (gs i) L a' cap' s') (hL : Lks W' L P Q B 4 6) (hC : Cels W' B V vs' c') (hb : But [B, V, gs i] W W') (hl : vs'.length = vs.length) :
    Gks w0 W' L P Q B V n gs (upd ss i s') vs' c' := by
  refine ⟨hL, hC, hl.trans h.len, h.but.trans hb (fun k hk hlt => ?_), h.own, h.gown, fun j hj => ?_, h.inj⟩
  · have := h.own; have := h.gown i hi
    simp at hk; omega
  · by_cases e : j = i
    · subst e; rw [upd_same]; exact ⟨_, _, hg'⟩
    · rw [upd_ne _ _ e]
      obtain ⟨a, cap, hg⟩ := h.gd j hj
      obtain ⟨a2, cap2, hg2⟩ := h.gd i hi
      refine ⟨a, cap, hg.but hb ?_ ?_⟩
      · simpa using ⟨type_ne hg.head h.cels.head (by decide), type_ne hg.head h.cels.row (by decide), fun he => e (h.inj j i hj hi he)⟩
      · exact NotInts.cons h.cels.head (by decide) (NotInts.cons h.cels.row (by decide) hg2.own)

theorem ks_step (h : Gks w0 W L P Q B V n gs ss vs c) {i : Nat} (hi : i < n) :
    Calls Try.prog 10 #[.pointer (some ⟨gs i, 0, none⟩)] W fun e w' => e = .returned (.tuple #[.bool (stepA 4 6 vs (ss i)), .int .i64 (stepE (ss i))]) ∧ Gks w0 w' L P Q B V n gs (upd ss i (stepS 4 6 vs (ss i))) (stepV 4 6 vs (ss i)) (stepC 6 c (ss i)) ∧ But [B, V, gs i] W w' := by
  obtain ⟨a, cap, hg⟩ := h.gd i hi
  refine (gstep_any W hg h.lks h.cels h.hl).mono ?_
  rintro e w' ⟨rfl, h1, h2, h3, h4⟩
  exact ⟨rfl, h.turn hi h1 h2 h3 h4 (stepV_len _ _ _ _), h4⟩
theorem ks_give (h : Gks w0 W L P Q B V n gs ss vs c) {i : Nat} (hi : i < n) :
    Calls Try.prog 14 #[.pointer (some ⟨gs i, 0, none⟩)] W fun e w' => e = .returned (.tuple #[.int .i64 (giveN (ss i) : Int), .int .i64 (giveE (ss i))]) ∧ Gks w0 w' L P Q B V n gs (upd ss i (giveS (ss i))) (giveVs 4 6 vs (ss i)) (giveC 6 c (ss i)) ∧ But [B, V, gs i] W w' := by
  obtain ⟨a, cap, hg⟩ := h.gd i hi
  refine (ggive_any W hg h.lks h.cels h.hl).mono ?_
  rintro e w' ⟨rfl, h1, h2, h3, h4⟩
  exact ⟨rfl, h.turn hi h1 h2 h3 h4 (giveVs_len _ _ _ _), h4⟩
theorem ks_want (h : Gks w0 W L P Q B V n gs ss vs c) {i kap : Nat} (hi : i < n) {b : Option Addr} {l : List Int} (hr : RowA W b l) (hl : l.length ≤ 4096) :
    Calls Try.prog 12 #[.pointer (some ⟨gs i, 0, none⟩), .slice b l.length kap] W fun e w' => e = .returned (.int .i64 (wantE 6 (ss i) l)) ∧ Gks w0 w' L P Q B V n gs (upd ss i (wantS 6 (ss i) l)) vs c ∧ But [gs i] W w' := by
  obtain ⟨a, cap, hg⟩ := h.gd i hi
  refine (gwant_any W hg h.lks hr hl).mono ?_
  rintro e w' ⟨rfl, ⟨a', cap', h1⟩, hb⟩
  exact ⟨rfl, h.turn hi h1 (h.lks.guard hg hb) (h.cels.guard hg hb) (hb.mono (by simp)) rfl, hb⟩
theorem ks_all (h : Gks w0 W L P Q B V n gs ss vs c) {i : Nat} (hi : i < n) :
    Calls Try.prog 20 #[.pointer (some ⟨gs i, 0, none⟩)] W fun e w' => e = .returned (.bool (ss i).all) ∧ ∃ m, w' = W.drewN m := by
  obtain ⟨a, cap, hg⟩ := h.gd i hi
  exact all_any W hg
theorem ks_held (h : Gks w0 W L P Q B V n gs ss vs c) {i : Nat} (hi : i < n) :
    Calls Try.prog 23 #[.pointer (some ⟨gs i, 0, none⟩)] W fun e w' => ∃ a' cap', e = .returned (.slice a' (ss i).h cap') ∧ RowT w' a' cap' ((ss i).l.take (ss i).h) ∧ But [] W w' := by
  obtain ⟨a, cap, hg⟩ := h.gd i hi
  exact held_any W hg
theorem ks_len (h : Gks w0 W L P Q B V n gs ss vs c) {i : Nat} (hi : i < n) : (ss i).h ≤ (ss i).l.length ∧ (ss i).l.length ≤ 4096 := by
  obtain ⟨a, cap, hg⟩ := h.gd i hi
  exact ⟨hg.le, hg.len⟩
theorem ks_count (h : Gks w0 W L P Q B V n gs ss vs c) :
    Calls Try.prog 17 #[.pointer (some ⟨B, 0, none⟩)] W fun e w' => e = .returned (.int .u64 (c : Int)) ∧ w' = W := count_any W h.cels
/-- One guard more. -/
theorem Gks.more (h : Gks w0 W L P Q B V n gs ss vs c) {W' : World} {G : Nat} {a : Option Addr} {cap : Nat} {s : Gs} (hg : Gd W' G L a cap s) (hb : But [] W W') (hG : W.heap.size ≤ G) : Gks w0 W' L P Q B V (n + 1) (upd gs n G) (upd ss n s) vs c := by
  have h1 := h.fresh hb
  have hlt : ∀ i, i < n → gs i < W.heap.size := fun i hi => by obtain ⟨_, _, hg⟩ := h.gd i hi; exact hg.lt
  refine ⟨h1.lks, h1.cels, h1.len, h1.but, h1.own, fun i hi => ?_, fun i hi => ?_, fun i j hi hj => ?_⟩
  · by_cases e : i = n
    · subst e; rw [upd_same]; have := h.but.size; omega
    · rw [upd_ne _ _ e]; exact h.gown i (by omega)
  · by_cases e : i = n
    · subst e; rw [upd_same, upd_same]; exact ⟨_, _, hg⟩
    · rw [upd_ne _ _ e, upd_ne _ _ e]; exact h1.gd i (by omega)
  · by_cases e : i = n
    · by_cases e' : j = n
      · intro _; omega
      · subst e; rw [upd_same, upd_ne _ _ e']; have := hlt j (by omega); omega
    · by_cases e' : j = n
      · subst e'; rw [upd_same, upd_ne _ _ e]; have := hlt i (by omega); omega
      · rw [upd_ne _ _ e, upd_ne _ _ e']; exact h.inj i j (by omega) (by omega)
/-- A guard's copy in its place. -/
theorem ks_copy (h : Gks w0 W L P Q B V n gs ss vs c) {i : Nat} (hi : i < n) :
    Calls Try.prog 16 #[.pointer (some ⟨gs i, 0, none⟩)] W fun e w' => e = .returned (.pointer (some ⟨W.heap.size, 0, none⟩)) ∧ Gks w0 w' L P Q B V n (upd gs i W.heap.size) ss vs c ∧ But [] W w' := by
  obtain ⟨a, cap, hg⟩ := h.gd i hi
  have hlt : ∀ i, i < n → gs i < W.heap.size := fun i hi => by obtain ⟨_, _, hg⟩ := h.gd i hi; exact hg.lt
  refine (gcopy_any W hg).mono ?_
  rintro e w' ⟨rfl, ⟨a', cap', h1⟩, hb⟩
  have h2 := h.fresh hb
  refine ⟨rfl, ⟨h2.lks, h2.cels, h2.len, h2.but, h2.own, fun j hj => ?_, fun j hj => ?_, fun j k hj hk => ?_⟩, hb⟩
  · by_cases e : j = i
    · subst e; rw [upd_same]; exact h.but.size
    · rw [upd_ne _ _ e]; exact h.gown j hj
  · by_cases e : j = i
    · subst e; rw [upd_same]; exact ⟨_, _, h1⟩
    · rw [upd_ne _ _ e]; exact h2.gd j hj
  · by_cases e : j = i
    · by_cases e' : k = i
      · intro _; omega
      · subst e; rw [upd_same, upd_ne _ _ e']; have := hlt k hk; omega
    · by_cases e' : k = i
      · subst e'; rw [upd_same, upd_ne _ _ e]; have := hlt j hj; omega
      · rw [upd_ne _ _ e, upd_ne _ _ e']; exact h.inj j k hj hk
end

/-! ### made -/
theorem cell_new_at {k : Int} {n : Nat} (w : World) (H : Hid (k = (n : Int))) (h1 : 1 ≤ n) (h2 : n ≤ 4096) : Calls Try.prog 26 #[.int .i64 k] w (MadeCells w n) := by
  obtain rfl := H.out
  exact cell_new n h1 h2 w
theorem tnew_at {B V c base n : Nat} {b k : Int} {vs : List Nat} (w : World) (hC : Cels w B V vs c) (h1 : 1 ≤ n) (h2 : n ≤ 300) (h3 : base + 2 * n ≤ vs.length) (H : Hid (b = (base : Int) ∧ k = (n : Int))) :
    Calls Try.prog 27 #[.pointer (some ⟨B, 0, none⟩), .int .i64 b, .int .i64 k] w (MadeLocks w B base n) := by
  obtain ⟨rfl, rfl⟩ := H.out
  exact tnew_ok w hC h1 h2 h3
def zeros : List Nat := List.replicate 20 0
theorem made_any (w : World) : Calls Try.prog 8 #[] w fun e w' => ∃ B V L P Q, e = .returned (.tuple #[.pointer (some ⟨B, 0, none⟩), .pointer (some ⟨L, 0, none⟩)]) ∧ Gks w w' L P Q B V 0 (fun _ => 0) (fun _ => Gs.none) zeros 0 := by
  go_enter Try.func8, Try.ntmps8
  go_wp2_with fail
  refine (cell_new_at (n := 20) _ (Lib.hid rfl) (by omega) (by omega)).mono ?_
  rintro e w1 ⟨B, V, rfl, hC, hV, hB, hz⟩
  go_wp2_with fail
  refine (tnew_at (base := 4) (n := 6) _ hC (by omega) (by omega) (by simp) (Lib.hid ⟨rfl, rfl⟩)).mono ?_
  rintro e w2 ⟨L, P, Q, rfl, hL, hg⟩
  have hC2 := hC.but hg (by simp) (by simp)
  have hz2 := hz.next hg
  clear hC hg hz
  go_wp2_with fail
  go_ret2
  exact ⟨_, _, _, _, _, rfl, ⟨hL, hC2, rfl, hz2, ⟨hB, hV⟩, fun i hi => by omega, fun i hi => by omega, fun i j hi => by omega⟩⟩
end Go.Proofs.Ytbjfongjdlankaa
