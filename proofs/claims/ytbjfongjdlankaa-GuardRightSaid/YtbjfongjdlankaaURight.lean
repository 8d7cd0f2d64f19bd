/-
  The walk of the law GuardRight.
-/
import Derived.Deep.Light
import Derived.Test.YtbjfongjdlankaaURightM
namespace Go.Proofs.Ytbjfongjdlankaa
open Go.RowKit

theorem first_has (q : Nat) : wantE 6 Gs.none (lockL q 6) = 0 ∧ wantS 6 Gs.none (lockL q 6) = stepped (lockL q 6) 0 := by
  have h : wantE 6 Gs.none (lockL q 6) = 0 := by
    unfold wantE; rw [if_neg (by simp [Gs.none]), lockL_rises]; rfl
  exact ⟨h, by unfold wantS; rw [if_pos h]; rfl⟩
theorem one_next {w0 W W' : World} {L P Q B V G c c' : Nat} {s s' : Gs} {vs vs' : List Nat} {a : Option Addr} {cap : Nat} {l : List Int} (h : One w0 W L P Q B V G s vs c) (hR : RowT W a cap l) (_h' : One w0 W' L P Q B V G s' vs' c') (hb : But [B, V, G] W W') : RowT W' a cap l := by
  obtain ⟨a2, cap2, hg⟩ := h.gd 0 (by omega)
  exact hR.but hb (NotInts.cons h.cels.head (by decide) (NotInts.cons h.cels.row (by decide) hg.own))
theorem one_free {w0 W : World} {L P Q B V G c : Nat} {s : Gs} {vs : List Nat} (k : Int) {b : Bool} (h : One w0 W L P Q B V G s vs c) (H : Hid (freeE 4 6 vs k = b)) :
    Calls Try.prog 24 #[.pointer (some ⟨L, 0, none⟩), .int .i64 k] W fun e w' => e = .returned (.bool b) ∧ ∃ m, w' = W.drewN m := by
  obtain rfl := H.out
  exact free_any k W h.lks h.cels h.hl
theorem one_held {w0 W : World} {L P Q B V G c : Nat} {s : Gs} {vs : List Nat} (h : One w0 W L P Q B V G s vs c) :
    Calls Try.prog 23 #[.pointer (some ⟨G, 0, none⟩)] W fun e w' => ∃ a' cap', e = .returned (.slice a' s.h cap') ∧ RowT w' a' cap' (s.l.take s.h) ∧ But [] W w' := ks_held h (i := 0) (by omega)

set_option maxRecDepth 100000 in
set_option maxHeartbeats 1600000 in
theorem right_law (q : Nat) (w : World) :
    Calls Try.prog 5 #[.int .u8 (q : Int)] w fun e w' => e = .returned (.bool true) ∧ But [] w w' := by
  obtain ⟨l, hl⟩ : ∃ l, l = lockL q 6 := ⟨_, rfl⟩
  have hl6 : l.length ≤ 6 := by rw [hl]; exact lockL_len q 6
  have HL := Lib.hid hl
  obtain ⟨N, hN⟩ : ∃ N, N = l.length := ⟨_, rfl⟩
  have HN := Lib.hid hN
  have hN6 : N ≤ 6 := by omega
  have hlocks := fun w => locks_any q w
  rw [← hl, ← hN] at hlocks
  clear hl hN hl6
  go_enter Try.func5, Try.ntmps5
  go_wp2_with fail
  refine (made_any _).mono ?_
  rintro e w1 ⟨B, V, L, P, Q, rfl, hK⟩
  go_wp2_with fail
  refine (gnew_any L _).mono ?_
  rintro e w2 ⟨G, rfl, hG, hle, hb⟩
  have hO2 := hK.one hG hb hle
  clear hK hG hb hle
  go_wp2_with fail
  refine (hlocks _).mono ?_
  rintro e w3 ⟨a, cap, rfl, hR3, -, hb3⟩
  have hO3 := hO2.fresh hb3
  clear hO2 hb3 hlocks
  have hwant := one_want (kap := cap) hO3 hR3.any (by rw [← HN.out]; omega) (Lib.hid (HL.out ▸ first_has q))
  rw [← HN.out] at hwant
  go_wp2_with fail
  refine hwant.mono ?_
  rintro e w4 ⟨rfl, hO4, hb4⟩
  have hR4 := hR3.but hb4 (by obtain ⟨a2, cap2, hg⟩ := hO3.gd 0 (by omega); exact hg.own)
  clear hO3 hR3 hb4 hwant
  have hO4' : One w w4 L P Q B V G (stepped l 0) zeros 0 := hO4
  clear hO4
  go_wp2_with fail
  go_loopw [8] (fun iv wr => ∃ (i : Nat) (vs : List Nat) (c : Nat), i ≤ 2 * N ∧ iv = .int .i64 (i : Int) ∧ One w wr L P Q B V G (stepped l i) vs c ∧ Taking l i vs ∧ RowT wr a cap l) (fun iv _ => 2 * N - (intOf iv).toNat)
  case atStart => exact ⟨0, _, _, Nat.zero_le _, rfl, hO4', Taking.first l, hR4⟩
  case round =>
    clear hO4' hR4
    obtain ⟨i, vs, c, hi, rfl, hO, hT, hR⟩ := hrel
    by_cases hlt : i < 2 * N
    · have hlt' : (i : Int) < 2 * (N : Int) := by omega
      have hs := right_step (q := q) (c := c) (HL.out ▸ hT) (by rw [← HL.out, ← HN.out]; exact hlt)
      rw [← HL.out, ← HN.out] at hs
      have hcnt := ks_count hO
      have hu := u64_succ c
      obtain ⟨b, hb⟩ : ∃ b, b = decide (i + 1 = 2 * N) := ⟨_, rfl⟩
      rw [← hb] at hs
      have t1 : ((i : Int) == 2 * (N : Int) - 1) = b := by
        rw [hb]
        by_cases e : i + 1 = 2 * N
        · rw [decide_eq_true e]; simp; omega
        · rw [decide_eq_false e]; simp; omega
      have t2 : (b != b) = false := by simp
      have t3 : ((up c : Int) != (up c : Int)) = false := by simp
      clear hb hT
      go_wp2_with fail
      refine hcnt.mono ?_
      rintro e w5 ⟨rfl, rfl⟩
      clear hcnt
      go_wp2_with fail
      refine (one_step hO (Lib.hid ⟨hs.1, hs.2.1, hs.2.2.1, rfl, hs.2.2.2.2⟩)).mono ?_
      rintro e w6 ⟨rfl, hO6, hb6⟩
      have hR6 := one_next hO hR hO6 hb6
      have hcnt := ks_count hO6
      have hT6 := hs.2.2.2.1
      clear hO hR hb6 hs
      go_wp2_with fail
      refine hcnt.mono ?_
      rintro e w7 ⟨rfl, rfl⟩
      clear hcnt
      go_wp2_with fail
      go_roundw
      case rel => exact ⟨i + 1, _, _, by omega, by go_num, hO6, hT6, hR6⟩
      case measure => simp [intOf]; omega
    · have hlt' : ¬ (i : Int) < 2 * (N : Int) := by omega
      obtain rfl : i = 2 * N := by omega
      have hG : Giving l N vs := by have := hT; rw [HN.out] at this ⊢; exact this.done
      have hOh : One w wr L P Q B V G (had l N) vs c := by have := hO; rw [HN.out, had_all, ← HN.out] at this; exact this
      have hnone := right_none (l := l) (vs := vs) (c := c)
      rw [← HN.out] at hnone
      clear hT hO hlt hi
      go_wp2_with fail
      refine (one_step hOh (Lib.hid hnone)).mono ?_
      rintro e w5 ⟨rfl, hO5, hb5⟩
      have hR5 := one_next hOh hR hO5 hb5
      have hheld := one_held hO5
      rw [show (had l N).l.take (had l N).h = l by show (l.take N).take N = l; rw [HN.out, List.take_length, List.take_length], show (had l N).h = N from rfl] at hheld
      clear hOh hR hb5 hnone
      go_wp2_with fail
      refine hheld.mono ?_
      rintro e w6 ⟨a6, cap6, rfl, hR6, hb6⟩
      have hO6 := hO5.fresh hb6
      have hR6' := hR5.but hb6 (NotInts.nil _)
      have hsame := same_eq cap6 cap w6 hR6.any hR6'.any (by rw [← HN.out]; omega)
      rw [← HN.out] at hsame
      clear hO5 hR5 hb6 hheld hR6
      go_wp2_with fail
      refine hsame.mono ?_
      rintro e w7 ⟨rfl, m7, rfl⟩
      have hO7 := hO6.drewN m7
      have hR7 := hR6'.drewN m7
      clear hO6 hR6' hsame
      go_wp2_with fail
      generalize World.drewN w6 m7 = wo at hO7 hR7 ⊢
      go_loopw [14] (fun iv wr => ∃ (r : Nat) (vs : List Nat) (c : Nat), r ≤ N ∧ iv = .int .i64 ((r : Int) - 1) ∧ One w wr L P Q B V G (had l r) vs c ∧ Giving l r vs ∧ RowT wr a cap l) (fun iv _ => (intOf iv + 1).toNat)
      case atStart => exact ⟨N, vs, c, Nat.le_refl _, rfl, hO7, hG, hR7⟩
      case round =>
        clear hO7 hR7 hG
        obtain ⟨r, vs, c, hr, rfl, hO, hG, hR⟩ := hrel
        cases r with
        | zero =>
          have hB := hO.but
          have hall := one_all hO (b := true) (Lib.hid rfl)
          clear hO hG hR
          go_wp2_with fail
          refine hall.mono ?_
          rintro e wx ⟨rfl, mx, rfl⟩
          have hB2 := hB.drewN mx
          clear hall hB
          go_wp2_with fail
          refine (alive_any _).mono ?_
          rintro e wz ⟨rfl, hbz⟩
          have hB3 := hB2.next hbz
          clear hB2 hbz
          go_wp2_with fail
          go_ret
          exact ⟨rfl, hB3⟩
        | succ r =>
          have ej : ((r + 1 : Nat) : Int) - 1 = (r : Int) := by omega
          rw [ej]
          clear ej
          have q0 : (0 : Int) ≤ (r : Int) := by omega
          have q1 : (r : Int) < (N : Int) := by omega
          obtain ⟨b, off, cs, z, rfl, -, hrow⟩ := hR.row (by rw [← HN.out]; omega)
          have hcr := hrow r (by rw [← HN.out]; omega)
          have hs := right_give (q := q) (c := c) (r := r) (HL.out ▸ hG) (by rw [← HL.out, ← HN.out]; omega)
          rw [← HL.out] at hs
          have hf1 := one_free (atI l r) hO (Lib.hid hs.2.2.2.2.2.1)
          obtain ⟨x, hx⟩ : ∃ x, x = atI l r := ⟨_, rfl⟩
          have HX := Lib.hid hx
          rw [← hx] at hcr hf1
          clear hx hrow hG
          go_wp2_with fail
          refine hf1.mono ?_
          rintro e wx ⟨rfl, mx, rfl⟩
          have hOx := hO.drewN mx
          have hRx := hR.drewN mx
          clear hf1 hO hR
          go_wp2_with fail
          refine (one_give hOx (Lib.hid ⟨hs.1, hs.2.1, hs.2.2.1, rfl, hs.2.2.2.2.1⟩)).mono ?_
          rintro e wy ⟨rfl, hOy, hby⟩
          have hRy := one_next hOx hRx hOy hby
          have hf2 := one_free (atI l r) hOy (Lib.hid hs.2.2.2.2.2.2)
          obtain ⟨b', off', cs', z', he, -, hrow⟩ := hRy.row (by rw [← HN.out]; omega)
          simp only [Option.some.injEq, Addr.mk.injEq, and_true] at he
          obtain ⟨rfl, rfl⟩ := he
          have hcr2 := hrow r (by rw [← HN.out]; omega)
          rw [← HX.out] at hcr2 hf2
          have hGy := hs.2.2.2.1
          have t1 : ((r : Int) != (r : Int)) = false := by simp
          clear hrow hOx hRx hby hs hcr
          go_wp2_with fail
          refine hf2.mono ?_
          rintro e wv ⟨rfl, mv, rfl⟩
          have hOv := hOy.drewN mv
          have hRv := hRy.drewN mv
          clear hf2 hOy hRy
          go_wp2_with fail
          go_roundw
          case rel => exact ⟨r, _, _, by omega, by go_num, hOv, hGy, hRv⟩
          case measure => simp [intOf]
theorem right_walk (q : Nat) (w : World) : Calls Try.prog 5 #[.int .u8 (q : Int)] w fun e w' => e = .returned (.bool true) ∧ Below w.heap.size w w' :=
  (right_law q w).mono fun _ _ h => ⟨h.1, h.2.below (Nat.le_refl _) (by simp)⟩
end Go.Proofs.Ytbjfongjdlankaa
