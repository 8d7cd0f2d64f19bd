/-
  The walk of the document's Of.
-/
import Derived.Test.YtfbcaicfppommaaBRefLocks
namespace Go.Proofs.Ytfbcaicfppommaa
open Go.RowKit

/-- What the first i channels come to, of c. -/
def fore (p h c i : Nat) : Nat := beh p h c - beh p h (c - i)
theorem fore_zero (p h c : Nat) : fore p h c 0 = 0 := by unfold fore; simp
theorem fore_all (p h c : Nat) : fore p h c c = beh p h c := by unfold fore; rw [Nat.sub_self]; rfl
theorem fore_next {p h c i : Nat} (hi : i < c) : fore p h c i + (lkN p h (c - 1 - i) + 2) = fore p h c (i + 1) := by
  unfold fore
  have e : c - i = (c - (i + 1)) + 1 := by omega
  have e2 : c - 1 - i = c - (i + 1) := by omega
  have h1 := beh_mono (Nat.le_refl p) (Nat.le_refl h) (Nat.sub_le c i)
  rw [e2]
  rw [e, beh_succ] at h1 ⊢
  omega
theorem fore_lid {p h c i : Nat} (hi : i < c) : lid (lid (fore p h c i) + lid (lid (lkN p h (c - 1 - i)) + 2)) = lid (fore p h c (i + 1)) := by
  rw [lid_add, lid_add', ← Nat.add_assoc, Nat.add_right_comm, lid_add', Nat.add_right_comm, Nat.add_assoc, fore_next hi]
theorem rof_eq (w p t c n q s a b m a2 m2 m3 a3 r : Nat) (hs : s = 4 * p + 4) (ha : a = lid (beh p (hN t n) c)) (hb : b = lid (a + hN t n)) (hm : m = lid ((t + 2) * s)) (ha2 : a2 = lid (b + m)) (hm2 : m2 = lid (w * (t + 1)))
    (hm3 : m3 = lid ((q + 2) * a2)) (ha3 : a3 = lid (m3 + 4 * s)) (hr : r = lid (m2 * a3)) : r = lid (ofN w p t c n q) := by
  rw [ha, lid_add] at hb
  rw [hb, hm, lid_add, lid_add'] at ha2
  rw [ha2, lid_mul'] at hm3
  rw [hm3, lid_add] at ha3
  rw [hr, hm2, ha3, lid_mul, lid_mul', hs]; rfl

set_option maxHeartbeats 1600000 in
theorem rof_any {w p t c n q : Nat} (h : Sm w p t c n q) (W : World) :
    Calls Try.prog 18 #[(szN w p t c n q).val] W fun e W' => e = .returned (.int .u64 (lid (ofN w p t c n q) : Int)) ∧ But [] W W' := by
  have hZ := szAt_new W (szN w p t c n q)
  have hB : But [] W (W.alloc (szO (szN w p t c n q))) := (But.refl _ _).alloc _
  have hH := fun W => rhold_any h W
  have hL := fun W => rlocks_any h W
  have HE := Lib.hid (rof_eq w p t c n q)
  have hw := h.w2
  have hp := h.p2
  have ht := h.t2
  have hc := h.c2
  have hq := h.q2
  have hhN := hN_le h.t2 h.n2
  unfold szO at hZ hB
  unfold Sz.val at hH hL ⊢
  simp only [szN] at hZ hB hH hL ⊢
  generalize hN t n = hh at hH hL hhN HE
  clear h
  go_enter Try.func18, Try.ntmps18
  obtain ⟨cW, cP, cT, cC, cN, cQ⟩ := hZ.cells
  go_wp2_with fail
  refine (hL _).mono ?_
  rintro e w1 ⟨V, rfl, hA, hVl, hb1⟩
  have hB := hB.next hb1
  have hZ := hZ.next hb1
  obtain ⟨B, hBB⟩ : ∃ B, B = W.heap.size := ⟨_, rfl⟩
  rw [← hBB] at hZ ⊢
  clear hBB hVl hb1 hL cW cP cT cC cN cQ
  go_wp2_with fail
  go_loop [4, 6] (fun av iv => ∃ i : Nat, i ≤ c ∧ av = .int .u64 (lid (fore p hh c i) : Int) ∧ iv = .int .i64 (i : Int)) (fun _ iv => c - (intOf iv).toNat)
  case atStart => exact ⟨0, Nat.zero_le _, by rw [fore_zero]; rfl, rfl⟩
  case round =>
    obtain ⟨i, hi, rfl, rfl⟩ := hrel
    by_cases hlt : i < c
    · have hlt' : (i : Int) < (c : Int) := by omega
      have i0 : (0 : Int) ≤ (i : Int) := by omega
      have hci := ArrU.at hA (k := i) (by rw [rowF_len]; exact hlt)
      rw [rowF_at _ _ hlt, show lockF p hh c c i = lid (lkN p hh (c - 1 - i)) by unfold lockF; rw [if_pos (by omega)]] at hci
      have HN := Lib.hid (fore_lid (p := p) (h := hh) hlt)
      obtain ⟨l, hl⟩ : ∃ l, l = lid (lkN p hh (c - 1 - i)) := ⟨_, rfl⟩
      have hll : l ≤ 4611686018427387904 := hl ▸ lid_le _
      rw [← hl] at hci HN
      clear hl
      have ha1 := add_any l 2 w1 hll (by omega)
      have ha2 := add_any (lid (fore p hh c i)) (lid (l + 2)) w1 (lid_le _) (lid_le _)
      rw [HN.out] at ha2
      have H := Lib.hid hlt
      clear HN hlt
      go_wp2_with fail
      refine ha1.mono ?_
      rintro e w2 ⟨rfl, rfl⟩
      go_wp2_with fail
      refine ha2.mono ?_
      rintro e w3 ⟨rfl, rfl⟩
      clear ha1 ha2
      go_wp2_with fail
      go_round
      case rel => exact ⟨i + 1, by have := H.out; omega, rfl, by go_num⟩
      case measure => have := H.out; simp [intOf]; omega
    · have hBr := hB
      have hiC : i = c := by omega
      rw [hiC, fore_all]
      clear hA hlt hi hiC
      obtain ⟨a, ha⟩ : ∃ a, a = lid (beh p hh c) := ⟨_, rfl⟩
      have hal : a ≤ 4611686018427387904 := ha ▸ lid_le _
      rw [← ha]
      have hlt' : ¬ (c : Int) < (c : Int) := by omega
      obtain ⟨cW, cP, cT, cC, cN, cQ⟩ := hZ.cells
      simp only at cW cP cT cC cN cQ
      have hadd1 := fun w => add_any a hh w hal (by omega)
      obtain ⟨b, hb⟩ : ∃ b, b = lid (a + hh) := ⟨_, rfl⟩
      have hbl : b ≤ 4611686018427387904 := hb ▸ lid_le _
      rw [← hb] at hadd1
      have hmul1 := fun w => mul_any (t + 2) (4 * p + 4) w (by omega)
      obtain ⟨m, hm⟩ : ∃ m, m = lid ((t + 2) * (4 * p + 4)) := ⟨_, rfl⟩
      have hml : m ≤ 4611686018427387904 := hm ▸ lid_le _
      rw [← hm] at hmul1
      have hadd2 := fun w => add_any b m w hbl hml
      obtain ⟨a2, ha2⟩ : ∃ a2, a2 = lid (b + m) := ⟨_, rfl⟩
      have ha2l : a2 ≤ 4611686018427387904 := ha2 ▸ lid_le _
      rw [← ha2] at hadd2
      have hmul2 := fun w' => mul_any w (t + 1) w' (by omega)
      obtain ⟨m2, hm2⟩ : ∃ m2, m2 = lid (w * (t + 1)) := ⟨_, rfl⟩
      have hm2l : m2 ≤ 4611686018427387904 := hm2 ▸ lid_le _
      rw [← hm2] at hmul2
      have hmul3 := fun w' => mul_any (q + 2) a2 w' (by omega)
      obtain ⟨m3, hm3⟩ : ∃ m3, m3 = lid ((q + 2) * a2) := ⟨_, rfl⟩
      have hm3l : m3 ≤ 4611686018427387904 := hm3 ▸ lid_le _
      rw [← hm3] at hmul3
      have hadd3 := fun w' => add_any m3 (4 * (4 * p + 4)) w' hm3l (by omega)
      obtain ⟨a3, ha3⟩ : ∃ a3, a3 = lid (m3 + 4 * (4 * p + 4)) := ⟨_, rfl⟩
      have ha3l : a3 ≤ 4611686018427387904 := ha3 ▸ lid_le _
      rw [← ha3] at hadd3
      have hmul4 := fun w' => mul_any m2 a3 w' (by omega)
      obtain ⟨r, hr⟩ : ∃ r, r = lid (m2 * a3) := ⟨_, rfl⟩
      rw [← hr] at hmul4
      have hadd1 : ∀ w', Calls Try.prog 29 #[.int .u64 ((a : Int)), .int .u64 ((hh : Int))] w' fun e w'' => e = .returned (.int .u64 (b : Int)) ∧ w'' = w' := hadd1
      have hmul1 : ∀ w', Calls Try.prog 30 #[.int .u64 ((t : Int) + 2), .int .u64 (4 * (p : Int) + 4)] w' fun e w'' => e = .returned (.int .u64 (m : Int)) ∧ w'' = w' := hmul1
      have hadd2 : ∀ w', Calls Try.prog 29 #[.int .u64 ((b : Int)), .int .u64 ((m : Int))] w' fun e w'' => e = .returned (.int .u64 (a2 : Int)) ∧ w'' = w' := hadd2
      have hmul2 : ∀ w', Calls Try.prog 30 #[.int .u64 ((w : Int)), .int .u64 ((t : Int) + 1)] w' fun e w'' => e = .returned (.int .u64 (m2 : Int)) ∧ w'' = w' := hmul2
      have hmul3 : ∀ w', Calls Try.prog 30 #[.int .u64 ((q : Int) + 2), .int .u64 ((a2 : Int))] w' fun e w'' => e = .returned (.int .u64 (m3 : Int)) ∧ w'' = w' := hmul3
      have hadd3 : ∀ w', Calls Try.prog 29 #[.int .u64 ((m3 : Int)), .int .u64 (4 * (4 * (p : Int) + 4))] w' fun e w'' => e = .returned (.int .u64 (a3 : Int)) ∧ w'' = w' := hadd3
      have hmul4 : ∀ w', Calls Try.prog 30 #[.int .u64 ((m2 : Int)), .int .u64 ((a3 : Int))] w' fun e w'' => e = .returned (.int .u64 (r : Int)) ∧ w'' = w' := hmul4
      have ew : IntKind.u64.wrap (w : Int) = (w : Int) := wrap_nat (by omega)
      have et2 : IntKind.i64.wrap ((t : Int) + 2) = (t : Int) + 2 := IntWalk.i64_in _ (by omega)
      have et1 : IntKind.i64.wrap ((t : Int) + 1) = (t : Int) + 1 := IntWalk.i64_in _ (by omega)
      have eq2 : IntKind.i64.wrap ((q : Int) + 2) = (q : Int) + 2 := IntWalk.i64_in _ (by omega)
      have ut2 : IntKind.u64.wrap ((t : Int) + 2) = (t : Int) + 2 := wrap_nat (n := t + 2) (by omega)
      have ut1 : IntKind.u64.wrap ((t : Int) + 1) = (t : Int) + 1 := wrap_nat (n := t + 1) (by omega)
      have uq2 : IntKind.u64.wrap ((q : Int) + 2) = (q : Int) + 2 := wrap_nat (n := q + 2) (by omega)
      have us : IntKind.u64.wrap (4 * (4 * (p : Int) + 4)) = 4 * (4 * (p : Int) + 4) := wrap_nat (n := 4 * (4 * p + 4)) (by omega)
      have HR := Lib.hid (HE.out _ _ _ _ _ _ _ _ _ rfl ha hb hm ha2 hm2 hm3 ha3 hr)
      clear ha hb hm ha2 hm2 hm3 ha3 hr HE
      go_wp2_with fail
      go_region_held3 (fun w' => w'.cell? ⟨B, 0, none⟩ = some (.int .i64 (w : Int)) ∧ w'.cell? ⟨B, 1, none⟩ = some (.int .i64 (p : Int)) ∧ w'.cell? ⟨B, 2, none⟩ = some (.int .i64 (t : Int)) ∧ w'.cell? ⟨B, 3, none⟩ = some (.int .i64 (c : Int)) ∧ w'.cell? ⟨B, 4, none⟩ = some (.int .i64 (n : Int)) ∧ w'.cell? ⟨B, 5, none⟩ = some (.int .i64 (q : Int)))
        (refine ⟨?_, ?_, ?_, ?_, ?_, ?_⟩ <;> first | assumption | (exact hb1.cell cW (by simp)) | (exact hb1.cell cP (by simp)) | (exact hb1.cell cT (by simp)) | (exact hb1.cell cC (by simp)) | (exact hb1.cell cN (by simp)) | (exact hb1.cell cQ (by simp)))
        ((first
          | (go_at_call 19; with_reducible refine (hH _).mono ?_; rintro e w1 ⟨rfl, hb1⟩)
          | (go_at_call 29; with_reducible refine (hadd1 _).mono ?_; rintro e w2 ⟨rfl, rfl⟩)
          | (go_at_call 29; with_reducible refine (hadd2 _).mono ?_; rintro e w2 ⟨rfl, rfl⟩)
          | (go_at_call 30; with_reducible refine (hmul1 _).mono ?_; rintro e w3 ⟨rfl, rfl⟩)))
      have hg := (But.refl [] w1).drew.next hb1
      have hB2 := hBr.next hg
      obtain ⟨cW, cP, cT, cC, cN, cQ⟩ := (hZ.next hg).cells
      simp only at cW cP cT cC cN cQ
      clear hZ hb1 hg hadd1 hmul1 hadd2 hH hB
      go_wp2_with fail
      go_region_held3 (fun w' => w'.cell? ⟨B, 0, none⟩ = some (.int .i64 (w : Int)) ∧ w'.cell? ⟨B, 1, none⟩ = some (.int .i64 (p : Int)) ∧ w'.cell? ⟨B, 2, none⟩ = some (.int .i64 (t : Int)) ∧ w'.cell? ⟨B, 3, none⟩ = some (.int .i64 (c : Int)) ∧ w'.cell? ⟨B, 4, none⟩ = some (.int .i64 (n : Int)) ∧ w'.cell? ⟨B, 5, none⟩ = some (.int .i64 (q : Int)))
        (refine ⟨?_, ?_, ?_, ?_, ?_, ?_⟩ <;> first | assumption)
        ((first
          | (go_at_call 30; with_reducible refine (hmul2 _).mono ?_; rintro e w5 ⟨rfl, rfl⟩)
          | (go_at_call 30; with_reducible refine (hmul3 _).mono ?_; rintro e w5 ⟨rfl, rfl⟩)
          | (go_at_call 29; with_reducible refine (hadd3 _).mono ?_; rintro e w5 ⟨rfl, rfl⟩)
          | (go_at_call 30; with_reducible refine (hmul4 _).mono ?_; rintro e w5 ⟨rfl, rfl⟩)))
      all_goals go_wp2_with fail
      all_goals go_ret
      all_goals exact ⟨ret_u64 (by rw [HR.out]), hB2.drew⟩
end Go.Proofs.Ytfbcaicfppommaa
