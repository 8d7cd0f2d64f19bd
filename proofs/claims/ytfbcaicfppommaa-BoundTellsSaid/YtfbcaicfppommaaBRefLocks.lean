/-
  The walk of the document's Locks.
-/
import Derived.Test.YtfbcaicfppommaaBOf
import Derived.Test.YtfbcaicfppommaaBRound
namespace Go.Proofs.Ytfbcaicfppommaa
open Go.RowKit

theorem infoU : (Try.prog.info? 25).map (fun i => (i.zero, i.size, i.bytes)) = some (some (.int .u64 0), 1, 8) := by kernel_rfl
/-- Block V is a row of these numbers, and no more. -/
abbrev ArrU (W : World) (V : Nat) (xs : List Nat) : Prop := Blk W V 25 (U64 xs).toArray
theorem ArrU.made {W : World} {base m : Nat} (h : W.ownsRow base 25 1 (.slice (some ⟨base, 0, none⟩) m m) m (madeCells (Value.int .u64 0).cells (m * 1)).toList) : ArrU W base (List.replicate m 0) := by
  rcases h.2 with ⟨h0, _⟩ | ⟨g, cap, cur, he, _, hg, _, _, hs, ht⟩
  · cases h0
  · simp only [Value.slice.injEq, Option.some.injEq, Addr.mk.injEq] at he
    obtain ⟨⟨rfl, -, -⟩, -, rfl⟩ := he
    refine (show W.heap[base]? = _ from hg).trans ?_
    have e : cur.toList = U64 (List.replicate m 0) := by
      rw [Nat.mul_one] at hs ht
      rw [List.take_of_length_le (by simp [hs])] at ht
      rw [ht]
      apply List.ext_getElem?
      intro j
      by_cases hj : j < m
      · simp [madeCells, U64, Value.cells, hj]
        rw [show j % 1 = 0 by omega]; rfl
      · rw [List.getElem?_eq_none (by simp [madeCells]; omega), List.getElem?_eq_none (by simp [U64]; omega)]
    rw [show cur = cur.toList.toArray by simp, e]
theorem ArrU.put {W : World} {V : Nat} {xs : List Nat} (h : ArrU W V xs) (k : Nat) (x : Nat) : ArrU (W.setCell ⟨V, k, none⟩ (.int .u64 (x : Int))) V (xs.set k x) := by
  refine (heap_set_same _ h).trans ?_
  rw [List.setIfInBounds_toArray]
  simp [U64, List.map_set]
theorem ArrU.at {W : World} {V : Nat} {xs : List Nat} (h : ArrU W V xs) {k : Nat} (hk : k < xs.length) : W.cell? ⟨V, k, none⟩ = some (.int .u64 (xs[k]?.getD 0 : Nat)) := by
  refine Blk.cell h ?_
  simp [U64, List.getElem?_map, List.getElem?_eq_getElem hk]

/-- The first c of the numbers that f tells. -/
def rowF (c : Nat) (f : Nat → Nat) : List Nat := (List.range c).map f
theorem rowF_len (c : Nat) (f : Nat → Nat) : (rowF c f).length = c := by simp [rowF]
theorem rowF_at (c : Nat) (f : Nat → Nat) {j : Nat} (hj : j < c) : (rowF c f)[j]?.getD 0 = f j := by
  rw [rowF, List.getElem?_map, List.getElem?_range hj]; rfl
theorem rowF_zero (c : Nat) : List.replicate c 0 = rowF c (fun _ => 0) := by
  apply List.ext_getElem?
  intro j
  by_cases hj : j < c
  · rw [rowF, List.getElem?_map, List.getElem?_range hj, List.getElem?_replicate_of_lt hj]; rfl
  · rw [List.getElem?_eq_none (by simp; omega), List.getElem?_eq_none (by rw [rowF_len]; omega)]
theorem rowF_set (c : Nat) (f : Nat → Nat) (i x : Nat) : (rowF c f).set i x = rowF c (fun j => if j = i then x else f j) := by
  apply List.ext_getElem?
  intro j
  by_cases hj : j < c
  · by_cases e : j = i
    · subst e
      rw [List.getElem?_set_self (by rw [rowF_len]; exact hj), rowF, List.getElem?_map, List.getElem?_range hj, Option.map_some, if_pos rfl]
    · rw [List.getElem?_set_ne (by omega), rowF, rowF, List.getElem?_map, List.getElem?_map, List.getElem?_range hj, Option.map_some, Option.map_some, if_neg e]
  · rw [List.getElem?_eq_none (by rw [List.length_set, rowF_len]; omega), List.getElem?_eq_none (by rw [rowF_len]; omega)]

set_option maxHeartbeats 1600000 in
theorem rlocks_any {w p t c n q : Nat} (h : Sm w p t c n q) (W : World) :
    Calls Try.prog 20 #[(szN w p t c n q).val] W fun e W' => ∃ V, e = .returned (.slice (some ⟨V, 0, none⟩) c c) ∧ ArrU W' V (rowF c (lockF p (hN t n) c c)) ∧ W.heap.size ≤ V ∧ But [] W W' := by
  obtain ⟨i0, hi, hz0, hz1, hz2⟩ := info_parts infoU
  have hZ := szAt_new W (szN w p t c n q)
  have hB : But [] W (W.alloc (szO (szN w p t c n q))) := (But.refl _ _).alloc _
  have hH := fun W => rhold_any h W
  have ep : IntKind.u64.wrap (p : Int) = (p : Int) := wrap_nat (by have := h.p2; omega)
  have hp := h.p2
  have hc := h.c2
  have hhN := hN_le h.t2 h.n2
  unfold szO at hZ hB
  unfold Sz.val at hH ⊢
  simp only [szN] at hZ hB hH ⊢
  generalize hN t n = hh at hH hhN ⊢
  clear h
  go_enter Try.func20, Try.ntmps20
  have cC : (W.alloc (.cells #[.int .i64 (w : Int), .int .i64 (p : Int), .int .i64 (t : Int), .int .i64 (c : Int), .int .i64 (n : Int), .int .i64 (q : Int)] 23)).cell? ⟨W.heap.size, 3, none⟩ = some (.int .i64 (c : Int)) := hZ.cC
  go_wp2_with (at_make; refine wpList_make_full _ rfl _ _ 36 rfl _ 25 i0 (.int .u64 0) 1 Try.underlying36 hi hz0 hz1 .i64 .i64 _ _ c rfl rfl rfl rfl (by rw [hz2]; omega) (by unfold maxLen; omega) (Nat.le_refl _) ?_; intro w4 hown hgrow; have hA := ArrU.made hown; have hg := But.of_none hgrow []; have hZ := hZ.next hg; have hB := hB.next hg; clear hown hgrow hg hi hz0 hz1 hz2 cC; have cC : w4.cell? ⟨W.heap.size, 3, none⟩ = some (.int .i64 (c : Int)) := hZ.cC)
  rw [World.size_alloc] at hA
  obtain ⟨B, hBB⟩ : ∃ B, B = W.heap.size := ⟨_, rfl⟩
  rw [← hBB] at hZ hA cC ⊢
  obtain ⟨V, hV⟩ : ∃ V, V = B + 1 := ⟨_, rfl⟩
  rw [← hV] at hA ⊢
  have HV : Hid (W.heap.size ≤ V) := Lib.hid (by omega)
  have HVB : Hid (B ≠ V) := Lib.hid (by omega)
  clear hBB hV cC
  rw [rowF_zero, ← lockF_none p hh c] at hA
  go_loopw [4, 5] (fun av iv wr => ∃ k : Nat, k ≤ c ∧ av = .int .u64 (lid (beh p hh k) : Int) ∧ iv = .int .i64 ((c : Int) - 1 - (k : Int)) ∧ ArrU wr V (rowF c (lockF p hh c k)) ∧ SzAt wr B (szN w p t c n q) ∧ But [] W wr) (fun _ iv _ => (intOf iv + 1).toNat)
  case atStart => exact ⟨0, Nat.zero_le _, rfl, by go_num, hA, hZ, hB⟩
  case round =>
    clear hA hB hZ
    obtain ⟨k, hk, rfl, rfl, hA, hZ, hBr⟩ := hrel
    by_cases hlt : k < c
    · obtain ⟨j, hj⟩ : ∃ j : Nat, j + k + 1 = c := ⟨c - k - 1, by omega⟩
      have ej : (c : Int) - 1 - (k : Int) = (j : Int) := by omega
      rw [ej]
      have HJ := Lib.hid hj
      have hjc : (j : Int) < (c : Int) := by omega
      have j0 : (0 : Int) ≤ (j : Int) := by omega
      have HF := Lib.hid (lockF_next (p := p) (h := hh) hj)
      have hjc' : j < c := by omega
      have hcj := ArrU.at hA (k := j) (by rw [rowF_len]; exact hjc')
      have hfz := Blk.frozen hA j
      clear ej hj
      have HC := Lib.hid hlt
      clear hlt
      obtain ⟨cW, cP, cT, cC, cN, cQ⟩ := hZ.cells
      simp only [szN] at cW cP cT cC cN cQ
      go_wp2_with fail
      obtain ⟨x0, hx0⟩ : ∃ x0 : Nat, x0 = (rowF c (lockF p hh c k))[j]?.getD 0 := ⟨_, rfl⟩
      rw [← hx0] at hcj
      clear hx0
      obtain ⟨a, ha⟩ : ∃ a, a = lid (beh p hh k) := ⟨_, rfl⟩
      have hale : a ≤ 4611686018427387904 := ha ▸ lid_le _
      rw [← ha]
      have hadd := fun w => add_any hh a w (by omega) hale
      obtain ⟨b, hb⟩ : ∃ b, b = lid (hh + a) := ⟨_, rfl⟩
      have hble : b ≤ 4611686018427387904 := hb ▸ lid_le _
      rw [← hb] at hadd
      have hmul := fun w => mul_any p b w (by omega)
      obtain ⟨l, hl⟩ : ∃ l, l = lid (p * b) := ⟨_, rfl⟩
      rw [← hl] at hmul
      have HL : Hid (l = lid (lkN p hh k)) := Lib.hid (by rw [hl, hb, ha, lid_mul', ← lid_mul', lid_add', lid_mul']; rfl)
      have HAa := Lib.hid ha
      clear ha hb hl
      have hBV : B ∉ [V] := by simpa using HVB.out
      go_region_held3 (fun w' => w'.cell? ⟨B, 0, none⟩ = some (.int .i64 (w : Int)) ∧ w'.cell? ⟨B, 1, none⟩ = some (.int .i64 (p : Int)) ∧ w'.cell? ⟨B, 2, none⟩ = some (.int .i64 (t : Int)) ∧ w'.cell? ⟨B, 3, none⟩ = some (.int .i64 (c : Int)) ∧ w'.cell? ⟨B, 4, none⟩ = some (.int .i64 (n : Int)) ∧ w'.cell? ⟨B, 5, none⟩ = some (.int .i64 (q : Int)))
        (refine ⟨?_, ?_, ?_, ?_, ?_, ?_⟩ <;> first | assumption | (exact hb1.cell cW (by simp)) | (exact hb1.cell cP (by simp)) | (exact hb1.cell cT (by simp)) | (exact hb1.cell cC (by simp)) | (exact hb1.cell cN (by simp)) | (exact hb1.cell cQ (by simp)) | (exact ((But.refl [V] _).set (.inl (List.mem_singleton.2 rfl)) _).cell (hb1.cell cW (by simp)) hBV) | (exact ((But.refl [V] _).set (.inl (List.mem_singleton.2 rfl)) _).cell (hb1.cell cP (by simp)) hBV) | (exact ((But.refl [V] _).set (.inl (List.mem_singleton.2 rfl)) _).cell (hb1.cell cT (by simp)) hBV) | (exact ((But.refl [V] _).set (.inl (List.mem_singleton.2 rfl)) _).cell (hb1.cell cC (by simp)) hBV) | (exact ((But.refl [V] _).set (.inl (List.mem_singleton.2 rfl)) _).cell (hb1.cell cN (by simp)) hBV) | (exact ((But.refl [V] _).set (.inl (List.mem_singleton.2 rfl)) _).cell (hb1.cell cQ (by simp)) hBV))
        ((first
          | (go_at_call 19; refine (hH _).mono ?_; rintro e w1 ⟨rfl, hb1⟩; have hA1 := Blk.next (show Blk wr.drew V _ _ from hA) hb1; have hf1 := Blk.frozen hA1 j; have hc1 := hb1.cell hcj (by simp))
          | (go_at_call 29; refine (hadd _).mono ?_; rintro e w2 ⟨rfl, rfl⟩)
          | (go_at_call 30; refine (hmul _).mono ?_; rintro e w3 ⟨rfl, rfl⟩)))
      have hll : l ≤ 4611686018427387904 := by rw [HL.out]; exact lid_le _
      have hZ2 := (hZ.next ((But.refl [] wr).drew.next hb1)).but ((But.refl [V] w3).set (.inl (List.mem_singleton.2 rfl)) (.int .u64 (l : Int)) : But [V] w3 (w3.setCell ⟨V, j, none⟩ _)) hBV
      have hB2 := (hBr.drew.next hb1).set (p := ⟨V, j, none⟩) (.inr HV.out) (.int .u64 (l : Int))
      have hA2 := ArrU.put hA1 j l
      rw [HL.out, rowF_set, HF.out, ← HL.out] at hA2
      have hc2 := ArrU.at hA2 (k := j) (by rw [rowF_len]; exact hjc')
      rw [rowF_at _ _ hjc', ← HF.out] at hc2
      simp only [if_true] at hc2
      rw [← HL.out] at hc2
      have HE : Hid (lid (a + lid (l + 2)) = lid (beh p hh (k + 1))) := Lib.hid (by
        have h := beh_eq p hh k
        rw [← HAa.out, ← HL.out] at h
        rw [lid_add', ← h]; rfl)
      have HZ2 := Lib.hid hZ2
      have HB2 := Lib.hid hB2
      have HA2 := Lib.hid hA2
      have ha1 := fun w => add_any l 2 w hll (by omega)
      have ha2 := fun w => add_any a (lid (l + 2)) w hale (lid_le _)
      rw [HE.out] at ha2
      clear hZ hZ2 hB2 hA2 hA hA1 hBr hb1 hc1 hf1 hfz hcj cW cP cT cC cN cQ HL HF hadd hmul HAa
      go_wp2_with fail
      refine (ha1 _).mono ?_
      rintro e w5 ⟨rfl, rfl⟩
      go_wp2_with fail
      refine (ha2 _).mono ?_
      rintro e w6 ⟨rfl, rfl⟩
      clear ha1 ha2 hc2 HE
      go_wp2_with fail
      go_roundw
      case rel =>
        have hj := HJ.out
        exact ⟨k + 1, by have := HC.out; omega, rfl, by first | (go_num; done) | (simp; omega) | (congr 1; omega), HA2.out, HZ2.out, HB2.out⟩
      case measure => have := HJ.out; simp [intOf]
    · have hBr' := hBr
      obtain rfl : k = c := by omega
      have hN : ¬ (0 : Int) ≤ (k : Int) - 1 - (k : Int) := by omega
      have HA := Lib.hid hA
      clear hA hZ
      go_wp2_with fail
      go_ret
      exact ⟨V, rfl, HA.out, HV.out, hBr'⟩
end Go.Proofs.Ytfbcaicfppommaa
