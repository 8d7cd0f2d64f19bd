/-
  The walk of the laws' locks: those of six whose bits are on, rising.
-/
import Derived.Maps.AppendAt
import Derived.Test.YtbjfongjdlankaaUOne
namespace Go.Proofs.Ytbjfongjdlankaa
open Go.RowKit

/-- Is bit k on? -/
def bitOn (q k : Nat) : Bool := decide (q / 2 ^ k % 2 = 1)
/-- Those below k whose bits are on. -/
def lockN (q k : Nat) : List Nat := (List.range k).filter (bitOn q)
def lockL (q k : Nat) : List Int := (lockN q k).map Int.ofNat
theorem lockN_yes {q k : Nat} (h : bitOn q k = true) : lockN q (k + 1) = lockN q k ++ [k] := by simp [lockN, List.range_succ, h]
theorem lockN_no {q k : Nat} (h : bitOn q k = false) : lockN q (k + 1) = lockN q k := by simp [lockN, List.range_succ, h]
theorem lockL_yes {q k : Nat} (h : bitOn q k = true) : lockL q (k + 1) = lockL q k ++ [(k : Int)] := by simp [lockL, lockN_yes h]
theorem lockL_no {q k : Nat} (h : bitOn q k = false) : lockL q (k + 1) = lockL q k := by simp [lockL, lockN_no h]
theorem lockN_len (q k : Nat) : (lockN q k).length ≤ k := Nat.le_trans (List.length_filter_le _ _) (by simp)
theorem lockL_len (q k : Nat) : (lockL q k).length ≤ k := by rw [lockL, List.length_map]; exact lockN_len q k
theorem lockN_rise (q k : Nat) : (lockN q k).Pairwise (· < ·) := List.Pairwise.filter _ List.pairwise_lt_range
theorem lockL_rise (q k : Nat) : (lockL q k).Pairwise (· < ·) := by
  rw [lockL, List.pairwise_map]; exact (lockN_rise q k).imp (fun h => by simpa using h)
theorem lockL_mem {q k : Nat} {x : Int} (h : x ∈ lockL q k) : 0 ≤ x ∧ x < (k : Int) := by
  rw [lockL, List.mem_map] at h
  obtain ⟨a, ha, rfl⟩ := h
  rw [lockN, List.mem_filter, List.mem_range] at ha
  exact ⟨Int.natCast_nonneg _, by simpa using ha.1⟩
/-- What rises, and is of n, is so told. -/
theorem rises_of {n : Nat} : ∀ (l : List Int) (p : Int), l.Pairwise (· < ·) → (∀ x ∈ l, p < x ∧ x < (n : Int)) → risesFrom n p l = true
  | [], _, _, _ => rfl
  | x :: r, p, h, hm => by
    rw [List.pairwise_cons] at h
    have h0 := hm x (by simp)
    rw [risesFrom, decide_eq_true h0.2, decide_eq_true h0.1, Bool.true_and, Bool.true_and]
    exact rises_of r x h.2 fun y hy => ⟨h.1 y hy, (hm y (by simp [hy])).2⟩
theorem lockL_rises (q : Nat) : rises 6 (lockL q 6) = true := rises_of _ _ (lockL_rise q 6) fun x hx => by have := lockL_mem hx; omega

theorem bit_test {q k : Nat} {b : Bool} (h : bitOn q k = b) : Hid ((((q : Int) / 2 ^ k).tmod 2 == 1) = b) := Lib.hid (by
  have e : (q : Int) / 2 ^ k = ((q / 2 ^ k : Nat) : Int) := by simp
  rw [e, Int.tmod_eq_emod_of_nonneg (Int.natCast_nonneg _), ← h, bitOn]
  by_cases h1 : q / 2 ^ k % 2 = 1
  · rw [decide_eq_true h1]; simp; omega
  · rw [decide_eq_false h1]; simp; omega)

/-- A row of the call's own has grown: all that is older is as it was. -/
theorem but_own {w W W' : World} {n size : Nat} {e : TypeId} {v : Value} {xs : List Value} (h : But [] w W) (ho : W.ownsRow w.heap.size e size v n xs) (hg : W.grownBy W' v.ownBlock) : But [] w W' := by
  cases hv : v.ownBlock with
  | none => rw [hv] at hg; exact h.next (But.of_none hg [])
  | some g =>
    rw [hv] at hg
    exact h.trans (But.of_some (S := [g]) hg (by simp)) (by have := (ho.lt g hv).1; simp; omega)
theorem row_grown {W W' : World} {v : Value} {tmp : Obj} (hg : (W.alloc tmp).grownBy W' v.ownBlock) : W.grownBy W' v.ownBlock := (World.grownBy_alloc W tmp _).trans hg
theorem I64_snoc (xs : List Int) (x : Int) : I64 (xs ++ [x]) = I64 xs ++ [.int .i64 x] := by simp [I64]

set_option maxRecDepth 100000 in
theorem locks_any (q : Nat) (w : World) :
    Calls Try.prog 19 #[.int .u8 (q : Int)] w fun e w' => ∃ a cap, e = .returned (.slice a (lockL q 6).length cap) ∧ RowT w' a cap (lockL q 6) ∧ (lockL q 6 = [] → a = none) ∧ But [] w w' := by
  obtain ⟨i0, hi, hz0, hz1, hz2⟩ := info_parts infoInt
  go_enter Try.func19, Try.ntmps19
  go_wp2_with fail
  go_loopw [3, 4] (fun ov kv wr => ∃ k : Nat, k ≤ 6 ∧ kv = .int .i64 (k : Int) ∧ wr.ownsRow w.heap.size 3 1 ov (lockL q k).length (I64 (lockL q k)) ∧ Hid (lockL q k = [] → ov = .slice none 0 0) ∧ But [] w wr) (fun _ kv _ => 6 - (intOf kv).toNat)
  case atStart => exact ⟨0, by omega, rfl, World.ownsRow_nil _ _ _ _, Lib.hid fun _ => rfl, But.refl _ _⟩
  case round =>
    obtain ⟨k, hk, rfl, hr, hn, hb⟩ := hrel
    by_cases hlt : k < 6
    · have hlt' : (k : Int) < 6 := by omega
      have hbs := hb.size
      cases hq : bitOn q k with
      | true =>
        have ht := (bit_test hq).out
        have HL := Lib.hid (lockL_yes hq)
        have hlen := lockL_len q k
        obtain ⟨xs, hxs⟩ : ∃ xs, xs = lockL q k := ⟨_, rfl⟩
        rw [← hxs] at HL hlen hr
        have hown := hr
        clear hq hn hxs hr
        go_wp2_with (at_builtin; refine wpList_append_own_at _ rfl _ _ 23 rfl w.heap.size 3 i0 (.int .i64 0) 1 8 Try.underlying23 hi hz0 hz1 hz2 rfl (by decide) _ xs.length (I64 xs) rfl (hown.alloc _) ⟨_, 0, none⟩ 1 1 [.int .i64 (k : Int)] rfl rfl ?c1 ?c2 ?c3 ?c4 ?c5 ?_)
        case c1 => exact cell_one_new _ _ _
        case c2 => intro u hu; simp at hu; subst hu; rfl
        case c3 => unfold maxLen; omega
        case c4 => omega
        case c5 => simp; omega
        intro v' wb hown' hgrow hnn _
        have hb' := but_own hb hown (row_grown hgrow)
        have hr' : wb.ownsRow w.heap.size 3 1 v' (lockL q (k + 1)).length (I64 (lockL q (k + 1))) := by rw [HL.out, I64_snoc, List.length_append]; exact hown'
        have hn' : Hid (lockL q (k + 1) = [] → v' = .slice none 0 0) := Lib.hid fun h => by rw [HL.out] at h; simp at h
        clear hb hown hown' hgrow hnn
        go_wp2_with fail
        go_roundw
        case rel => exact ⟨k + 1, by omega, by go_num, hr', hn', hb'⟩
        case measure => simp [intOf]; omega
      | false =>
        have ht := (bit_test hq).out
        have HL := Lib.hid (lockL_no hq)
        clear hq
        go_wp2_with fail
        go_roundw
        case rel => exact ⟨k + 1, by omega, by go_num, by rw [HL.out]; exact hr, by rw [HL.out]; exact hn, hb⟩
        case measure => simp [intOf]; omega
    · have hlt' : ¬ (k : Int) < 6 := by omega
      obtain rfl : k = 6 := by omega
      obtain ⟨a, cap, rfl, hR⟩ := RowT.of_owns hr
      clear hr
      go_wp2_with fail
      go_ret
      exact ⟨_, _, rfl, hR, fun h => by have := hn.out h; simp only [Value.slice.injEq] at this; exact this.1, hb⟩
end Go.Proofs.Ytbjfongjdlankaa
