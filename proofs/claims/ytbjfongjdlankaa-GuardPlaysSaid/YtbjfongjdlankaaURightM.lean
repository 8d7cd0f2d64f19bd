/-
  The walk of tollbarref08.Same of equal rows; what the law GuardRight holds at the head of a round.
-/
import Derived.Test.YtbjfongjdlankaaUGhost
namespace Go.Proofs.Ytbjfongjdlankaa
open Go.RowKit

set_option maxRecDepth 100000 in
theorem same_eq {a b : Option Addr} {xs : List Int} (capa capb : Nat) (w : World) (ha : RowA w a xs) (hb : RowA w b xs) (hl : xs.length ≤ 4096) :
    Calls Try.prog 22 #[.slice a xs.length capa, .slice b xs.length capb] w fun e w' => e = .returned (.bool true) ∧ ∃ m, w' = w.drewN m := by
  have t1 : ((xs.length : Int) != (xs.length : Int)) = false := by simp
  go_enter Try.func22, Try.ntmps22
  go_wp2_with fail
  go_loopw [5] (fun iv wr => ∃ j m : Nat, j ≤ xs.length ∧ iv = .int .i64 (j : Int) ∧ Hid (wr = w.drewN m)) (fun iv _ => xs.length - (intOf iv).toNat)
  case atStart => exact ⟨0, 0, Nat.zero_le _, rfl, Lib.hid rfl⟩
  case round =>
    obtain ⟨j, m, hj, rfl, hw⟩ := hrel
    by_cases hlt : j < xs.length
    · have hlt' : (j : Int) < (xs.length : Int) := by omega
      obtain ⟨b1, o1, rfl, hc1⟩ := ha (by omega)
      obtain ⟨b2, o2, rfl, hc2⟩ := hb (by omega)
      have x1 : wr.cell? ⟨b1, o1 + j, none⟩ = some (.int .i64 (atI xs j)) := by rw [hw.out]; exact hc1 j hlt
      have x2 : wr.cell? ⟨b2, o2 + j, none⟩ = some (.int .i64 (atI xs j)) := by rw [hw.out]; exact hc2 j hlt
      obtain ⟨x, hx⟩ : ∃ x, x = atI xs j := ⟨_, rfl⟩
      rw [← hx] at x1 x2
      have t2 : (x != x) = false := by simp
      clear hx hc1 hc2 ha hb
      go_wp2_with fail
      go_quiet (fail)
      have hn := Lib.hid (show wr.drewN nq = w.drewN (m + nq) by rw [hw.out]; exact drewN_add _ _ _)
      go_wp2_with fail
      go_roundw
      case rel => exact ⟨j + 1, m + nq, by omega, by go_num, hn⟩
      case measure => simp [intOf]; omega
    · have hlt' : ¬ (j : Int) < (xs.length : Int) := by omega
      clear ha hb
      go_wp2_with fail
      go_ret
      exact ⟨rfl, m, hw.out⟩

/-! ### A guard alone -/
/-- Behind i steps. -/
def stepped (l : List Int) (i : Nat) : Gs := ⟨l, i / 2, decide (i % 2 = 1), 0⟩
/-- The locks of l behind i steps: as many are drawn of as were gone for, none has served yet. -/
def Taking (l : List Int) (i : Nat) (vs : List Nat) : Prop := vs.length = 20 ∧ ∀ j k, j < l.length → k < 6 → atI l j = ((k : Nat) : Int) → srv vs k = 0 ∧ nxt vs k = if 2 * j < i then 1 else 0
/-- The locks of l, of which r are not given back yet. -/
def Giving (l : List Int) (r : Nat) (vs : List Nat) : Prop := vs.length = 20 ∧ ∀ j k, j < l.length → k < 6 → atI l j = ((k : Nat) : Int) → nxt vs k = 1 ∧ srv vs k = if j < r then 0 else 1
theorem lock_nat {q j : Nat} (h : j < (lockL q 6).length) : ∃ k, k < 6 ∧ atI (lockL q 6) j = ((k : Nat) : Int) := by
  have := lockL_mem (atI_mem h)
  obtain ⟨k, hk⟩ := Int.eq_ofNat_of_zero_le this.1
  exact ⟨k, by omega, hk⟩
theorem lock_one {q i j : Nat} {x : Int} (hi : i < (lockL q 6).length) (hj : j < (lockL q 6).length) (h1 : atI (lockL q 6) i = x) (h2 : atI (lockL q 6) j = x) : i = j := by
  rw [atI_of hi] at h1
  rw [atI_of hj] at h2
  have hp := List.pairwise_iff_getElem.1 (lockL_rise q 6)
  rcases Nat.lt_trichotomy i j with h | h | h
  · have := hp i j hi hj h; omega
  · exact h
  · have := hp j i hj hi h; omega
theorem Taking.first (l : List Int) : Taking l 0 zeros := ⟨rfl, fun j k _ _ _ => ⟨by unfold srv nth zeros; rw [List.getElem?_replicate]; split <;> rfl, by unfold nxt nth zeros; rw [List.getElem?_replicate]; split <;> simp⟩⟩
theorem right_step {q i c : Nat} {vs : List Nat} (h : Taking (lockL q 6) i vs) (hi : i < 2 * (lockL q 6).length) :
    stepA 4 6 vs (stepped (lockL q 6) i) = decide (i + 1 = 2 * (lockL q 6).length) ∧ stepE (stepped (lockL q 6) i) = 0 ∧ stepS 4 6 vs (stepped (lockL q 6) i) = stepped (lockL q 6) (i + 1) ∧ Taking (lockL q 6) (i + 1) (stepV 4 6 vs (stepped (lockL q 6) i)) ∧ stepC 6 c (stepped (lockL q 6) i) = up c := by
  have hlt : i / 2 < (lockL q 6).length := by omega
  obtain ⟨k, hk, hg⟩ := lock_nat hlt
  obtain ⟨hsv, hnx⟩ := h.2 (i / 2) k hlt hk hg
  have hall : (stepped (lockL q 6) i).all = false := decide_eq_false (show ¬ i / 2 = (lockL q 6).length by omega)
  have hC : stepC 6 c (stepped (lockL q 6) i) = up c := by
    unfold stepC
    rw [hall, if_neg (by decide), countUp, show (stepped (lockL q 6) i).l = lockL q 6 from rfl, show (stepped (lockL q 6) i).h = i / 2 from rfl, hg, in6 hk]
    rfl
  have hE : stepE (stepped (lockL q 6) i) = 0 := by unfold stepE; rw [hall]; rfl
  rcases Nat.mod_two_eq_zero_or_one i with h2 | h2
  · have hd : (stepped (lockL q 6) i).d = false := decide_eq_false (by omega)
    have hS : stepS 4 6 vs (stepped (lockL q 6) i) = stepped (lockL q 6) (i + 1) := by
      unfold stepS
      rw [hall, if_neg (by decide), hd, if_pos rfl]
      show Gs.mk _ _ _ _ = _
      rw [show (stepped (lockL q 6) i).l = lockL q 6 from rfl, show (stepped (lockL q 6) i).h = i / 2 from rfl, hg, drawE_at hk (by rw [hnx]; split <;> omega), hnx, if_neg (by omega), stepped, show (i + 1) / 2 = i / 2 by omega, decide_eq_true (show (i + 1) % 2 = 1 by omega)]
    have hV : stepV 4 6 vs (stepped (lockL q 6) i) = vs.set (nextAt 4 k) 1 := by
      unfold stepV
      rw [hall, if_neg (by decide), hd, if_pos rfl, show (stepped (lockL q 6) i).l = lockL q 6 from rfl, show (stepped (lockL q 6) i).h = i / 2 from rfl, hg, drawV_at hk (by rw [hnx]; split <;> omega), hnx, if_neg (by omega)]
    refine ⟨?_, hE, hS, ?_, hC⟩
    · unfold stepA
      rw [hall, if_neg (by decide), hS, Gs.all, stepped, decide_eq_false (show ¬ (i + 1) / 2 = (lockL q 6).length by omega), decide_eq_false (by omega)]
    · rw [hV]
      refine ⟨by rw [List.length_set]; exact h.1, fun j p hj hp hgj => ?_⟩
      rw [srv_draw, nxt_draw h.1 hk]
      have := h.2 j p hj hp hgj
      refine ⟨this.1, ?_⟩
      by_cases e : p = k
      · subst e
        have := lock_one hj hlt hgj hg
        rw [if_pos rfl, if_pos (by omega)]
      · have : j ≠ i / 2 := fun e2 => e (by rw [e2, hg] at hgj; omega)
        rw [if_neg e, (h.2 j p hj hp hgj).2]
        by_cases e3 : 2 * j < i
        · rw [if_pos e3, if_pos (by omega)]
        · rw [if_neg e3, if_neg (by omega)]
  · have hd : (stepped (lockL q 6) i).d = true := decide_eq_true h2
    have hS : stepS 4 6 vs (stepped (lockL q 6) i) = stepped (lockL q 6) (i + 1) := by
      unfold stepS
      rw [hall, if_neg (by decide), hd, if_neg (by decide), show (stepped (lockL q 6) i).l = lockL q 6 from rfl, show (stepped (lockL q 6) i).h = i / 2 from rfl, hg, mineE_at hk (by rw [hsv]; omega), show (stepped (lockL q 6) i).t = 0 from rfl, if_pos (decide_eq_true hsv)]
      show Gs.mk _ _ _ _ = _
      rw [stepped, show (i + 1) / 2 = i / 2 + 1 by omega, decide_eq_false (show ¬ (i + 1) % 2 = 1 by omega)]
    have hV : stepV 4 6 vs (stepped (lockL q 6) i) = vs := by
      unfold stepV
      rw [hall, if_neg (by decide), hd, if_neg (by decide)]
    refine ⟨?_, hE, hS, ?_, hC⟩
    · unfold stepA
      rw [hall, if_neg (by decide), hS, Gs.all, stepped]
      by_cases e : i + 1 = 2 * (lockL q 6).length
      · rw [decide_eq_true e, decide_eq_true (show (i + 1) / 2 = (lockL q 6).length by omega)]
      · rw [decide_eq_false e, decide_eq_false (show ¬ (i + 1) / 2 = (lockL q 6).length by omega)]
    · rw [hV]
      refine ⟨h.1, fun j p hj hp hgj => ⟨(h.2 j p hj hp hgj).1, ?_⟩⟩
      rw [(h.2 j p hj hp hgj).2]
      by_cases e3 : 2 * j < i
      · rw [if_pos e3, if_pos (by omega)]
      · rw [if_neg e3, if_neg (by omega)]
/-- Behind all steps. -/
def had (l : List Int) (r : Nat) : Gs := ⟨l.take r, r, false, 0⟩
theorem had_all (l : List Int) : stepped l (2 * l.length) = had l l.length := by
  rw [stepped, had, List.take_length, show 2 * l.length / 2 = l.length by omega, decide_eq_false (by omega)]
theorem Taking.done {l : List Int} {vs : List Nat} (h : Taking l (2 * l.length) vs) : Giving l l.length vs :=
  ⟨h.1, fun j k hj hk hg => by have := h.2 j k hj hk hg; rw [if_pos hj]; rw [if_pos (by omega)] at this; exact ⟨this.2, this.1⟩⟩
theorem right_none {l : List Int} {vs : List Nat} {c : Nat} : stepA 4 6 vs (had l l.length) = false ∧ stepE (had l l.length) = 3 ∧ stepS 4 6 vs (had l l.length) = had l l.length ∧ stepV 4 6 vs (had l l.length) = vs ∧ stepC 6 c (had l l.length) = c := by
  have hall : (had l l.length).all = true := decide_eq_true (by show l.length = (l.take l.length).length; rw [List.take_length])
  unfold stepA stepE stepS stepV stepC
  rw [hall]
  exact ⟨rfl, rfl, rfl, rfl, rfl⟩
theorem right_give {q r c : Nat} {vs : List Nat} (h : Giving (lockL q 6) (r + 1) vs) (hr : r < (lockL q 6).length) :
    (giveN (had (lockL q 6) (r + 1)) : Int) = (r : Int) ∧ giveE (had (lockL q 6) (r + 1)) = 0 ∧ giveS (had (lockL q 6) (r + 1)) = had (lockL q 6) r ∧ Giving (lockL q 6) r (giveVs 4 6 vs (had (lockL q 6) (r + 1))) ∧ giveC 6 c (had (lockL q 6) (r + 1)) = up c
    ∧ freeE 4 6 vs (atI (lockL q 6) r) = false ∧ freeE 4 6 (giveVs 4 6 vs (had (lockL q 6) (r + 1))) (atI (lockL q 6) r) = true := by
  obtain ⟨k, hk, hg⟩ := lock_nat hr
  obtain ⟨hnx, hsv⟩ := h.2 r k hr hk hg
  rw [if_pos (by omega)] at hsv
  have hE : giveE (had (lockL q 6) (r + 1)) = 0 := rfl
  have hat : atI (had (lockL q 6) (r + 1)).l r = ((k : Nat) : Int) := by rw [← hg]; exact atI_take (by omega)
  have hV : giveVs 4 6 vs (had (lockL q 6) (r + 1)) = vs.set (servedAt 4 k) 1 := by
    rw [giveVs, if_pos hE, show (had (lockL q 6) (r + 1)).h - 1 = r from rfl, hat, giveV_at hk (by omega), hsv]
  have hG : Giving (lockL q 6) r (vs.set (servedAt 4 k) 1) := by
    refine ⟨by rw [List.length_set]; exact h.1, fun j p hj hp hgj => ?_⟩
    rw [nxt_give, srv_give h.1 hk]
    have := h.2 j p hj hp hgj
    refine ⟨this.1, ?_⟩
    by_cases e : p = k
    · subst e
      have := lock_one hj hr hgj hg
      rw [if_pos rfl, if_neg (by omega)]
    · have hne : j ≠ r := fun e2 => e (by rw [e2, hg] at hgj; omega)
      rw [if_neg e, this.2]
      by_cases e3 : j < r + 1
      · rw [if_pos e3, if_pos (by omega)]
      · rw [if_neg e3, if_neg (by omega)]
  have hfree : ∀ us : List Nat, freeE 4 6 us ((k : Nat) : Int) = decide (tick (minus (nxt us k) (srv us k)) = 0) := fun us => by
    rw [freeE, waitE, if_pos (in6 hk), in6 hk, Bool.true_and, Int.toNat_natCast]; rfl
  refine ⟨rfl, hE, ?_, by rw [hV]; exact hG, ?_, ?_, ?_⟩
  · rw [giveS, if_pos hE]
    show Gs.mk ((List.take (r + 1) (lockL q 6)).take r) r false 0 = _
    rw [List.take_take, Nat.min_eq_left (by omega)]; rfl
  · rw [giveC, if_pos hE, show (had (lockL q 6) (r + 1)).h - 1 = r from rfl, hat, countUp, in6 hk]; rfl
  · rw [hg, hfree, hnx, hsv]; decide
  · have := hG.2 r k hr hk hg
    rw [if_neg (by omega)] at this
    rw [hV, hg, hfree, this.1, this.2]; decide
end Go.Proofs.Ytbjfongjdlankaa
