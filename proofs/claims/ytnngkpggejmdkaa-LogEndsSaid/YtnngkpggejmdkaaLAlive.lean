/-
  The walks of tollbarlaw15's three, alive.
-/
import Derived.Test.YtnngkpggejmdkaaLTold
import Derived.Test.YtnngkpggejmdkaaLFrom
import Derived.Test.YtnngkpggejmdkaaLLastK
namespace Go.Proofs.Ytnngkpggejmdkaa
open Go.RowKit

def eA : En := ⟨3, 8, 0, 1, 0, 0, 0, 0, 0, 0, false, 0, 0⟩
theorem eA_ok : eA.ok := ⟨⟨by decide, by decide⟩, by decide, ⟨by decide, by decide⟩, ⟨by decide, by decide⟩, ⟨by decide, by decide⟩, ⟨by decide, by decide⟩, ⟨by decide, by decide⟩, ⟨by decide, by decide⟩, ⟨by decide, by decide⟩, ⟨by decide, by decide⟩, ⟨by decide, by decide⟩, by decide⟩
def eB : En := ⟨3, 22, 0, 2, 0, 0, 0, 0, 0, 0, false, 0, 0⟩
theorem eB_ok : eB.ok := ⟨⟨by decide, by decide⟩, by decide, ⟨by decide, by decide⟩, ⟨by decide, by decide⟩, ⟨by decide, by decide⟩, ⟨by decide, by decide⟩, ⟨by decide, by decide⟩, ⟨by decide, by decide⟩, ⟨by decide, by decide⟩, ⟨by decide, by decide⟩, ⟨by decide, by decide⟩, by decide⟩
def eC : En := ⟨5, 10, 0, 2, 0, 0, 0, 0, 0, 0, false, 0, 0⟩
theorem eC_ok : eC.ok := ⟨⟨by decide, by decide⟩, by decide, ⟨by decide, by decide⟩, ⟨by decide, by decide⟩, ⟨by decide, by decide⟩, ⟨by decide, by decide⟩, ⟨by decide, by decide⟩, ⟨by decide, by decide⟩, ⟨by decide, by decide⟩, ⟨by decide, by decide⟩, ⟨by decide, by decide⟩, by decide⟩
def eF : En := ⟨1, 11, 0, 0, -1, 0, 0, 0, 0, 0, false, 142, 0⟩
theorem eF_ok : eF.ok := ⟨⟨by decide, by decide⟩, by decide, ⟨by decide, by decide⟩, ⟨by decide, by decide⟩, ⟨by decide, by decide⟩, ⟨by decide, by decide⟩, ⟨by decide, by decide⟩, ⟨by decide, by decide⟩, ⟨by decide, by decide⟩, ⟨by decide, by decide⟩, ⟨by decide, by decide⟩, by decide⟩
def eG : En := ⟨2, 10, 0, 0, 0, 0, 0, 0, 0, 0, false, 0, 0⟩
theorem eG_ok : eG.ok := ⟨⟨by decide, by decide⟩, by decide, ⟨by decide, by decide⟩, ⟨by decide, by decide⟩, ⟨by decide, by decide⟩, ⟨by decide, by decide⟩, ⟨by decide, by decide⟩, ⟨by decide, by decide⟩, ⟨by decide, by decide⟩, ⟨by decide, by decide⟩, ⟨by decide, by decide⟩, by decide⟩
def eH : En := ⟨4, 10, 0, 0, 0, 0, 0, 0, 0, 0, false, 0, 0⟩
theorem eH_ok : eH.ok := ⟨⟨by decide, by decide⟩, by decide, ⟨by decide, by decide⟩, ⟨by decide, by decide⟩, ⟨by decide, by decide⟩, ⟨by decide, by decide⟩, ⟨by decide, by decide⟩, ⟨by decide, by decide⟩, ⟨by decide, by decide⟩, ⟨by decide, by decide⟩, ⟨by decide, by decide⟩, by decide⟩
def three3 : List En := [eA, eB, eC]
theorem three_ok : ∀ x ∈ three3, x.ok := by
  intro x hx
  simp only [three3, List.mem_cons, List.not_mem_nil, or_false] at hx
  rcases hx with rfl | rfl | rfl
  · exact eA_ok
  · exact eB_ok
  · exact eC_ok
theorem three_good : Good three3 := by
  intro i x h
  match i, h with
  | 0, h => simp only [three3, List.getElem?_cons_zero, Option.some.injEq] at h; subst h; decide
  | 1, h => simp only [three3, List.getElem?_cons_succ, List.getElem?_cons_zero, Option.some.injEq] at h; subst h; decide
  | 2, h => simp only [three3, List.getElem?_cons_succ, List.getElem?_cons_zero, Option.some.injEq] at h; subst h; decide
  | n + 3, h => simp [three3] at h
theorem three_com : (three3.filter isCom).length = 2 := by decide
theorem three_in : (three3.filter (isIn 3 5)).length = 2 := by decide
theorem three_of : (three3.filter (isOf 2)).length = 2 := by decide
theorem three_last : lastV (isKind [8]) three3 = (0, eA, true) := by
  have h := last_found (P := isKind [8]) (xs := three3) (q := [⟨2, by decide⟩, ⟨1, by decide⟩]) (i := ⟨0, by decide⟩) ⟨[], by decide⟩ (by decide) (by decide)
  exact h
theorem put_F : putE [] eF = 0 := by decide
theorem put_G : putE [eF] eG = 6 := by decide
theorem put_H : putE three3 eH = 2 := by decide

set_option maxRecDepth 100000 in
theorem three_any (w : World) :
    Calls Try.prog 21 #[] w fun e w' => ∃ v, e = .returned v ∧ EnRow w' v three3 ∧ Below w.heap.size w w' := by
  go_enter Try.func21, Try.ntmps21
  go_wp2_with fail
  go_ret
  refine ⟨_, rfl, ⟨_, _, rfl, .inr ⟨w.heap.size, 0, rfl, lt_al w _, fun k x hk i u hi => ?_⟩⟩, below1 w _⟩
  have hi13 : i < 13 := by have := (List.getElem?_eq_some_iff.1 hi).1; rwa [en_len] at this
  have hf := flat_get En.cellsL 13 en_len three3 k i hi13
  rw [hk, Option.bind_some, hi] at hf
  simp only [World.cell?, World.alloc_heap_new]
  rw [Nat.zero_add]
  rw [← hf]
  show (Array.mk (three3.flatMap En.cellsL))[k * 13 + i]? = _
  simp

/-- A log that lies below n. -/
structure Lies (n b B : Nat) (xs : List En) (W : World) : Prop where
  is : ∃ v, LogAt W b B v xs ∧ ∀ g, v.ownBlock = some g → g < n
  lt : B < n
theorem Lies.keep {n b B : Nat} {xs : List En} {W W' : World} (h : Lies n b B xs W) (hb : Below n W W') : Lies n b B xs W' := by
  obtain ⟨⟨v, h1, h2⟩, h3⟩ := h
  exact ⟨⟨v, h1.held hb h3 h2, h2⟩, h3⟩
theorem lies_of {b B : Nat} {v : Value} {xs : List En} {W : World} (h : LogAt W b B v xs) : Lies W.heap.size b B xs W := ⟨⟨v, h, fun _ hg => (h.rowB hg).1⟩, h.lt⟩
theorem Lies.next {n b B : Nat} {xs : List En} {W W' : World} (h : Lies n b B xs W) (hn : n ≤ W.heap.size) (hb : Below W.heap.size W W') : Lies n b B xs W' := h.keep (hb.mono hn)

set_option maxRecDepth 100000 in
set_option maxHeartbeats 4000000 in
theorem lalive_any (w : World) :
    Calls Try.prog 5 #[] w fun e w' => e = .returned (.bool true) ∧ Below w.heap.size w w' := by
  have pF : ∀ (W : World) (B : Nat) (v : Value), LogAt W B B v [] → Calls Try.prog 7 #[.pointer (some ⟨B, 0, none⟩), .agg #[.int .i64 1, .int .u8 11, .int .i64 0, .int .i64 0, .int .i64 (-1), .int .i64 0, .int .i64 0, .int .i64 0, .int .i64 0, .int .i64 0, .bool false, .int .i64 142, .int .u64 0]] W fun e w' => e = .returned (.int .i64 0) ∧ (∃ u, LogAt w' B B u [eF]) ∧ Below B W w' := fun W B v h => by
    refine (put_any eF W h (by decide) (fun x hx => by cases hx) eF_ok (Nat.le_of_lt h.lt)).mono ?_
    rintro e w' ⟨rfl, u, h1, h2, _⟩
    rw [putX_ok put_F] at h1
    exact ⟨by rw [put_F], ⟨u, h1⟩, but_low (Below.refl _ _) h h2 (Nat.le_of_lt h.lt) (Nat.le_refl _) (Nat.le_refl _)⟩
  have pG : ∀ (W : World) (B : Nat) (v : Value), LogAt W B B v [eF] → Calls Try.prog 7 #[.pointer (some ⟨B, 0, none⟩), .agg #[.int .i64 2, .int .u8 10, .int .i64 0, .int .i64 0, .int .i64 0, .int .i64 0, .int .i64 0, .int .i64 0, .int .i64 0, .int .i64 0, .bool false, .int .i64 0, .int .u64 0]] W fun e w' => e = .returned (.int .i64 6) ∧ Below B W w' := fun W B v h => by
    refine (put_any eG W h (by decide) (fun x hx => by rw [List.mem_singleton.1 hx]; exact eF_ok) eG_ok (Nat.le_of_lt h.lt)).mono ?_
    rintro e w' ⟨rfl, u, h1, h2, _⟩
    exact ⟨by rw [put_G], but_low (Below.refl _ _) h h2 (Nat.le_of_lt h.lt) (Nat.le_refl _) (Nat.le_refl _)⟩
  have pH : ∀ (W : World) (n b B : Nat), n ≤ W.heap.size → b ≤ W.heap.size → b ≤ B → Lies n b B three3 W → Calls Try.prog 7 #[.pointer (some ⟨B, 0, none⟩), .agg #[.int .i64 4, .int .u8 10, .int .i64 0, .int .i64 0, .int .i64 0, .int .i64 0, .int .i64 0, .int .i64 0, .int .i64 0, .int .i64 0, .bool false, .int .i64 0, .int .u64 0]] W fun e w' => e = .returned (.int .i64 2) ∧ Below b W w' ∧ ∃ v, LogAt w' b B v three3 := fun W n b B hn hb hbB h => by
    obtain ⟨⟨v, h1, h2⟩, h3⟩ := h
    refine (put_any eH W h1 (by decide) three_ok eH_ok hb).mono ?_
    rintro e w' ⟨rfl, u, k1, k2, _⟩
    rw [putX_not (by rw [put_H]; decide)] at k1
    exact ⟨by rw [put_H], but_low (Below.refl _ _) h1 k2 hb hbB (Nat.le_refl _), u, k1⟩
  have cC : ∀ (W : World) (n b B : Nat), Lies n b B three3 W → Calls Try.prog 9 #[.pointer (some ⟨B, 0, none⟩)] W fun e w' => ∃ a c, e = .returned (.slice a 2 c) ∧ Below W.heap.size W w' := fun W n b B h => by
    obtain ⟨⟨v, h1, h2⟩, h3⟩ := h
    refine (commits_any W h1 (by decide) three_ok).mono ?_
    rintro e w' ⟨u, rfl, k1, k2⟩
    obtain ⟨a, c, rfl⟩ := owns_slice k1
    exact ⟨a, c, by rw [three_com], k2⟩
  have cI : ∀ (W : World) (n b B : Nat), Lies n b B three3 W → Calls Try.prog 12 #[.pointer (some ⟨B, 0, none⟩), .int .i64 3, .int .i64 5] W fun e w' => ∃ a c, e = .returned (.slice a 2 c) ∧ Below W.heap.size W w' := fun W n b B h => by
    obtain ⟨⟨v, h1, h2⟩, h3⟩ := h
    refine (between_any 3 5 W h1 (by decide) three_ok).mono ?_
    rintro e w' ⟨u, rfl, k1, k2⟩
    obtain ⟨a, c, rfl⟩ := owns_slice k1
    exact ⟨a, c, by rw [three_in], k2⟩
  have cO : ∀ (W : World) (b B : Nat) (v : Value), LogAt W b B v three3 → Calls Try.prog 15 #[.pointer (some ⟨B, 0, none⟩), .int .i64 2] W fun e w' => ∃ a c, e = .returned (.slice a 2 c) ∧ Below W.heap.size W w' := fun W b B v h1 => by
    refine (lof_any 2 W h1 (by decide) three_ok).mono ?_
    rintro e w' ⟨u, rfl, k1, k2⟩
    obtain ⟨a, c, rfl⟩ := owns_slice k1
    exact ⟨a, c, by rw [three_of], k2⟩
  have cL : ∀ (W : World) (n b B : Nat), Lies n b B three3 W → Calls Try.prog 22 #[.pointer (some ⟨B, 0, none⟩), .slice (some ⟨W.heap.size, 0, none⟩) 1 1] (W.alloc (.cells #[.int .u8 8] 5)) fun e w' => e = .returned (.tuple #[.int .i64 0, .agg #[.int .i64 3, .int .u8 8, .int .i64 0, .int .i64 1, .int .i64 0, .int .i64 0, .int .i64 0, .int .i64 0, .int .i64 0, .int .i64 0, .bool false, .int .i64 0, .int .u64 0], .bool true]) ∧ Below W.heap.size W w' := fun W n b B h => by
    obtain ⟨⟨v, h1, h2⟩, h3⟩ := h
    have hr : KRow (W.alloc (.cells #[.int .u8 8] 5)) (.slice (some ⟨W.heap.size, 0, none⟩) 1 1) [8] := KRow.one W 8
    refine (last_kinds (ks := [8]) _ hr (by decide) (by decide) (by decide) (h1.below (below1 W _)) (by decide) three_ok).mono ?_
    rintro e w' ⟨rfl, k2⟩
    rw [three_last]
    exact ⟨rfl, below_nx (below1 W _) k2 (Nat.le_refl _)⟩
  go_enter Try.func5, Try.ntmps5
  go_wp2_with fail
  refine (three_any w).mono ?_
  rintro e w1 ⟨v1, rfl, hr1, hb1⟩
  have hfr := from_any v1 three3 w1 hr1 (by decide) three_ok three_good
  obtain ⟨ra, rc, rfl⟩ := hr1.slice
  clear hr1
  go_wp2_with fail
  refine hfr.mono ?_
  clear hfr
  rintro e w2 ⟨rfl, ⟨u2, hL2⟩, hb2⟩
  have hB2 := below_nx hb1 hb2 (Nat.le_refl _)
  have hl2 := lies_of hL2
  have hb12 := hb1.size
  have hn2 := hL2.lt
  generalize w1.heap.size = n1 at hL2 hl2 hb2 hn2 hb12 ⊢
  clear hL2 hb1 hb2
  have c1 := cL w2 _ _ _ hl2
  go_wp2_with fail
  refine c1.mono ?_
  clear c1
  rintro e w3 ⟨rfl, hb3⟩
  obtain ⟨n2, hn2e⟩ : ∃ n, n = w2.heap.size := ⟨_, rfl⟩
  rw [← hn2e] at hl2
  have hs2 : n2 ≤ w2.heap.size := by omega
  have hbn : n1 < n2 := by omega
  have hl3 := hl2.next hs2 hb3
  have hs3 := Nat.le_trans hs2 hb3.size
  have hB3 := below_nx hB2 hb3 (Nat.le_refl _)
  obtain ⟨wA, hwA⟩ : ∃ wA, wA = w3.alloc (.cells #[.int .i64 3, .int .u8 8, .int .i64 0, .int .i64 1, .int .i64 0, .int .i64 0, .int .i64 0, .int .i64 0, .int .i64 0, .int .i64 0, .bool false, .int .i64 0, .int .u64 0] 31) := ⟨_, rfl⟩
  have hbA : Below w3.heap.size w3 wA := by rw [hwA]; exact below1 w3 _
  have hlA := hl3.next hs3 hbA
  have hsA := Nat.le_trans hs3 hbA.size
  have hBA := below_nx hB3 hbA (Nat.le_refl _)
  clear hn2e hn2 hl2 hl3 hb3 hbA hB2 hB3 hs2 hs3
  go_wp2_with fail
  rw [← hwA]
  clear hwA
  refine (new_any wA).mono ?_
  rintro e w4 ⟨rfl, hM4, hb4⟩
  have hl4 := hlA.next hsA hb4
  have hB4 := below_nx hBA hb4 (Nat.le_refl _)
  obtain ⟨m, hm⟩ : ∃ m, m = wA.heap.size := ⟨_, rfl⟩
  rw [← hm] at hM4 hsA hb4
  have hmw : w.heap.size ≤ m := by rw [hm]; exact hBA.size
  rw [← hm]
  have hm4 := hM4.lt
  have p5 := pF w4 m _ hM4
  clear hm hBA hlA hM4 pF
  go_wp2_with fail
  refine p5.mono ?_
  clear p5
  rintro e w5 ⟨rfl, ⟨u5, hM5⟩, hb5⟩
  have hl5 := hl4.keep (hb5.mono hsA)
  have hB5 := hB4.trans (hb5.mono hmw)
  have hm5 := hM5.lt
  have p6 := pG w5 m _ hM5
  clear hM5 pG hl4 hB4
  go_wp2_with fail
  refine p6.mono ?_
  clear p6
  rintro e w6 ⟨rfl, hb6⟩
  have hl6 := hl5.keep (hb6.mono hsA)
  have hB6 := hB5.trans (hb6.mono hmw)
  have hs6 := hb6.size
  have c7 := cC w6 _ _ _ hl6
  clear hl5 hB5 hb5
  go_wp2_with fail
  refine c7.mono ?_
  clear c7
  rintro e w7 ⟨a7, d7, rfl, hb7⟩
  have hl7 := hl6.next (by omega) hb7
  have hB7 := below_nx hB6 hb7 (Nat.le_refl _)
  have hs7 := hb7.size
  have c8 := cI w7 _ _ _ hl7
  clear hl6 hB6 hb6
  go_wp2_with fail
  refine c8.mono ?_
  clear c8
  rintro e w8 ⟨a8, d8, rfl, hb8⟩
  have hl8 := hl7.next (by omega) hb8
  have hB8 := below_nx hB7 hb8 (Nat.le_refl _)
  have hs8 := hb8.size
  have c9 := pH w8 n2 n1 n1 (by omega) (by omega) (Nat.le_refl _) hl8
  clear hl7 hB7 hb7 hl8
  go_wp2_with fail
  refine c9.mono ?_
  clear c9
  rintro e w9 ⟨rfl, hb9, u9, hL9⟩
  have hB9 := hB8.trans (hb9.mono hb12)
  have c10 := cO w9 n1 n1 _ hL9
  clear hB8 hb8 hL9
  go_wp2_with fail
  refine c10.mono ?_
  clear c10
  rintro e w10 ⟨a10, d10, rfl, hb10⟩
  have hB10 := below_nx hB9 hb10 (Nat.le_refl _)
  go_wp2_with fail
  go_ret
  exact ⟨rfl, hB10⟩
end Go.Proofs.Ytnngkpggejmdkaa
