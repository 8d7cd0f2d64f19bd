/-
  The walk of the law's alive.
-/
import Derived.Test.YtakgcienodigpaaGreatKGet
import Derived.Test.YtakgcienodigpaaGreatGRefSame
namespace Go.Proofs.YtakgcienodigpaaGreat
open Go.RowKit Oct

def endI : In := ⟨10, 0, 0, 0, 0⟩
def oneP : Prg := ⟨[], [[endI]], []⟩
def noneP : Prg := ⟨[], [], []⟩
theorem numL0 : numL 0 = [0] := numL_small (by omega)
theorem numL1 : numL 1 = [1] := numL_small (by omega)
theorem numL10 : numL 10 = [10] := numL_small (by omega)
theorem one_may : mayP oneP = true := by decide
theorem none_may : mayP noneP = false := by decide
theorem one_put : putS oneP = [0, 0, 1, 1, 10] := by
  unfold putS
  rw [if_pos one_may]
  simp [prgL, oneP, rowL, codeL, insL, endI, optL, fldA, fldB, fldC, fldK, namesOf, numL0, numL1, numL10]
theorem one_putE : putE oneP = 0 := by unfold putE; rw [one_may]; rfl
theorem none_put : putS noneP = [] ∧ putE noneP = 2 := by unfold putS putE; rw [none_may]; exact ⟨rfl, rfl⟩
theorem one_ok : ∀ c ∈ oneP.codes, ∀ x ∈ c, x.ok := by
  intro c hc x hx
  simp [oneP] at hc
  subst hc
  simp at hx
  subst hx
  exact ⟨by decide, i64_zero, i64_zero, i64_zero, i64_zero⟩
theorem one_get : getP [0, 0, 1, 1, 10, 120] = some (oneP, [120]) := by
  have := getP_put one_may one_ok [120]
  rw [one_put] at this
  exact this
theorem none_get : getP [0, 0, 0] = none := by
  have h := rdPrg_full 7 (by omega) noneP [] ⟨⟨by decide, by simp [noneP]⟩, ⟨by decide, by simp [noneP]⟩, ⟨by decide, by simp [noneP]⟩⟩
  have e : prgL noneP ++ [] = [0, 0, 0] := by simp [prgL, noneP, rowL, numL0]
  rw [e] at h
  unfold getP
  rw [h]
  simp [none_may]
theorem one_small : Small oneP := ⟨by decide, by decide, by decide, by simp [oneP], by simp [oneP]⟩
theorem none_small : Small noneP := ⟨by decide, by decide, by decide, by simp [noneP], by simp [noneP]⟩
theorem flat_none (lo hi : Nat) (W : World) (s : Nat) : Flat lo hi W s 0 (.slice none 0 0) [] := ⟨by simp, none, 0, rfl, .inl rfl⟩
theorem noneAt (W : World) : PrgAt 0 W.heap.size W (.slice none 0 0) (.slice none 0 0) (.slice none 0 0) noneP :=
  ⟨Nat.le_refl _, ⟨flat_none _ _ _ _, by simp [noneP]⟩, ⟨[], flat_none _ _ _ _, by simp⟩, ⟨[], rfl, flat_none _ _ _ _, by simp⟩⟩
/-- A program of one code, as it is built. -/
theorem oneAt {W : World} {g b : Nat} (h1 : Blk W b 42 #[.int .u8 10, .int .i64 0, .int .i64 0, .int .i64 0, .int .i64 0]) (h2 : Blk W g 37 #[.slice (some ⟨b, 0, none⟩) 1 1]) :
    PrgAt 0 W.heap.size W (.slice none 0 0) (.slice (some ⟨g, 0, none⟩) 1 1) (.slice none 0 0) oneP := by
  refine ⟨Nat.le_refl _, ⟨flat_none _ _ _ _, by simp [oneP]⟩, ⟨[.slice (some ⟨b, 0, none⟩) 1 1], ⟨rfl, some ⟨g, 0, none⟩, 1, rfl, .inr ⟨g, 0, rfl, Nat.zero_le _, h2.lt, fun j u hj => ?_⟩⟩, fun k u x hu hx => ?_⟩, ⟨[], rfl, flat_none _ _ _ _, by simp⟩⟩
  · rw [Nat.zero_add]; exact h2.cell (by simpa using hj)
  · cases k with
    | succ k => simp at hu
    | zero =>
      simp only [List.getElem?_cons_zero, Option.some.injEq] at hu
      simp only [oneP, List.getElem?_cons_zero, Option.some.injEq] at hx
      subst hu hx
      refine ⟨⟨rfl, some ⟨b, 0, none⟩, 1, rfl, .inr ⟨b, 0, rfl, Nat.zero_le _, h1.lt, fun j u hj => ?_⟩⟩, one_ok _ (by simp [oneP])⟩
      rw [Nat.zero_add]
      exact h1.cell (by simpa [In.cellsL, endI] using hj)

set_option maxRecDepth 100000 in
set_option maxHeartbeats 1600000 in
theorem alive_any (w : World) :
    Calls Tryz.prog 5 #[] w fun e w' => e = .returned (.bool true) ∧ Below w.heap.size w w' := by
  obtain ⟨wf, hwf⟩ : ∃ wf, wf = ((w.alloc (.cells #[.int .u8 10, .int .i64 0, .int .i64 0, .int .i64 0, .int .i64 0] 42)).alloc (.cells #[.slice (some ⟨w.heap.size, 0, none⟩) 1 1] 37)).alloc (.cells #[.slice none 0 0, .slice (some ⟨w.heap.size + 1, 0, none⟩) 1 1, .slice none 0 0] 26) := ⟨_, rfl⟩
  have hB0 : Below w.heap.size w wf := by rw [hwf]; exact (below2 w _ _).alloc (by simp; omega) _
  have hI : Blk wf w.heap.size 42 #[.int .u8 10, .int .i64 0, .int .i64 0, .int .i64 0, .int .i64 0] := by rw [hwf]; exact ((blk_new w _ _).alloc _).alloc _
  have hL : Blk wf (w.heap.size + 1) 37 #[.slice (some ⟨w.heap.size, 0, none⟩) 1 1] := by rw [hwf]; exact (blk_at (World.size_alloc _ _).symm).alloc _
  have hP : Blk wf (w.heap.size + 1 + 1) 26 #[.slice none 0 0, .slice (some ⟨w.heap.size + 1, 0, none⟩) 1 1, .slice none 0 0] := by rw [hwf]; exact blk_at (by simp)
  have hput := put_prog wf (oneAt hI hL) one_small
  rw [one_put, one_putE] at hput
  go_enter Tryz.func5, Tryz.ntmps5
  go_wp2_with fail
  rw [← hwf]
  clear hwf
  refine hput.mono ?_
  rintro e w1 ⟨rfl, hb1⟩
  have hI1 := hI.later hb1 hI.lt
  have hL1 := hL.later hb1 hL.lt
  have hP1 := hP.later hb1 hP.lt
  have hB1 := below_next hB0 hb1 (Nat.le_refl _)
  have hget := get_some w1 (by unfold maxLen; decide) one_get
  clear hput hI hL hP hB0 hb1
  go_wp2_with fail
  rw [show (⟨#[0, 0, 1, 1, 10]⟩ : ByteArray) ++ ⟨#[120]⟩ = ⟨[0, 0, 1, 1, 10, 120].toArray⟩ from str_app [0, 0, 1, 1, 10] [120]]
  refine hget.mono ?_
  rintro e w2 ⟨v1, v2, v3, rfl, hA, -, -, hb2⟩
  obtain ⟨a1, c1, rfl⟩ := hA.caps.slice
  obtain ⟨a2, c2, rfl⟩ := hA.codes.slice
  obtain ⟨a3, c3, rfl⟩ := hA.sites.slice
  obtain ⟨w3, hw3⟩ : ∃ w3, w3 = w2.alloc (.cells #[.slice a1 oneP.caps.length c1, .slice a2 oneP.codes.length c2, .slice a3 oneP.sites.length c3] 26) := ⟨_, rfl⟩
  have hb3 : Below w2.heap.size w2 w3 := by rw [hw3]; exact (Below.refl _ w2).alloc (Nat.le_refl _) _
  have hb13 := below_next hb2 hb3 (Nat.le_refl _)
  have hQ : Blk w3 w2.heap.size 26 #[.slice a1 oneP.caps.length c1, .slice a2 oneP.codes.length c2, .slice a3 oneP.sites.length c3] := by rw [hw3]; exact blk_new w2 _ _
  have hI3 := hI1.later hb13 hI1.lt
  have hL3 := hL1.later hb13 hL1.lt
  have hP3 := hP1.later hb13 hP1.lt
  have hA3 := hA.later hb3
  have hB3 := below_next hB1 hb13 (Nat.le_refl _)
  have hput := put_prog w3 (noneAt w3) none_small
  rw [none_put.1, none_put.2] at hput
  clear hget hI1 hL1 hP1 hA hB1 hb2 hb3 hb13
  go_wp2_with fail
  rw [← hw3]
  clear hw3
  refine hput.mono ?_
  rintro e w4 ⟨rfl, hb4⟩
  have hget := get_none w4 (by unfold maxLen; decide) none_get
  go_wp2_with fail
  refine hget.mono ?_
  rintro e w5 ⟨rfl, hb5⟩
  obtain ⟨w6, hw6⟩ : ∃ w6, w6 = w5.alloc (.cells #[.slice none 0 0, .slice none 0 0, .slice none 0 0] 26) := ⟨_, rfl⟩
  have hb6 : Below w5.heap.size w5 w6 := by rw [hw6]; exact (Below.refl _ w5).alloc (Nat.le_refl _) _
  have hb36 := below_next (below_next hb4 hb5 (Nat.le_refl _)) hb6 (Nat.le_refl _)
  have hI6 := hI3.later hb36 hI3.lt
  have hL6 := hL3.later hb36 hL3.lt
  have hP6 := hP3.later hb36 hP3.lt
  have hQ6 := hQ.later hb36 hQ.lt
  have hA6 := hA3.later hb36
  have hB6 := below_next hB3 hb36 (Nat.le_refl _)
  have hsame := rsame_any w6 (oneAt hI6 hL6) hA6 one_small
  rw [samePrg_refl] at hsame
  have p0 := hP6.cell (k := 0) (v := .slice none 0 0) rfl
  have p1 := hP6.cell (k := 1) (v := .slice (some ⟨w.heap.size + 1, 0, none⟩) 1 1) rfl
  have p2 := hP6.cell (k := 2) (v := .slice none 0 0) rfl
  have q0 := hQ6.cell (k := 0) (v := .slice a1 oneP.caps.length c1) rfl
  have q1 := hQ6.cell (k := 1) (v := .slice a2 oneP.codes.length c2) rfl
  have q2 := hQ6.cell (k := 2) (v := .slice a3 oneP.sites.length c3) rfl
  rw [hw6] at p0 p1 p2 q0 q1 q2
  clear hput hget hI3 hL3 hP3 hA3 hQ hB3 hb4 hb5 hb6 hb36
  go_wp2_with fail
  rw [← hw6]
  clear hw6
  refine hsame.mono ?_
  rintro e w7 ⟨rfl, hb7⟩
  have hP7 := hP6.later hb7 hP6.lt
  have hsize := size_prog w7 (oneAt (hI6.later hb7 hI6.lt) (hL6.later hb7 hL6.lt)) one_small
  rw [one_put] at hsize
  have p0 := hP7.cell (k := 0) (v := .slice none 0 0) rfl
  have p1 := hP7.cell (k := 1) (v := .slice (some ⟨w.heap.size + 1, 0, none⟩) 1 1) rfl
  have p2 := hP7.cell (k := 2) (v := .slice none 0 0) rfl
  have hB7 := below_next hB6 hb7 (Nat.le_refl _)
  clear hsame hI6 hL6 hP6 hA6 hQ6 hB6 hb7 hP7
  go_wp2_with fail
  refine hsize.mono ?_
  rintro e w8 ⟨rfl, hb8⟩
  have hB8 := below_next hB7 hb8 (Nat.le_refl _)
  clear hsize hB7 hb8
  go_wp2_with fail
  go_ret
  exact ⟨rfl, hB8⟩
end Go.Proofs.YtakgcienodigpaaGreat
