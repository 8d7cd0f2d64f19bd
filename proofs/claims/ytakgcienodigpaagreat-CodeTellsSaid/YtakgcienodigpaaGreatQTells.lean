/-
  The walk of the law CodeTells.
-/
import Derived.Test.YtakgcienodigpaaGreatQGet
import Derived.Test.YtakgcienodigpaaGreatQPut
import Derived.Test.YtakgcienodigpaaGreatKAlive
namespace Go.Proofs.YtakgcienodigpaaGreat
open Go.RowKit Oct

theorem getR_some {s r : List UInt8} {p : Prg} (w : World) (hs : s.length ≤ maxLen) (h : getP s = some (p, r)) :
    Calls Tryz.prog 9 #[.string ⟨s.toArray⟩] w fun e w' => ∃ v1 v2 v3, e = .returned (.tuple #[.agg #[v1, v2, v3], .string ⟨r.toArray⟩, .int .i64 0]) ∧ PrgAt w.heap.size w'.heap.size w' v1 v2 v3 p ∧ Fit p ∧ Small p ∧ Below w.heap.size w w' := by
  have := getR_any s w hs
  rw [h] at this
  exact this
theorem getR_none {s : List UInt8} (w : World) (hs : s.length ≤ maxLen) (h : getP s = none) :
    Calls Tryz.prog 9 #[.string ⟨s.toArray⟩] w fun e w' => e = .returned (.tuple #[.agg #[.slice none 0 0, .slice none 0 0, .slice none 0 0], .string ⟨#[]⟩, .int .i64 7]) ∧ Below w.heap.size w w' := by
  have := getR_any s w hs
  rw [h] at this
  exact this

set_option maxRecDepth 100000 in
set_option maxHeartbeats 3200000 in
theorem tells_any {lo hi : Nat} {v1 v2 v3 : Value} {p : Prg} (s : List UInt8) (w : World) (h : PrgAt lo hi w v1 v2 v3 p) (hs : s.length ≤ maxLen) :
    Calls Tryz.prog 3 #[.agg #[v1, v2, v3], .string ⟨s.toArray⟩] w fun e w' => e = .returned (.bool true) ∧ Below w.heap.size w w' := by
  obtain ⟨wf, hwf⟩ : ∃ wf, wf = w.alloc (.cells #[v1, v2, v3] 26) := ⟨_, rfl⟩
  have hB0 : Below w.heap.size w wf := by rw [hwf]; exact (Below.refl _ w).alloc (Nat.le_refl _) _
  have hP : Blk wf w.heap.size 26 #[v1, v2, v3] := by rw [hwf]; exact blk_new w _ _
  have hlp : Calls Tryz.prog 4 #[.agg #[v1, v2, v3]] wf (LongPost wf p) := long_any wf (h.later hB0)
  have hfin : ∀ W, Below w.heap.size w W → Calls Tryz.prog 5 #[] W fun e w' => e = .returned (.bool true) ∧ Below w.heap.size w w' := fun W hW => (alive_any W).mono fun e w' ⟨e1, e2⟩ => ⟨e1, below_next hW e2 (Nat.le_refl _)⟩
  have hsz : (⟨s.toArray⟩ : ByteArray).size = s.length := size_of s
  have c0 := hP.cell (k := 0) (v := v1) rfl
  have c1 := hP.cell (k := 1) (v := v2) rfl
  have c2 := hP.cell (k := 2) (v := v3) rfl
  rw [hwf] at c0 c1 c2
  go_enter Tryz.func3, Tryz.ntmps3
  go_wp2_with fail
  rw [← hwf]
  clear hwf
  refine hlp.mono ?_
  rintro e w1 ⟨b1, rfl, hT1, hb1⟩
  have hB1 := below_next hB0 hb1 (Nat.le_refl _)
  have hP1 := hP.later hb1 hP.lt
  clear hlp c0 c1 c2 hb1 hP hB0
  cases b1 with
  | true =>
    go_wp2_with (go_at_call 5; refine (hfin _ hB1).mono ?_; rintro e w2 ⟨rfl, hb⟩)
    go_ret
    exact ⟨rfl, hb⟩
  | false =>
    have tame := hT1 rfl
    clear hT1
    by_cases hl : 8192 < s.length
    · have hl' : (8192 : Int) < (s.length : Int) := by omega
      go_wp2_with (go_at_call 5; refine (hfin _ hB1).mono ?_; rintro e w2 ⟨rfl, hb⟩)
      go_ret
      exact ⟨rfl, hb⟩
    have hl' : ¬ (8192 : Int) < (s.length : Int) := by omega
    have hld : decide ((8192 : Int) < (s.length : Int)) = false := decide_eq_false hl'
    obtain ⟨S, hS⟩ : ∃ S, S = putS p := ⟨_, rfl⟩
    obtain ⟨E, hE⟩ : ∃ E, E = putE p := ⟨_, rfl⟩
    have hput := put_prog w1 (h.later hB1) tame.small
    rw [← hS, ← hE] at hput
    have HSP := Lib.hid hS
    have HEP := Lib.hid hE
    clear hS hE
    have c0 := hP1.cell (k := 0) (v := v1) rfl
    have c1 := hP1.cell (k := 1) (v := v2) rfl
    have c2 := hP1.cell (k := 2) (v := v3) rfl
    go_wp2_with fail
    refine hput.mono ?_
    rintro e w2 ⟨rfl, hb2⟩
    have hB2 := below_next hB1 hb2 (Nat.le_refl _)
    have hP2 := hP1.later hb2 hP1.lt
    clear hput hP1 hB1 hb2 c0 c1 c2
    have hput := refPut_any w2 (h.later hB2) tame.small
    rw [← HSP.out, ← HEP.out] at hput
    have c0 := hP2.cell (k := 0) (v := v1) rfl
    have c1 := hP2.cell (k := 1) (v := v2) rfl
    have c2 := hP2.cell (k := 2) (v := v3) rfl
    go_wp2_with fail
    refine hput.mono ?_
    rintro e w3 ⟨rfl, hb3⟩
    have hB3 := below_next hB2 hb3 (Nat.le_refl _)
    have hP3 := hP2.later hb3 hP2.lt
    have hSL : (⟨S.toArray⟩ : ByteArray).size = S.length := size_of S
    clear hput hP2 hB2 hb3 c0 c1 c2 HEP
    cases hg : getP s with
    | none =>
      have hget := get_none w3 hs hg
      go_wp2_with fail
      refine hget.mono ?_
      rintro e w4 ⟨rfl, hb4⟩
      have hB4 := below_next hB3 hb4 (Nat.le_refl _)
      have hP4 := hP3.later hb4 hP3.lt
      obtain ⟨w5, hw5⟩ : ∃ w5, w5 = w4.alloc (.cells #[.slice none 0 0, .slice none 0 0, .slice none 0 0] 26) := ⟨_, rfl⟩
      have hb5 : Below w4.heap.size w4 w5 := by rw [hw5]; exact (Below.refl _ w4).alloc (Nat.le_refl _) _
      have hB5 := below_next hB4 hb5 (Nat.le_refl _)
      have hP5 := hP4.later hb5 hP4.lt
      obtain ⟨A, hA⟩ : ∃ A, A = w4.heap.size := ⟨_, rfl⟩
      have hQ5 : Blk w5 A 26 #[.slice none 0 0, .slice none 0 0, .slice none 0 0] := by rw [hw5, hA]; exact blk_new w4 _ _
      have hget := getR_none w5 hs hg
      clear hg hb4 hb5 hB3 hB4 hP3 hP4
      go_wp2_with fail
      rw [← hw5, ← hA]
      clear hw5 hA
      refine hget.mono ?_
      rintro e w6 ⟨rfl, hb6⟩
      have hB6 := below_next hB5 hb6 (Nat.le_refl _)
      have hP6 := hP5.later hb6 hP5.lt
      have hQ6 := hQ5.later hb6 hQ5.lt
      obtain ⟨w7, hw7⟩ : ∃ w7, w7 = w6.alloc (.cells #[.slice none 0 0, .slice none 0 0, .slice none 0 0] 26) := ⟨_, rfl⟩
      have hb7 : Below w6.heap.size w6 w7 := by rw [hw7]; exact (Below.refl _ w6).alloc (Nat.le_refl _) _
      have hB7 := below_next hB6 hb7 (Nat.le_refl _)
      have hP7 := hP6.later hb7 hP6.lt
      have hQ7 := hQ6.later hb7 hQ6.lt
      obtain ⟨B, hB⟩ : ∃ B, B = w6.heap.size := ⟨_, rfl⟩
      have hR7 : Blk w7 B 26 #[.slice none 0 0, .slice none 0 0, .slice none 0 0] := by rw [hw7, hB]; exact blk_new w6 _ _
      have hsize := size_prog w7 (h.later hB7) tame.small
      rw [← HSP.out] at hsize
      have c0 := hP7.cell (k := 0) (v := v1) rfl
      have c1 := hP7.cell (k := 1) (v := v2) rfl
      have c2 := hP7.cell (k := 2) (v := v3) rfl
      rw [hw7] at c0 c1 c2
      clear hget hb6 hb7 hB5 hB6 hP5 hP6 hQ5 hQ6
      go_wp2_with fail
      rw [← hw7, ← hB]
      clear hw7 hB
      refine hsize.mono ?_
      rintro e w8 ⟨rfl, hb8⟩
      have hB8 := below_next hB7 hb8 (Nat.le_refl _)
      have hQ8 := hQ7.later hb8 hQ7.lt
      have hR8 := hR7.later hb8 hR7.lt
      have hsm := rsame_any w8 (noneAt w8) (noneAt w8) none_small
      rw [samePrg_refl] at hsm
      have c0 := hQ8.cell (k := 0) (v := .slice none 0 0) rfl
      have c1 := hQ8.cell (k := 1) (v := .slice none 0 0) rfl
      have c2 := hQ8.cell (k := 2) (v := .slice none 0 0) rfl
      have d0 := hR8.cell (k := 0) (v := .slice none 0 0) rfl
      have d1 := hR8.cell (k := 1) (v := .slice none 0 0) rfl
      have d2 := hR8.cell (k := 2) (v := .slice none 0 0) rfl
      clear hsize hb8 hB7 hP7 hQ7 hR7
      go_wp2_with fail
      refine hsm.mono ?_
      rintro e w9 ⟨rfl, hb9⟩
      have hB9 := below_next hB8 hb9 (Nat.le_refl _)
      go_wp2_with (go_at_call 5; refine (hfin _ hB9).mono ?_; rintro e wd ⟨rfl, hb⟩)
      go_ret
      exact ⟨rfl, hb⟩
    | some qq =>
      obtain ⟨q, r⟩ := qq
      have hget := get_some w3 hs hg
      go_wp2_with fail
      refine hget.mono ?_
      rintro e w4 ⟨u1, u2, u3, rfl, hA4, -, hsq, hb4⟩
      obtain ⟨x1, y1, rfl⟩ := hA4.caps.slice
      obtain ⟨x2, y2, rfl⟩ := hA4.codes.slice
      obtain ⟨x3, y3, rfl⟩ := hA4.sites.slice
      have hB4 := below_next hB3 hb4 (Nat.le_refl _)
      have hP4 := hP3.later hb4 hP3.lt
      obtain ⟨w5, hw5⟩ : ∃ w5, w5 = w4.alloc (.cells #[.slice x1 q.caps.length y1, .slice x2 q.codes.length y2, .slice x3 q.sites.length y3] 26) := ⟨_, rfl⟩
      have hb5 : Below w4.heap.size w4 w5 := by rw [hw5]; exact (Below.refl _ w4).alloc (Nat.le_refl _) _
      have hB5 := below_next hB4 hb5 (Nat.le_refl _)
      have hP5 := hP4.later hb5 hP4.lt
      have hA5 := hA4.later hb5
      obtain ⟨A, hA⟩ : ∃ A, A = w4.heap.size := ⟨_, rfl⟩
      have hQ5 : Blk w5 A 26 #[.slice x1 q.caps.length y1, .slice x2 q.codes.length y2, .slice x3 q.sites.length y3] := by rw [hw5, hA]; exact blk_new w4 _ _
      have hget := getR_some w5 hs hg
      rw [← hA] at hA5
      clear hg hb4 hb5 hB3 hB4 hP3 hP4 hA4
      go_wp2_with fail
      rw [← hw5, ← hA]
      clear hw5 hA
      refine hget.mono ?_
      rintro e w6 ⟨u1, u2, u3, rfl, hC6, -, -, hb6⟩
      obtain ⟨z1, t1, rfl⟩ := hC6.caps.slice
      obtain ⟨z2, t2, rfl⟩ := hC6.codes.slice
      obtain ⟨z3, t3, rfl⟩ := hC6.sites.slice
      have hB6 := below_next hB5 hb6 (Nat.le_refl _)
      have hP6 := hP5.later hb6 hP5.lt
      have hQ6 := hQ5.later hb6 hQ5.lt
      have hA6 := hA5.later hb6
      obtain ⟨w7, hw7⟩ : ∃ w7, w7 = w6.alloc (.cells #[.slice z1 q.caps.length t1, .slice z2 q.codes.length t2, .slice z3 q.sites.length t3] 26) := ⟨_, rfl⟩
      have hb7 : Below w6.heap.size w6 w7 := by rw [hw7]; exact (Below.refl _ w6).alloc (Nat.le_refl _) _
      have hB7 := below_next hB6 hb7 (Nat.le_refl _)
      have hP7 := hP6.later hb7 hP6.lt
      have hQ7 := hQ6.later hb7 hQ6.lt
      have hA7 := hA6.later hb7
      have hC7 := hC6.later hb7
      obtain ⟨B, hB⟩ : ∃ B, B = w6.heap.size := ⟨_, rfl⟩
      have hR7 : Blk w7 B 26 #[.slice z1 q.caps.length t1, .slice z2 q.codes.length t2, .slice z3 q.sites.length t3] := by rw [hw7, hB]; exact blk_new w6 _ _
      have hsize := size_prog w7 (h.later hB7) tame.small
      rw [← HSP.out] at hsize
      have c0 := hP7.cell (k := 0) (v := v1) rfl
      have c1 := hP7.cell (k := 1) (v := v2) rfl
      have c2 := hP7.cell (k := 2) (v := v3) rfl
      rw [hw7] at c0 c1 c2
      clear hget hb6 hb7 hB5 hB6 hP5 hP6 hQ5 hQ6 hA5 hA6
      go_wp2_with fail
      rw [← hw7, ← hB]
      clear hw7
      refine hsize.mono ?_
      rintro e w8 ⟨rfl, hb8⟩
      have hB8 := below_next hB7 hb8 (Nat.le_refl _)
      have hQ8 := hQ7.later hb8 hQ7.lt
      have hR8 := hR7.later hb8 hR7.lt
      have hsm := rsame_any w8 (hA7.later hb8) (hC7.later hb8) hsq
      rw [samePrg_refl] at hsm
      have c0 := hQ8.cell (k := 0) (v := .slice x1 q.caps.length y1) rfl
      have c1 := hQ8.cell (k := 1) (v := .slice x2 q.codes.length y2) rfl
      have c2 := hQ8.cell (k := 2) (v := .slice x3 q.sites.length y3) rfl
      have d0 := hR8.cell (k := 0) (v := .slice z1 q.caps.length t1) rfl
      have d1 := hR8.cell (k := 1) (v := .slice z2 q.codes.length t2) rfl
      have d2 := hR8.cell (k := 2) (v := .slice z3 q.sites.length t3) rfl
      clear hsize hb8 hB7 hP7 hQ7 hR7 hA7 hC7 hB
      go_wp2_with fail
      refine hsm.mono ?_
      rintro e w9 ⟨rfl, hb9⟩
      have hB9 := below_next hB8 hb9 (Nat.le_refl _)
      go_wp2_with (go_at_call 5; refine (hfin _ hB9).mono ?_; rintro e wd ⟨rfl, hb⟩)
      go_ret
      exact ⟨rfl, hb⟩
end Go.Proofs.YtakgcienodigpaaGreat
