/-
  The walk of the law CodeBack.
-/
import Derived.Test.YtakgcienodigpaaKAlive
namespace Go.Proofs.Ytakgcienodigpaa
open Go.RowKit Oct

set_option maxRecDepth 100000 in
set_option maxHeartbeats 3200000 in
theorem back_any {lo hi : Nat} {v1 v2 v3 : Value} {p : Prg} (s : List UInt8) (w : World) (h : PrgAt lo hi w v1 v2 v3 p) (hs : s.length ≤ maxLen) :
    Calls Try.prog 3 #[.agg #[v1, v2, v3], .string ⟨s.toArray⟩] w fun e w' => e = .returned (.bool true) ∧ Below w.heap.size w w' := by
  obtain ⟨wf, hwf⟩ : ∃ wf, wf = w.alloc (.cells #[v1, v2, v3] 26) := ⟨_, rfl⟩
  have hB0 : Below w.heap.size w wf := by rw [hwf]; exact (Below.refl _ w).alloc (Nat.le_refl _) _
  have hP : Blk wf w.heap.size 26 #[v1, v2, v3] := by rw [hwf]; exact blk_new w _ _
  have hlp : Calls Try.prog 5 #[.agg #[v1, v2, v3]] wf (LongPost wf p) := long_any wf (h.later hB0)
  have hfin : ∀ W, Below w.heap.size w W → Calls Try.prog 6 #[] W fun e w' => e = .returned (.bool true) ∧ Below w.heap.size w w' := fun W hW => (alive_any W).mono fun e w' ⟨e1, e2⟩ => ⟨e1, below_next hW e2 (Nat.le_refl _)⟩
  have hsz : (⟨s.toArray⟩ : ByteArray).size = s.length := size_of s
  have c0 := hP.cell (k := 0) (v := v1) rfl
  have c1 := hP.cell (k := 1) (v := v2) rfl
  have c2 := hP.cell (k := 2) (v := v3) rfl
  rw [hwf] at c0 c1 c2
  go_enter Try.func3, Try.ntmps3
  go_wp2_with fail
  rw [← hwf]
  clear hwf
  refine hlp.mono ?_
  rintro e w1 ⟨b1, rfl, hT1, hb1⟩
  have hB1 := below_next hB0 hb1 (Nat.le_refl _)
  have hP1 := hP.later hb1 hP.lt
  clear hlp c0 c1 c2 hb1 hP hB0
  cases b1 with
  | true =>
    go_wp2_with (go_at_call 6; refine (hfin _ hB1).mono ?_; rintro e w2 ⟨rfl, hb⟩)
    go_ret
    exact ⟨rfl, hb⟩
  | false =>
    have tame := hT1 rfl
    clear hT1
    by_cases hl : 8192 < s.length
    · have hl' : (8192 : Int) < (s.length : Int) := by omega
      go_wp2_with (go_at_call 6; refine (hfin _ hB1).mono ?_; rintro e w2 ⟨rfl, hb⟩)
      go_ret
      exact ⟨rfl, hb⟩
    · have hl' : ¬ (8192 : Int) < (s.length : Int) := by omega
      have hld : decide ((8192 : Int) < (s.length : Int)) = false := decide_eq_false hl'
      have hf := h.fits
      have zp := putS_size hf
      have hck := progCheck_any w1 (h.later hB1) tame.small
      obtain ⟨x, y, z, ht⟩ : ∃ x y z, checkT p = (x, y, z) := ⟨_, _, _, rfl⟩
      have hz : z = 0 ↔ checkW p = none := by rw [← check_zero, ht]
      rw [ht] at hck
      simp only at hck
      have c0 := hP1.cell (k := 0) (v := v1) rfl
      have c1 := hP1.cell (k := 1) (v := v2) rfl
      have c2 := hP1.cell (k := 2) (v := v3) rfl
      clear ht
      go_wp2_with fail
      refine hck.mono ?_
      rintro e w2 ⟨rfl, hb2⟩
      have hB2 := below_next hB1 hb2 (Nat.le_refl _)
      have hP2 := hP1.later hb2 hP1.lt
      have hput := put_prog w2 (h.later hB2) tame.small
      have c0 := hP2.cell (k := 0) (v := v1) rfl
      have c1 := hP2.cell (k := 1) (v := v2) rfl
      have c2 := hP2.cell (k := 2) (v := v3) rfl
      clear hck hP1 hB1 hb2
      go_wp2_with fail
      refine hput.mono ?_
      rintro e w3 ⟨rfl, hb3⟩
      have hB3 := below_next hB2 hb3 (Nat.le_refl _)
      have hP3 := hP2.later hb3 hP2.lt
      have hsize := size_prog w3 (h.later hB3) tame.small
      have c0 := hP3.cell (k := 0) (v := v1) rfl
      have c1 := hP3.cell (k := 1) (v := v2) rfl
      have c2 := hP3.cell (k := 2) (v := v3) rfl
      clear hput hP2 hB2 hb3
      cases m1 : mayP p with
      | false =>
        have E1 : putE p = 2 := by unfold putE; rw [m1]; rfl
        have E3 : putS p = [] := by unfold putS; rw [m1]; rfl
        have hz0 : (z == 0) = false := by
          have : ¬ z = 0 := fun e => by rw [mayP_iff.2 (hz.1 e)] at m1; cases m1
          simpa using this
        rw [E3] at hsize
        rw [E1, E3]
        clear hz m1 E1 E3 zp
        go_wp2_with fail
        refine hsize.mono ?_
        rintro e w4 ⟨rfl, hb4⟩
        have hB4 := below_next hB3 hb4 (Nat.le_refl _)
        clear hsize hP3 hB3 hb4 c0 c1 c2
        cases hg : getP s with
        | none =>
          have hget := get_none w4 hs hg
          clear hg
          go_wp2_with fail
          refine hget.mono ?_
          rintro e wa ⟨rfl, hba⟩
          obtain ⟨wb, hwb⟩ : ∃ wb, wb = wa.alloc (.cells #[.slice none 0 0, .slice none 0 0, .slice none 0 0] 26) := ⟨_, rfl⟩
          have hbb : Below wa.heap.size wa wb := by rw [hwb]; exact (Below.refl _ wa).alloc (Nat.le_refl _) _
          have hBb := below_next (below_next hB4 hba (Nat.le_refl _)) hbb (Nat.le_refl _)
          have hQ : Blk wb wa.heap.size 26 #[.slice none 0 0, .slice none 0 0, .slice none 0 0] := by rw [hwb]; exact blk_new wa _ _
          have q0 := hQ.cell (k := 0) (v := .slice none 0 0) rfl
          have q1 := hQ.cell (k := 1) (v := .slice none 0 0) rfl
          have q2 := hQ.cell (k := 2) (v := .slice none 0 0) rfl
          rw [hwb] at q0 q1 q2
          have hsm := same_any wb (noneAt wb) (noneAt wb) none_small
          rw [samePrg_refl] at hsm
          clear hget hba hbb
          go_wp2_with fail
          rw [← hwb]
          clear hwb
          refine hsm.mono ?_
          rintro e wc ⟨rfl, hbc⟩
          have hBc := below_next hBb hbc (Nat.le_refl _)
          go_wp2_with (go_at_call 6; refine (hfin _ hBc).mono ?_; rintro e wd ⟨rfl, hb⟩)
          go_ret
          exact ⟨rfl, hb⟩
        | some qq =>
          obtain ⟨q, r⟩ := qq
          have hget := get_some w4 hs hg
          obtain ⟨m2, hbk⟩ := getP_back hg
          clear hg
          go_wp2_with fail
          refine hget.mono ?_
          rintro e wa ⟨u1, u2, u3, rfl, hA, hfq, hsq, hba⟩
          obtain ⟨x1, y1, rfl⟩ := hA.caps.slice
          obtain ⟨x2, y2, rfl⟩ := hA.codes.slice
          obtain ⟨x3, y3, rfl⟩ := hA.sites.slice
          obtain ⟨wb, hwb⟩ : ∃ wb, wb = wa.alloc (.cells #[.slice x1 q.caps.length y1, .slice x2 q.codes.length y2, .slice x3 q.sites.length y3] 26) := ⟨_, rfl⟩
          have hbb : Below wa.heap.size wa wb := by rw [hwb]; exact (Below.refl _ wa).alloc (Nat.le_refl _) _
          have hBb := below_next (below_next hB4 hba (Nat.le_refl _)) hbb (Nat.le_refl _)
          have hQ : Blk wb wa.heap.size 26 #[.slice x1 q.caps.length y1, .slice x2 q.codes.length y2, .slice x3 q.sites.length y3] := by rw [hwb]; exact blk_new wa _ _
          have q0 := hQ.cell (k := 0) (v := .slice x1 q.caps.length y1) rfl
          have q1 := hQ.cell (k := 1) (v := .slice x2 q.codes.length y2) rfl
          have q2 := hQ.cell (k := 2) (v := .slice x3 q.sites.length y3) rfl
          rw [hwb] at q0 q1 q2
          have hput := put_prog wb (hA.later hbb) hsq
          have E2 : putE q = 0 := by unfold putE; rw [m2]; rfl
          rw [E2] at hput
          obtain ⟨U, hU⟩ : ∃ U, U = putS q := ⟨_, rfl⟩
          rw [← hU] at hput hbk
          have zu : ¬ 9223372036854775807 < U.length + r.length := by
            have := congrArg List.length hbk
            rw [List.length_append] at this
            omega
          have hbe : ((({ data := U.toArray } : ByteArray) ++ { data := r.toArray }).toList == s) = true := by rw [str_app, hbk]; simp
          clear hget hba hbb hU E2
          go_wp2_with fail
          rw [← hwb]
          clear hwb
          refine hput.mono ?_
          rintro e wc ⟨rfl, hbc⟩
          have hBc := below_next hBb hbc (Nat.le_refl _)
          clear hbk
          go_wp2_with (go_at_call 6; refine (hfin _ hBc).mono ?_; rintro e wd ⟨rfl, hb⟩)
          go_ret
          exact ⟨rfl, hb⟩
      | true =>
        have E1 : putE p = 0 := by unfold putE; rw [m1]; rfl
        have hz0 : z = 0 := hz.2 (mayP_iff.1 m1)
        subst hz0
        have hgp := getP_put m1 hf.codes s
        obtain ⟨S, hS⟩ : ∃ S, S = putS p := ⟨_, rfl⟩
        rw [← hS] at hsize hgp zp
        rw [E1, ← hS]
        have zs : ¬ 9223372036854775807 < S.length + s.length := by omega
        clear hz m1 E1 hS
        go_wp2_with fail
        refine hsize.mono ?_
        rintro e w4 ⟨rfl, hb4⟩
        have hB4 := below_next hB3 hb4 (Nat.le_refl _)
        have hP4 := hP3.later hb4 hP3.lt
        have hget := get_some w4 (by rw [List.length_append]; unfold maxLen; omega) hgp
        clear hsize hP3 hB3 hb4 c0 c1 c2 hgp
        go_wp2_with fail
        rw [str_app]
        refine hget.mono ?_
        rintro e w5 ⟨u1, u2, u3, rfl, hA, -, -, hb5⟩
        obtain ⟨x1, y1, rfl⟩ := hA.caps.slice
        obtain ⟨x2, y2, rfl⟩ := hA.codes.slice
        obtain ⟨x3, y3, rfl⟩ := hA.sites.slice
        obtain ⟨w6, hw6⟩ : ∃ w6, w6 = w5.alloc (.cells #[.slice x1 p.caps.length y1, .slice x2 p.codes.length y2, .slice x3 p.sites.length y3] 26) := ⟨_, rfl⟩
        have hb6 : Below w5.heap.size w5 w6 := by rw [hw6]; exact (Below.refl _ w5).alloc (Nat.le_refl _) _
        have hB6 := below_next (below_next hB4 hb5 (Nat.le_refl _)) hb6 (Nat.le_refl _)
        have hQ : Blk w6 w5.heap.size 26 #[.slice x1 p.caps.length y1, .slice x2 p.codes.length y2, .slice x3 p.sites.length y3] := by rw [hw6]; exact blk_new w5 _ _
        have hP6 := (hP4.later hb5 hP4.lt).later hb6 (hP4.later hb5 hP4.lt).lt
        have c0 := hP6.cell (k := 0) (v := v1) rfl
        have c1 := hP6.cell (k := 1) (v := v2) rfl
        have c2 := hP6.cell (k := 2) (v := v3) rfl
        have q0 := hQ.cell (k := 0) (v := .slice x1 p.caps.length y1) rfl
        have q1 := hQ.cell (k := 1) (v := .slice x2 p.codes.length y2) rfl
        have q2 := hQ.cell (k := 2) (v := .slice x3 p.sites.length y3) rfl
        rw [hw6] at c0 c1 c2 q0 q1 q2
        have hsm := same_any w6 (h.later hB6) (hA.later hb6) tame.small
        rw [samePrg_refl] at hsm
        clear hget hb5 hb6 hB4 hP4 hQ hA
        go_wp2_with fail
        rw [← hw6]
        clear hw6
        refine hsm.mono ?_
        rintro e w7 ⟨rfl, hb7⟩
        have hB7 := below_next hB6 hb7 (Nat.le_refl _)
        clear hsm hb7 hB6 hP6 c0 c1 c2 q0 q1 q2
        cases hg : getP s with
        | none =>
          have hget := get_none w7 hs hg
          clear hg
          go_wp2_with fail
          refine hget.mono ?_
          rintro e wa ⟨rfl, hba⟩
          obtain ⟨wb, hwb⟩ : ∃ wb, wb = wa.alloc (.cells #[.slice none 0 0, .slice none 0 0, .slice none 0 0] 26) := ⟨_, rfl⟩
          have hbb : Below wa.heap.size wa wb := by rw [hwb]; exact (Below.refl _ wa).alloc (Nat.le_refl _) _
          have hBb := below_next (below_next hB7 hba (Nat.le_refl _)) hbb (Nat.le_refl _)
          have hQ : Blk wb wa.heap.size 26 #[.slice none 0 0, .slice none 0 0, .slice none 0 0] := by rw [hwb]; exact blk_new wa _ _
          have q0 := hQ.cell (k := 0) (v := .slice none 0 0) rfl
          have q1 := hQ.cell (k := 1) (v := .slice none 0 0) rfl
          have q2 := hQ.cell (k := 2) (v := .slice none 0 0) rfl
          rw [hwb] at q0 q1 q2
          have hsm := same_any wb (noneAt wb) (noneAt wb) none_small
          rw [samePrg_refl] at hsm
          clear hget hba hbb
          go_wp2_with fail
          rw [← hwb]
          clear hwb
          refine hsm.mono ?_
          rintro e wc ⟨rfl, hbc⟩
          have hBc := below_next hBb hbc (Nat.le_refl _)
          go_wp2_with (go_at_call 6; refine (hfin _ hBc).mono ?_; rintro e wd ⟨rfl, hb⟩)
          go_ret
          exact ⟨rfl, hb⟩
        | some qq =>
          obtain ⟨q, r⟩ := qq
          have hget := get_some w7 hs hg
          obtain ⟨m2, hbk⟩ := getP_back hg
          clear hg
          go_wp2_with fail
          refine hget.mono ?_
          rintro e wa ⟨u1, u2, u3, rfl, hA, hfq, hsq, hba⟩
          obtain ⟨x1, y1, rfl⟩ := hA.caps.slice
          obtain ⟨x2, y2, rfl⟩ := hA.codes.slice
          obtain ⟨x3, y3, rfl⟩ := hA.sites.slice
          obtain ⟨wb, hwb⟩ : ∃ wb, wb = wa.alloc (.cells #[.slice x1 q.caps.length y1, .slice x2 q.codes.length y2, .slice x3 q.sites.length y3] 26) := ⟨_, rfl⟩
          have hbb : Below wa.heap.size wa wb := by rw [hwb]; exact (Below.refl _ wa).alloc (Nat.le_refl _) _
          have hBb := below_next (below_next hB7 hba (Nat.le_refl _)) hbb (Nat.le_refl _)
          have hQ : Blk wb wa.heap.size 26 #[.slice x1 q.caps.length y1, .slice x2 q.codes.length y2, .slice x3 q.sites.length y3] := by rw [hwb]; exact blk_new wa _ _
          have q0 := hQ.cell (k := 0) (v := .slice x1 q.caps.length y1) rfl
          have q1 := hQ.cell (k := 1) (v := .slice x2 q.codes.length y2) rfl
          have q2 := hQ.cell (k := 2) (v := .slice x3 q.sites.length y3) rfl
          rw [hwb] at q0 q1 q2
          have hput := put_prog wb (hA.later hbb) hsq
          have E2 : putE q = 0 := by unfold putE; rw [m2]; rfl
          rw [E2] at hput
          obtain ⟨U, hU⟩ : ∃ U, U = putS q := ⟨_, rfl⟩
          rw [← hU] at hput hbk
          have zu : ¬ 9223372036854775807 < U.length + r.length := by
            have := congrArg List.length hbk
            rw [List.length_append] at this
            omega
          have hbe : ((({ data := U.toArray } : ByteArray) ++ { data := r.toArray }).toList == s) = true := by rw [str_app, hbk]; simp
          clear hget hba hbb hU E2
          go_wp2_with fail
          rw [← hwb]
          clear hwb
          refine hput.mono ?_
          rintro e wc ⟨rfl, hbc⟩
          have hBc := below_next hBb hbc (Nat.le_refl _)
          clear hbk
          go_wp2_with (go_at_call 6; refine (hfin _ hBc).mono ?_; rintro e wd ⟨rfl, hb⟩)
          go_ret
          exact ⟨rfl, hb⟩
end Go.Proofs.Ytakgcienodigpaa
