/-
  The walk of the law CodeApart.
-/
import Derived.Test.YtakgcienodigpaaKAlive
namespace Go.Proofs.Ytakgcienodigpaa
open Go.RowKit Oct

theorem samePrg_eq {p q : Prg} (h : samePrg p q = true) : p = q := by
  unfold samePrg at h
  simp only [Bool.and_eq_true] at h
  obtain ⟨h1, h2, h3⟩ := h
  have e1 := same_eq (fun x y h => by simpa using h) h1
  have e2 := same_eq (fun x y h => same_eq (fun a b h => In.eq_iff.1 h) h) h2
  have e3 := same_eq (f := Sit.eq) (fun x y h => by
    unfold Sit.eq at h
    simp only [Bool.and_eq_true, beq_iff_eq] at h
    have := same_eq (fun a b h => Cas.eq_iff.1 h) h.2
    cases x; cases y
    simp_all) h3
  cases p; cases q
  simp_all
theorem putS_apart {p q : Prg} (hp : mayP p = true) (hq : mayP q = true) (fp : Fits p) (fq : Fits q) (h : samePrg p q = false) : ¬ putS p = putS q ∧ (putS q).take (putS p).length ≠ putS p := by
  have hne : p ≠ q := fun e => by rw [e, samePrg_refl] at h; cases h
  have key : ∀ s t, putS p ++ s = putS q ++ t → False := fun s t e => by
    unfold putS at e
    rw [if_pos hp, if_pos hq] at e
    exact hne (prg_apart (mayP_iff.1 hp) (mayP_iff.1 hq) fp.codes fq.codes e).1
  refine ⟨fun e => key [] [] (by rw [e]), fun e => key ((putS q).drop (putS p).length) [] ?_⟩
  rw [List.append_nil]
  conv => lhs; rw [← e]
  rw [e]
  have := List.take_append_drop (putS p).length (putS q)
  rw [e] at this
  exact this

theorem take_ext (S T : List UInt8) : (((⟨T.toArray⟩ : ByteArray).extract 0 S.length).toList == S) = decide (T.take S.length = S) := by
  have : ((⟨T.toArray⟩ : ByteArray).extract 0 S.length) = ⟨(T.take S.length).toArray⟩ := by rw [Lib.extract_eq]; simp
  have e2 : (⟨(T.take S.length).toArray⟩ : ByteArray).toList = T.take S.length := by simp
  rw [this, e2]
  by_cases e : T.take S.length = S <;> simp [e]

set_option maxRecDepth 100000 in
set_option maxHeartbeats 3200000 in
theorem apart_any {lo hi lo' hi' : Nat} {v1 v2 v3 u1 u2 u3 : Value} {p q : Prg} (w : World) (h1 : PrgAt lo hi w v1 v2 v3 p) (h2 : PrgAt lo' hi' w u1 u2 u3 q) :
    Calls Try.prog 4 #[.agg #[v1, v2, v3], .agg #[u1, u2, u3]] w fun e w' => e = .returned (.bool true) ∧ Below w.heap.size w w' := by
  obtain ⟨wf, hwf⟩ : ∃ wf, wf = (w.alloc (.cells #[v1, v2, v3] 26)).alloc (.cells #[u1, u2, u3] 26) := ⟨_, rfl⟩
  have hB0 : Below w.heap.size w wf := by rw [hwf]; exact below2 w _ _
  have hP : Blk wf w.heap.size 26 #[v1, v2, v3] := by rw [hwf]; exact (blk_new w _ _).alloc _
  have hQ : Blk wf (w.heap.size + 1) 26 #[u1, u2, u3] := by rw [hwf]; exact blk_at (World.size_alloc _ _).symm
  have hlp : Calls Try.prog 5 #[.agg #[v1, v2, v3]] wf (LongPost wf p) := long_any wf (h1.later hB0)
  have c0 := hP.cell (k := 0) (v := v1) rfl
  have c1 := hP.cell (k := 1) (v := v2) rfl
  have c2 := hP.cell (k := 2) (v := v3) rfl
  rw [hwf] at c0 c1 c2
  go_enter Try.func4, Try.ntmps4
  go_wp2_with fail
  rw [← hwf]
  clear hwf
  refine hlp.mono ?_
  rintro e w1 ⟨b1, rfl, hT1, hb1⟩
  have hB1 := below_next hB0 hb1 (Nat.le_refl _)
  clear hlp c0 c1 c2
  have hfin : ∀ W, Below w.heap.size w W → Calls Try.prog 6 #[] W fun e w' => e = .returned (.bool true) ∧ Below w.heap.size w w' := fun W hW => (alive_any W).mono fun e w' ⟨e1, e2⟩ => ⟨e1, below_next hW e2 (Nat.le_refl _)⟩
  cases b1 with
  | true =>
    go_wp2_with (go_at_call 6; refine (hfin _ hB1).mono ?_; rintro e w2 ⟨rfl, hb⟩)
    go_ret
    exact ⟨rfl, hb⟩
  | false =>
    have tame1 := hT1 rfl
    have hP1 := hP.later hb1 hP.lt
    have hQ1 := hQ.later hb1 hQ.lt
    have hlq : Calls Try.prog 5 #[.agg #[u1, u2, u3]] w1 (LongPost w1 q) := long_any w1 (h2.later hB1)
    have c0 := hQ1.cell (k := 0) (v := u1) rfl
    have c1 := hQ1.cell (k := 1) (v := u2) rfl
    have c2 := hQ1.cell (k := 2) (v := u3) rfl
    clear hT1 hP hQ hb1 hB0
    go_wp2_with fail
    refine hlq.mono ?_
    rintro e w2 ⟨b2, rfl, hT2, hb2⟩
    have hB2 := below_next hB1 hb2 (Nat.le_refl _)
    cases b2 with
    | true =>
      go_wp2_with (go_at_call 6; refine (hfin _ hB2).mono ?_; rintro e w2 ⟨rfl, hb⟩)
      go_ret
      exact ⟨rfl, hb⟩
    | false =>
      have tame2 := hT2 rfl
      have hP2 := hP1.later hb2 hP1.lt
      have hQ2 := hQ1.later hb2 hQ1.lt
      have fp := h1.fits
      have fq := h2.fits
      have c3 := hP2.cell (k := 0) (v := v1) rfl
      have c4 := hP2.cell (k := 1) (v := v2) rfl
      have c5 := hP2.cell (k := 2) (v := v3) rfl
      have hput := put_prog w2 (h1.later hB2) tame1.small
      clear hT2 hP1 hQ1 hb2 hB1 hlq c0 c1 c2
      go_wp2_with fail
      refine hput.mono ?_
      rintro e w3 ⟨rfl, hb3⟩
      have hB3 := below_next hB2 hb3 (Nat.le_refl _)
      have hP3 := hP2.later hb3 hP2.lt
      have hQ3 := hQ2.later hb3 hQ2.lt
      have c0 := hQ3.cell (k := 0) (v := u1) rfl
      have c1 := hQ3.cell (k := 1) (v := u2) rfl
      have c2 := hQ3.cell (k := 2) (v := u3) rfl
      have hput := put_prog w3 (h2.later hB3) tame2.small
      clear hP2 hQ2 hb3 hB2 c3 c4 c5
      go_wp2_with fail
      refine hput.mono ?_
      rintro e w4 ⟨rfl, hb4⟩
      have hB4 := below_next hB3 hb4 (Nat.le_refl _)
      have hP4 := hP3.later hb4 hP3.lt
      have hQ4 := hQ3.later hb4 hQ3.lt
      clear hput hP3 hQ3 hb4 hB3 c0 c1 c2
      cases m1 : mayP p with
      | false =>
        have E1 : putE p = 2 := by unfold putE; rw [m1]; rfl
        have E2 : (putE p != 0) = true := by rw [E1]; rfl
        go_wp2_with (go_at_call 6; refine (hfin _ hB4).mono ?_; rintro e w2 ⟨rfl, hb⟩)
        go_ret
        exact ⟨rfl, hb⟩
      | true =>
        have E1 : putE p = 0 := by unfold putE; rw [m1]; rfl
        cases m2 : mayP q with
        | false =>
          have E2 : putE q = 2 := by unfold putE; rw [m2]; rfl
          go_wp2_with (go_at_call 6; refine (hfin _ hB4).mono ?_; rintro e w2 ⟨rfl, hb⟩)
          go_ret
          exact ⟨rfl, hb⟩
        | true =>
          have E2 : putE q = 0 := by unfold putE; rw [m2]; rfl
          have zp := putS_size fp
          have zq := putS_size fq
          cases hs : samePrg p q with
          | true =>
            have hpq := congrArg putS (samePrg_eq hs)
            have c0 := hP4.cell (k := 0) (v := v1) rfl
            have c1 := hP4.cell (k := 1) (v := v2) rfl
            have c2 := hP4.cell (k := 2) (v := v3) rfl
            have c3 := hQ4.cell (k := 0) (v := u1) rfl
            have c4 := hQ4.cell (k := 1) (v := u2) rfl
            have c5 := hQ4.cell (k := 2) (v := u3) rfl
            obtain ⟨S, hS⟩ : ∃ S, S = putS q := ⟨_, rfl⟩
            rw [← hS] at hpq zq
            rw [hpq]
            rw [← hS]
            clear hS hpq zp
            have he : ((({ data := S.toArray } : ByteArray).extract 0 S.length).toList == S) = true := by rw [take_ext S S]; simp
            have hsm := same_any w4 (h1.later hB4) (h2.later hB4) tame1.small
            rw [hs] at hsm
            go_wp2_with fail
            refine hsm.mono ?_
            rintro e w5 ⟨rfl, hb5⟩
            have hP5 := hP4.later hb5 hP4.lt
            have hQ5 := hQ4.later hb5 hQ4.lt
            have hB5 := below_next hB4 hb5 (Nat.le_refl _)
            have c0 := hP5.cell (k := 0) (v := v1) rfl
            have c1 := hP5.cell (k := 1) (v := v2) rfl
            have c2 := hP5.cell (k := 2) (v := v3) rfl
            have c3 := hQ5.cell (k := 0) (v := u1) rfl
            have c4 := hQ5.cell (k := 1) (v := u2) rfl
            have c5 := hQ5.cell (k := 2) (v := u3) rfl
            have hsm := same_any w5 (h1.later hB5) (h2.later hB5) tame1.small
            rw [hs] at hsm
            go_wp2_with fail
            refine hsm.mono ?_
            rintro e w6 ⟨rfl, hb6⟩
            have hB6 := below_next hB5 hb6 (Nat.le_refl _)
            go_wp2_with (go_at_call 6; refine (hfin _ hB6).mono ?_; rintro e w2 ⟨rfl, hb⟩)
            go_ret
            exact ⟨rfl, hb⟩
          | false =>
            obtain ⟨hne, htk⟩ := putS_apart m1 m2 fp fq hs
            have c0 := hP4.cell (k := 0) (v := v1) rfl
            have c1 := hP4.cell (k := 1) (v := v2) rfl
            have c2 := hP4.cell (k := 2) (v := v3) rfl
            have c3 := hQ4.cell (k := 0) (v := u1) rfl
            have c4 := hQ4.cell (k := 1) (v := u2) rfl
            have c5 := hQ4.cell (k := 2) (v := u3) rfl
            obtain ⟨S, hS⟩ : ∃ S, S = putS p := ⟨_, rfl⟩
            obtain ⟨T, hT⟩ : ∃ T, T = putS q := ⟨_, rfl⟩
            rw [← hS, ← hT] at hne htk
            rw [← hS] at zp
            rw [← hT] at zq
            rw [← hS, ← hT]
            have hst : (S == T) = false := by simpa using hne
            have hsm := same_any w4 (h1.later hB4) (h2.later hB4) tame1.small
            rw [hs] at hsm
            have hsm2 : ∀ W, Below w.heap.size w W → Calls Try.prog 11 #[.agg #[v1, v2, v3], .agg #[u1, u2, u3]] W fun e w' => e = .returned (.bool false) ∧ Below w.heap.size w w' := fun W hW => by
              have := same_any W (h1.later hW) (h2.later hW) tame1.small
              rw [hs] at this
              exact this.mono fun e w' ⟨e1, e2⟩ => ⟨e1, below_next hW e2 (Nat.le_refl _)⟩
            clear hS hT
            by_cases hl : S.length ≤ T.length
            · have hl' : (S.length : Int) ≤ (T.length : Int) := by omega
              have he : ((({ data := T.toArray } : ByteArray).extract 0 S.length).toList == S) = false := by rw [take_ext S T]; simpa using htk
              go_wp2_with fail
              refine hsm.mono ?_
              rintro e w5 ⟨rfl, hb5⟩
              have hP5 := hP4.later hb5 hP4.lt
              have hQ5 := hQ4.later hb5 hQ4.lt
              have hB5 := below_next hB4 hb5 (Nat.le_refl _)
              have c0 := hP5.cell (k := 0) (v := v1) rfl
              have c1 := hP5.cell (k := 1) (v := v2) rfl
              have c2 := hP5.cell (k := 2) (v := v3) rfl
              have c3 := hQ5.cell (k := 0) (v := u1) rfl
              have c4 := hQ5.cell (k := 1) (v := u2) rfl
              have c5 := hQ5.cell (k := 2) (v := u3) rfl
              clear hne htk
              go_wp2_with fail
              refine (hsm2 _ hB5).mono ?_
              rintro e w6 ⟨rfl, hB6⟩
              go_wp2_with (go_at_call 6; refine (hfin _ hB6).mono ?_; rintro e w2 ⟨rfl, hb⟩)
              go_ret
              exact ⟨rfl, hb⟩
            · have hl' : ¬ (S.length : Int) ≤ (T.length : Int) := by omega
              have hld : decide ((S.length : Int) ≤ (T.length : Int)) = false := by simpa using hl
              go_wp2_with fail
              refine hsm.mono ?_
              rintro e w5 ⟨rfl, hb5⟩
              have hP5 := hP4.later hb5 hP4.lt
              have hQ5 := hQ4.later hb5 hQ4.lt
              have hB5 := below_next hB4 hb5 (Nat.le_refl _)
              have c0 := hP5.cell (k := 0) (v := v1) rfl
              have c1 := hP5.cell (k := 1) (v := v2) rfl
              have c2 := hP5.cell (k := 2) (v := v3) rfl
              have c3 := hQ5.cell (k := 0) (v := u1) rfl
              have c4 := hQ5.cell (k := 1) (v := u2) rfl
              have c5 := hQ5.cell (k := 2) (v := u3) rfl
              clear hne htk
              go_wp2_with fail
              refine (hsm2 _ hB5).mono ?_
              rintro e w6 ⟨rfl, hB6⟩
              go_wp2_with (go_at_call 6; refine (hfin _ hB6).mono ?_; rintro e w2 ⟨rfl, hb⟩)
              go_ret
              exact ⟨rfl, hb⟩
end Go.Proofs.Ytakgcienodigpaa
