/-
  The walks of the document's reader: num, small, int; what they read, pure.
-/
import Derived.Test.YtengpehiknoheaaDoorERefB
namespace Go.Proofs.YtengpehiknoheaaDoor
open Go.RowKit Go.Shelf Oct

attribute [local go_sem] Oper.semAt_some

def numF (s : List UInt8) (b : Bool) : Nat × List UInt8 × Bool := if b = true ∧ (getR s).2.2 = 0 then ((getR s).1, (getR s).2.1, true) else (0, s, false)
def smallF (g : Bool) (d : Int) (s : List UInt8) (b : Bool) : Int × List UInt8 × Bool :=
  if g = true then (if (numF s b).1 ≤ 1000 then (((numF s b).1 : Int) - d, (numF s b).2) else (0, (numF s b).2.1, false)) else (0, s, b)
def intF (g : Bool) (s : List UInt8) (b : Bool) : Int × List UInt8 × Bool :=
  if g = true then (if b = true ∧ (getR s).2.2 = 0 then (backI (getR s).1, (getR s).2.1, true) else (0, s, false)) else (0, s, b)
def setF (g : Bool) (s : List UInt8) (b : Bool) : Nat × List UInt8 × Bool := if g = true then numF s b else (0, s, b)
/-- The reader's block. -/
def RdB (W : World) (R : Nat) (s : List UInt8) (b : Bool) : Prop := Two W R 70 (.string ⟨s.toArray⟩) (.bool b)
theorem rdB_put {W : World} {R : Nat} {s : List UInt8} {b : Bool} (h : RdB W R s b) (r : List UInt8) : RdB (W.setCell ⟨R, 0, none⟩ (.string ⟨r.toArray⟩)) R r b := by
  have h1 := heap_set_same (k := 0) (.string ⟨r.toArray⟩) h
  simpa [RdB, Two] using h1
theorem rdB_bad {W : World} {R : Nat} {s : List UInt8} {b : Bool} (h : RdB W R s b) : RdB (W.setCell ⟨R, 1, none⟩ (.bool false)) R s false := by
  have h1 := heap_set_same (k := 1) (.bool false) h
  simpa [RdB, Two] using h1

set_option maxRecDepth 100000 in
set_option maxHeartbeats 1600000 in
theorem rdnum_any {v : Nat} {s' : List UInt8} {b' : Bool} (R : Nat) (s : List UInt8) (b : Bool) (w : World) (h : RdB w R s b) (hz : s.length ≤ 100000) (HF : Hid (numF s b = (v, s', b'))) :
    Calls Tryd.prog 56 #[.pointer (some ⟨R, 0, none⟩)] w fun e w' => e = .returned (.int .u64 (v : Int)) ∧ RdB w' R s' b' ∧ But [R] w w' := by
  obtain ⟨u, r, n, hg⟩ : ∃ u r n, getR s = (u, r, n) := ⟨_, _, _, rfl⟩
  have hget : Calls Tryd.prog 69 #[.string ⟨s.toArray⟩] w fun x w' => x = .returned (.tuple #[.int .u64 (u : Int), .string ⟨r.toArray⟩, .int .i64 (n : Int)]) ∧ Below w.heap.size w w' :=
    refGet_at ⟨s.toArray⟩ w (by rw [size_l]; unfold maxLen; omega) (Lib.hid (by rw [data_l]; exact hg))
  have c0 : w.cell? ⟨R, 0, none⟩ = some (.string ⟨s.toArray⟩) := Two.c0 h
  have HG := Lib.hid hg
  clear hg
  go_enter Tryd.func56, Tryd.ntmps56
  go_wp2_with fail
  refine hget.mono ?_
  rintro e w1 ⟨rfl, hb1⟩
  have hR1 : RdB w1 R s b := Two.of_block h (hb1.block _ (Two.lt h))
  have hb2 : But [R] w (w1.setCell ⟨R, 1, none⟩ (.bool false)) := (But.of_below hb1 [R]).set (p := ⟨R, 1, none⟩) (.inl (by simp)) _
  have hb3 : But [R] w (w1.setCell ⟨R, 0, none⟩ (.string ⟨r.toArray⟩)) := (But.of_below hb1 [R]).set (p := ⟨R, 0, none⟩) (.inl (by simp)) _
  have d0 : w1.cell? ⟨R, 0, none⟩ = some (.string ⟨s.toArray⟩) := Two.c0 hR1
  have d1 : w1.cell? ⟨R, 1, none⟩ = some (.bool b) := Two.c1 hR1
  have f0 : w1.frozen? ⟨R, 0, none⟩ = false := Two.frozen hR1 0
  have f1 : w1.frozen? ⟨R, 1, none⟩ = false := Two.frozen hR1 1
  have hR2 := rdB_bad hR1
  have hR3 := rdB_put hR1 r
  clear hget c0 h hb1 hR1
  cases b with
  | false =>
    have e1 : numF s false = (0, s, false) := by unfold numF; simp
    have HE : Hid (v = 0 ∧ s' = s ∧ b' = false) := Lib.hid (by have := HF.out; rw [e1] at this; simp only [Prod.mk.injEq] at this; exact ⟨this.1.symm, this.2.1.symm, this.2.2.symm⟩)
    clear e1 HF hb3 hR3
    go_wp2_with fail
    go_ret
    refine ⟨ret_v (by rw [HE.out.1]; rfl), ?_, hb2⟩
    rw [HE.out.2.1, HE.out.2.2]
    exact hR2
  | true =>
    by_cases hn : n = 0
    · subst hn
      have e1 : numF s true = (u, r, true) := by unfold numF; rw [HG.out]; simp
      have HE : Hid (v = u ∧ s' = r ∧ b' = true) := Lib.hid (by have := HF.out; rw [e1] at this; simp only [Prod.mk.injEq] at this; exact ⟨this.1.symm, this.2.1.symm, this.2.2.symm⟩)
      clear e1 HF hb2 hR2
      go_wp2_with fail
      go_ret
      refine ⟨ret_v (by rw [HE.out.1]; rfl), ?_, hb3⟩
      rw [HE.out.2.1, HE.out.2.2]
      exact hR3
    · have hn' : ((n : Int) != 0) = true := by simp; omega
      have e1 : numF s true = (0, s, false) := by unfold numF; rw [HG.out]; simp [hn]
      have HE : Hid (v = 0 ∧ s' = s ∧ b' = false) := Lib.hid (by have := HF.out; rw [e1] at this; simp only [Prod.mk.injEq] at this; exact ⟨this.1.symm, this.2.1.symm, this.2.2.symm⟩)
      clear e1 HF hb3 hR3 hn
      go_wp2_with fail
      go_ret
      refine ⟨ret_v (by rw [HE.out.1]; rfl), ?_, hb2⟩
      rw [HE.out.2.1, HE.out.2.2]
      exact hR2
theorem numF_len (s : List UInt8) (b : Bool) : (numF s b).2.1.length ≤ s.length := by
  unfold numF
  split
  · exact getR_rest s
  · exact Nat.le_refl _
theorem numF_lt (s : List UInt8) (b : Bool) : (numF s b).1 < 18446744073709551616 := by
  unfold numF
  split
  · exact getR_lt s
  · show 0 < _; omega

set_option maxRecDepth 100000 in
set_option maxHeartbeats 1600000 in
theorem rdsmall_any {v : Int} {s' : List UInt8} {b' : Bool} (R : Nat) (g : Bool) (d : Int) (hd : 0 ≤ d ∧ d ≤ 1) (s : List UInt8) (b : Bool) (w : World) (h : RdB w R s b) (hz : s.length ≤ 100000) (HF : Hid (smallF g d s b = (v, s', b'))) :
    Calls Tryd.prog 57 #[.pointer (some ⟨R, 0, none⟩), .bool g, .int .i64 d] w fun e w' => e = .returned (.int .i64 v) ∧ RdB w' R s' b' ∧ But [R] w w' := by
  cases g with
  | false =>
    have HE : Hid (v = 0 ∧ s' = s ∧ b' = b) := Lib.hid (by have := HF.out; unfold smallF at this; simp at this; exact ⟨this.1.symm, this.2.1.symm, this.2.2.symm⟩)
    clear HF
    go_enter Tryd.func57, Tryd.ntmps57
    go_wp2_with fail
    go_ret
    refine ⟨ret_v (by rw [HE.out.1]; rfl), ?_, But.refl _ _⟩
    rw [HE.out.2.1, HE.out.2.2]
    exact h
  | true =>
    obtain ⟨u, s1, b1, hn⟩ : ∃ u s1 b1, numF s b = (u, s1, b1) := ⟨_, _, _, rfl⟩
    have hlt : u < 18446744073709551616 := by have := numF_lt s b; rwa [hn] at this
    have hcall := rdnum_any R s b w h hz (Lib.hid hn)
    by_cases hu : u ≤ 1000
    · have HE : Hid ((u : Int) - d = v ∧ s1 = s' ∧ b1 = b') := Lib.hid (by have := HF.out; unfold smallF at this; rw [hn] at this; simp [hu] at this; exact this)
      have i1 : ¬ (1000 : Int) < (u : Int) := by omega
      have i2 : IntKind.i64.wrap (u : Int) = (u : Int) := by rw [IntKind.wrap_i64]; omega
      have i3 : IntKind.i64.wrap ((u : Int) - d) = (u : Int) - d := by rw [IntKind.wrap_i64]; omega
      clear HF hn
      go_enter Tryd.func57, Tryd.ntmps57
      go_wp2_with fail
      refine hcall.mono ?_
      rintro e w1 ⟨rfl, hR, hb⟩
      go_wp2_with fail
      go_ret
      refine ⟨ret_v (by rw [← HE.out.1]; rfl), ?_, hb⟩
      rw [← HE.out.2.1, ← HE.out.2.2]
      exact hR
    · have HE : Hid (0 = v ∧ s1 = s' ∧ false = b') := Lib.hid (by have := HF.out; unfold smallF at this; rw [hn] at this; simp [hu] at this; exact ⟨this.1, this.2.1, this.2.2.symm⟩)
      have i1 : (1000 : Int) < (u : Int) := by omega
      clear HF hn
      go_enter Tryd.func57, Tryd.ntmps57
      go_wp2_with fail
      refine hcall.mono ?_
      rintro e w1 ⟨rfl, hR, hb⟩
      have f1 : w1.frozen? ⟨R, 1, none⟩ = false := Two.frozen hR 1
      have d1 : w1.cell? ⟨R, 1, none⟩ = some (.bool b1) := Two.c1 hR
      have hR2 := rdB_bad hR
      have hb2 : But [R] w (w1.setCell ⟨R, 1, none⟩ (.bool false)) := hb.set (p := ⟨R, 1, none⟩) (.inl (by simp)) _
      clear hcall hR hb
      go_wp2_with fail
      go_ret
      refine ⟨ret_v (by rw [← HE.out.1]; rfl), ?_, hb2⟩
      rw [← HE.out.2.1, ← HE.out.2.2]
      exact hR2

set_option maxRecDepth 100000 in
set_option maxHeartbeats 1600000 in
theorem rdint_any {v : Int} {s' : List UInt8} {b' : Bool} (R : Nat) (g : Bool) (s : List UInt8) (b : Bool) (w : World) (h : RdB w R s b) (hz : s.length ≤ 100000) (HF : Hid (intF g s b = (v, s', b'))) :
    Calls Tryd.prog 58 #[.pointer (some ⟨R, 0, none⟩), .bool g] w fun e w' => e = .returned (.int .i64 v) ∧ RdB w' R s' b' ∧ But [R] w w' := by
  cases g with
  | false =>
    have HE : Hid (v = 0 ∧ s' = s ∧ b' = b) := Lib.hid (by have := HF.out; unfold intF at this; simp at this; exact ⟨this.1.symm, this.2.1.symm, this.2.2.symm⟩)
    clear HF
    go_enter Tryd.func58, Tryd.ntmps58
    go_wp2_with fail
    go_ret
    refine ⟨ret_v (by rw [HE.out.1]; rfl), ?_, But.refl _ _⟩
    rw [HE.out.2.1, HE.out.2.2]
    exact h
  | true =>
    obtain ⟨u, r, n, hg⟩ : ∃ u r n, getR s = (u, r, n) := ⟨_, _, _, rfl⟩
    have hget : Calls Tryd.prog 70 #[.string ⟨s.toArray⟩] w fun x w' => x = .returned (.tuple #[.int .i64 (backI u), .string ⟨r.toArray⟩, .int .i64 (n : Int)]) ∧ Below w.heap.size w w' := by
      have := refGetInt_any ⟨s.toArray⟩ w (by rw [size_l]; unfold maxLen; omega)
      unfold GetIntV at this
      rw [data_l, hg] at this
      exact this
    have c0 : w.cell? ⟨R, 0, none⟩ = some (.string ⟨s.toArray⟩) := Two.c0 h
    have HG := Lib.hid hg
    obtain ⟨iv, hiv⟩ : ∃ iv, iv = backI u := ⟨_, rfl⟩
    rw [← hiv] at hget
    have HIV := Lib.hid hiv
    clear hg hiv
    go_enter Tryd.func58, Tryd.ntmps58
    go_wp2_with fail
    refine hget.mono ?_
    rintro e w1 ⟨rfl, hb1⟩
    have hR1 : RdB w1 R s b := Two.of_block h (hb1.block _ (Two.lt h))
    have hb2 : But [R] w (w1.setCell ⟨R, 1, none⟩ (.bool false)) := (But.of_below hb1 [R]).set (p := ⟨R, 1, none⟩) (.inl (by simp)) _
    have hb3 : But [R] w (w1.setCell ⟨R, 0, none⟩ (.string ⟨r.toArray⟩)) := (But.of_below hb1 [R]).set (p := ⟨R, 0, none⟩) (.inl (by simp)) _
    have d0 : w1.cell? ⟨R, 0, none⟩ = some (.string ⟨s.toArray⟩) := Two.c0 hR1
    have d1 : w1.cell? ⟨R, 1, none⟩ = some (.bool b) := Two.c1 hR1
    have f0 : w1.frozen? ⟨R, 0, none⟩ = false := Two.frozen hR1 0
    have f1 : w1.frozen? ⟨R, 1, none⟩ = false := Two.frozen hR1 1
    have hR2 := rdB_bad hR1
    have hR3 := rdB_put hR1 r
    clear hget c0 h hb1 hR1
    cases b with
    | false =>
      have e1 : intF true s false = (0, s, false) := by unfold intF; simp
      have HE : Hid (v = 0 ∧ s' = s ∧ b' = false) := Lib.hid (by have := HF.out; rw [e1] at this; simp only [Prod.mk.injEq] at this; exact ⟨this.1.symm, this.2.1.symm, this.2.2.symm⟩)
      clear e1 HF hb3 hR3
      go_wp2_with fail
      go_ret
      refine ⟨ret_v (by rw [HE.out.1]; rfl), ?_, hb2⟩
      rw [HE.out.2.1, HE.out.2.2]
      exact hR2
    | true =>
      by_cases hn : n = 0
      · subst hn
        have e1 : intF true s true = (iv, r, true) := by unfold intF; rw [HG.out, HIV.out]; simp
        have HE : Hid (v = iv ∧ s' = r ∧ b' = true) := Lib.hid (by have := HF.out; rw [e1] at this; simp only [Prod.mk.injEq] at this; exact ⟨this.1.symm, this.2.1.symm, this.2.2.symm⟩)
        clear e1 HF hb2 hR2
        go_wp2_with fail
        go_ret
        refine ⟨ret_v (by rw [HE.out.1]; rfl), ?_, hb3⟩
        rw [HE.out.2.1, HE.out.2.2]
        exact hR3
      · have hn' : ((n : Int) != 0) = true := by simp; omega
        have e1 : intF true s true = (0, s, false) := by unfold intF; rw [HG.out]; simp [hn]
        have HE : Hid (v = 0 ∧ s' = s ∧ b' = false) := Lib.hid (by have := HF.out; rw [e1] at this; simp only [Prod.mk.injEq] at this; exact ⟨this.1.symm, this.2.1.symm, this.2.2.symm⟩)
        clear e1 HF hb3 hR3 hn
        go_wp2_with fail
        go_ret
        refine ⟨ret_v (by rw [HE.out.1]; rfl), ?_, hb2⟩
        rw [HE.out.2.1, HE.out.2.2]
        exact hR2
theorem smallF_len (g : Bool) (d : Int) (s : List UInt8) (b : Bool) : (smallF g d s b).2.1.length ≤ s.length := by
  unfold smallF
  split
  · split <;> exact numF_len s b
  · exact Nat.le_refl _
theorem intF_len (g : Bool) (s : List UInt8) (b : Bool) : (intF g s b).2.1.length ≤ s.length := by
  unfold intF
  split
  · split
    · exact getR_rest s
    · exact Nat.le_refl _
  · exact Nat.le_refl _
theorem setF_len (g : Bool) (s : List UInt8) (b : Bool) : (setF g s b).2.1.length ≤ s.length := by
  unfold setF
  split
  · exact numF_len s b
  · exact Nat.le_refl _
theorem smallF_b (g : Bool) (d : Int) (hd : 0 ≤ d ∧ d ≤ 1) (s : List UInt8) (b : Bool) : -1 ≤ (smallF g d s b).1 ∧ (smallF g d s b).1 ≤ 1000 := by
  unfold smallF
  split
  · split
    · simp only; omega
    · simp
  · simp
theorem intF_b (g : Bool) (s : List UInt8) (b : Bool) : I64b (intF g s b).1 := by
  have hu := getR_lt s
  unfold intF
  split
  · split
    · unfold I64b backI; simp only; split <;> omega
    · exact i64_zero
  · exact i64_zero
theorem setF_lt (g : Bool) (s : List UInt8) (b : Bool) : (setF g s b).1 < 18446744073709551616 := by
  unfold setF
  split
  · exact numF_lt s b
  · show 0 < _; omega
end Go.Proofs.YtengpehiknoheaaDoor
