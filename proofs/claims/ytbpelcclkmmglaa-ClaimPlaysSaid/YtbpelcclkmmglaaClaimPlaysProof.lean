/-
  For every number of cells, every base, every number of claims, every row of steps and every claim: ClaimPlays returns true, and each argument reads afterwards as before. No condition.
-/
import Derived.Test.YtbpelcclkmmglaaRows
import Derived.WalkKit
import Derived.Test.YtbpelcclkmmglaaJPlaysW
import Derived.ProofKit
import Derived.OpenShut
import Derived.ShutString
import Derived.ChangeOld
import Derived.Below
import Derived.Deep.Slices
namespace Go.Proofs.Ytbpelcclkmmglaa.claimPlays
open Go.ChangeShapes Go.WideShapes Go.ChangeAt Go.RowKit Go.Deep

theorem own : ownKnob Try.prog.godebug = none := by kernel_rfl
theorem laidOut : laidOutB Try.prog = true := by kernel_rfl

/-- The slice a of that length, as it lies in memory: its cells are f's. -/
def In3 (w : World) (a : Option Addr) (len : Nat) : Prop :=
  len = 0 ∨ ∃ (b off : Nat) (f : Nat → Int × Int × Int), a = some ⟨b, off, none⟩ ∧ b < w.heap.size ∧ ∀ j, j < len → w.cell? ⟨b, off + j * 3, none⟩ = some (.int .i64 (f j).1) ∧ w.cell? ⟨b, off + j * 3 + 1, none⟩ = some (.int .i64 (f j).2.1) ∧ w.cell? ⟨b, off + j * 3 + 2, none⟩ = some (.int .u64 (f j).2.2) ∧ (Lit.int .i64 (f j).1).wf = true ∧ (Lit.int .i64 (f j).2.1).wf = true ∧ (Lit.int .u64 (f j).2.2).wf = true
theorem cellsOf3 : Try.prog.cellsOf 40 = 3 := by kernel_rfl
set_option maxRecDepth 100000 in
theorem elem3 {H : Type} {enc : TypeId × Value → H} {W : World} {n : Nat} {y : Addr} {cs : List Value} {x : DataW H × List MemPlace} (h1 : W.cells? 0 y 3 = some cs) (h2 : DataW.trod enc Try.prog W 0 (fun _ => true) true n 40 cs = some x) :
    ∃ q : Int × Int × Int, W.cell? (y) = some (.int .i64 q.1) ∧ W.cell? (y.add 1) = some (.int .i64 q.2.1) ∧ W.cell? (y.add 2) = some (.int .u64 q.2.2) ∧ (Lit.int .i64 q.1).wf = true ∧ (Lit.int .i64 q.2.1).wf = true ∧ (Lit.int .u64 q.2.2).wf = true := by
  obtain ⟨_, hlen, hat⟩ := World.cells?_some h1
  obtain ⟨ys, m, _, _, _, hyl, hf⟩ := DataW.trod_struct Try.underlying40 h2
  match cs, hlen, ys, hyl with
  | [v0, v1, v2], _, [y0, y1, y2], _ =>
    have g0 : DataW.trod enc Try.prog W 0 (fun _ => true) true m 3 (List.take (Try.prog.cellsOf 3) [v0, v1, v2]) = some y0 := hf 0 _ rfl
    rw [show Try.prog.cellsOf 3 = 1 by kernel_rfl, List.take_succ_cons, List.take_zero] at g0
    have g1 : DataW.trod enc Try.prog W 0 (fun _ => true) true m 3 (List.take (Try.prog.cellsOf 3) [v1, v2]) = some y1 := hf 1 _ rfl
    rw [show Try.prog.cellsOf 3 = 1 by kernel_rfl, List.take_succ_cons, List.take_zero] at g1
    have g2 : DataW.trod enc Try.prog W 0 (fun _ => true) true m 33 (List.take (Try.prog.cellsOf 33) [v2]) = some y2 := hf 2 _ rfl
    rw [show Try.prog.cellsOf 33 = 1 by kernel_rfl, List.take_succ_cons, List.take_zero] at g2
    obtain ⟨c0, e0, _, u0⟩ := DataW.trod_int Try.underlying3 g0
    obtain ⟨c1, e1, _, u1⟩ := DataW.trod_int Try.underlying3 g1
    obtain ⟨c2, e2, _, u2⟩ := DataW.trod_int Try.underlying33 g2
    simp only [List.cons.injEq, and_true] at e0 e1 e2
    subst e0 e1 e2
    exact ⟨(c0, c1, c2), by simpa [Addr.add] using hat 0 (by omega), hat 1 (by omega), hat 2 (by omega), u0, u1, u2⟩
theorem in3_of {H : Type} {enc : TypeId × Value → H} {W : World} {a : Option Addr} {len cap : Nat} {d : DataW H} {p : List MemPlace} (h : DataW.Trod enc Try.prog W 0 (fun _ => true) true 22 (.slice a len cap) d p) : In3 W a len := by
  obtain ⟨fuel, hf⟩ := h
  rcases open_slice Try.underlying22 hf with ⟨hcs, _⟩ | ⟨x, l, c, m, n, D, Pl, hcs, _, hl, hm, hmm, _, hx⟩
  · simp [Value.cells] at hcs
    exact .inl hcs.2.1
  · simp [Value.cells] at hcs
    obtain ⟨rfl, rfl, rfl⟩ := hcs
    by_cases h0 : len = 0
    · exact .inl h0
    have hlm : len ≤ m := by rw [hmm]; split <;> omega
    rw [cellsOf3] at hx
    have key : ∀ j, j < len → ∃ q : Int × Int × Int, W.cell? (x.add (j * 3)) = some (.int .i64 q.1) ∧ W.cell? ((x.add (j * 3)).add 1) = some (.int .i64 q.2.1) ∧ W.cell? ((x.add (j * 3)).add 2) = some (.int .u64 q.2.2) ∧ (Lit.int .i64 q.1).wf = true ∧ (Lit.int .i64 q.2.1).wf = true ∧ (Lit.int .u64 q.2.2).wf = true := fun j hj => by
      obtain ⟨cs, h1, h2⟩ := hx j (by omega)
      exact elem3 h1 h2
    obtain ⟨f, hf⟩ := choose_lt key
    obtain ⟨b, off, spot⟩ := x
    have hc0 := (hf 0 (by omega)).1
    have hspot : spot = none := by simpa [Addr.add] using World.cell?_spot hc0
    subst hspot
    have ad : ∀ o j, (Addr.mk b o none).add j = ⟨b, o + j, none⟩ := fun o j => by
      by_cases hj : j = 0
      · subst hj; simp [Addr.add]
      · simp [Addr.add, hj]
    refine .inr ⟨b, off, f, rfl, World.block_lt_of_cell? W _ hc0, fun j hj => ?_⟩
    have r := hf j hj
    simpa only [ad] using r

/-! ### THE WALK -/
theorem walk (a0 : Int) (a1 : Int) (a2 : Int) (a3 : Option Addr) (len3 cap3 : Nat) (a4 : Int) (w : World) (_w0 : (Lit.int .i64 a0).wf = true) (w1 : (Lit.int .i64 a1).wf = true) (w2 : (Lit.int .i64 a2).wf = true) (w3 : In3 w a3 len3) (_w4 : (Lit.int .i64 a4).wf = true) :
    Calls Try.prog 3 #[.int .i64 a0, .int .i64 a1, .int .i64 a2, .slice a3 len3 cap3, .int .i64 a4] w fun e w' => e = .returned (.bool true) ∧ Below w.heap.size w w' := by
  have e1 := bounds_i64 w1
  have e2 := bounds_i64 w2
  have hs : ∃ ss, Steps w (.slice a3 len3 cap3) ss := by
    rcases w3 with rfl | ⟨b, off, f, rfl, _, hf⟩
    · exact ⟨[], .inl ⟨rfl, _, _, rfl⟩⟩
    by_cases h0 : len3 = 0
    · subst h0; exact ⟨[], .inl ⟨rfl, _, _, rfl⟩⟩
    refine ⟨(List.range len3).map fun j => ((f j).1, (f j).2.1, (f j).2.2.toNat), .inr ⟨b, off, cap3, by simp, by simp; omega, fun j hj => ?_⟩⟩
    have hj' : j < len3 := by simpa using hj
    rw [List.getElem?_map, List.getElem?_range hj']
    obtain ⟨r0, r1, r2, _, u1, u2⟩ := hf j hj'
    have b1 := bounds_i64 u1
    have b2 := bounds_u64 u2
    refine ⟨r0, r1, ?_, b1.1, b1.2, ?_⟩
    · show _ = some (Value.int .u64 ((f j).2.2.toNat : Int)); rw [Int.toNat_of_nonneg b2.1]; exact r2
    · show (f j).2.2.toNat < _; omega
  obtain ⟨ss, hs⟩ := hs
  exact plays_walk a0 a1 a2 a4 _ ss w e1 e2 hs

/-! ### THE ROW's STEP -/
set_option maxRecDepth 100000 in
theorem lifted (os : Os) (started : os.Started) (H : Type) (enc : TypeId × Value → H) :
    ReturnsInHanded {} Try.checked os 3 .any (Rows.claimPlaysSpec.pre6 enc Try.prog Try.f3 Rows.claimPlaysRow.domain false) (Rows.claimPlaysSpec.post enc Try.prog Try.f3 false true false false) := by
  refine returnsInHanded_of_change (C := Try.checked) own started (by kernel_rfl) Try.func3
    (ChangeSpec.witness6 (enc := enc) (C := Try.checked) false ⟨#[], #[.int .i64 0, .int .i64 0, .int .i64 0, .slice none 0 0, .int .i64 0], []⟩ 8 (by kernel_rfl) (by kernel_rfl) (by kernel_rfl) (by kernel_rfl)) ?_
  intro W base args ds gs before hval0 hW hcnd _
  have hval : ∀ (j : Nat) t v, Try.f3.params[j]? = some t → args[j]? = some v → Value.okWide Try.prog W .any base t v := hval0
  have hW' := hW
  obtain ⟨p, q, hA0, hV, rfl, hfz, hnd⟩ := hW
  have hA : DataW.TrodAll enc Try.prog W 0 (fun _ => true) true Try.f3.params.toList args.toList ds p := hA0
  rw [Try.params3] at hA hval
  obtain ⟨v0, vs0, d0, ds0, p0, q0, hargs, rfl, rfl, h0, r0⟩ := trodAll_cons hA
  obtain ⟨v1, vs1, d1, ds1, p1, q1, rfl, rfl, rfl, h1, r1⟩ := trodAll_cons r0
  obtain ⟨v2, vs2, d2, ds2, p2, q2, rfl, rfl, rfl, h2, r2⟩ := trodAll_cons r1
  obtain ⟨v3, vs3, d3, ds3, p3, q3, rfl, rfl, rfl, h3, r3⟩ := trodAll_cons r2
  obtain ⟨v4, vs4, d4, ds4, p4, q4, rfl, rfl, rfl, h4, r4⟩ := trodAll_cons r3
  obtain ⟨rfl, rfl, rfl⟩ := trodAll_nil r4
  obtain rfl : args = #[v0, v1, v2, v3, v4] := by cases args; simp_all
  obtain ⟨rfl, rfl⟩ := trodVars_none hV
  obtain ⟨a0, rfl, rfl, rfl, w0⟩ := open_int Try.underlying3 (hval 0 3 v0 rfl rfl) h0
  obtain ⟨a1, rfl, rfl, rfl, w1⟩ := open_int Try.underlying3 (hval 1 3 v1 rfl rfl) h1
  obtain ⟨a2, rfl, rfl, rfl, w2⟩ := open_int Try.underlying3 (hval 2 3 v2 rfl rfl) h2
  obtain ⟨a3, len3, cap3, rfl⟩ := okWide_slice Try.underlying22 (hval 3 22 v3 rfl rfl)
  have k3 := h3
  have lt3 : ∀ x ∈ p3, x.block < W.heap.size := by obtain ⟨m, hm⟩ := k3; exact DataW.trod_lt m _ _ _ hm
  have w3 := in3_of k3
  obtain ⟨a4, rfl, rfl, rfl, w4⟩ := open_int Try.underlying3 (hval 4 3 v4 rfl rfl) h4
  clear hA0 hval0
  refine (walk a0 a1 a2 a3 len3 cap3 a4 W w0 w1 w2 w3 w4).mono fun e W' ⟨he, bel⟩ => ?_
  subst he
  exact ⟨_, rfl, _, _, _, [], _, [], hW', trodAll_mk1 (shut_bool Try.underlying4 _), (trodAll_cons_mk (shut_int Try.underlying3 w0) (trodAll_cons_mk (shut_int Try.underlying3 w1) (trodAll_cons_mk (shut_int Try.underlying3 w2) (trodAll_cons_mk (Below.trod laidOut (by kernel_rfl) (of_decide_eq_true (by kernel_rfl)) k3 bel lt3) (trodAll_cons_mk (shut_int Try.underlying3 w4) trodAll_mk0))))), rfl, bel.frame _, fun h => by cases h⟩

theorem over : Rows.claimPlaysRow.holds Try.pinned (OpenSpec.ofChange Rows.claimPlaysSpec) :=
  OpenClaim.holds_of_wide 3 Try.f3 rfl rfl rfl rfl rfl rfl rfl ⟨rfl, rfl, rfl, rfl, rfl⟩ rfl rfl rfl rfl rfl (by kernel_rfl) Try.func3 (by kernel_rfl)
    (of_decide_eq_true (by kernel_rfl)) (by unfold Func.isWrapper; first | (rw [if_pos (by decide +kernel)]; kernel_rfl) | (rw [if_neg (by decide +kernel)]; exact ⟨rfl, rfl⟩))
    (fun os started H enc _ => lifted os started H enc)

theorem proved : Rows.ClaimPlaysSaid := over
#print axioms proved
end Go.Proofs.Ytbpelcclkmmglaa.claimPlays
