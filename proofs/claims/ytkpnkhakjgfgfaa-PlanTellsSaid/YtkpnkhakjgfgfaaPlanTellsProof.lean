/-
  For every byte, every row of steps and either operation: PlanTells returns true, and its arguments read afterwards as before: what an operation does that sees any channel, whether it is quiet, and who is woken first, is as the document says. No condition.
-/
import Derived.Test.YtkpnkhakjgfgfaaRows
import Derived.WalkKit
import Derived.Test.YtkpnkhakjgfgfaaPKTells
import Derived.ProofKit
import Derived.OpenShut
import Derived.ShutString
import Derived.ChangeOld
import Derived.Below
import Derived.Deep.Slices
namespace Go.Proofs.Ytkpnkhakjgfgfaa.planTells
open Go.ChangeShapes Go.WideShapes Go.ChangeAt Go.RowKit Go.Deep

theorem own : ownKnob Try.prog.godebug = none := by kernel_rfl
theorem laidOut : laidOutB Try.prog = true := by kernel_rfl

/-- The slice a of that length, as it lies in memory: its cells are f's. -/
def In1 (w : World) (a : Option Addr) (len : Nat) : Prop :=
  len = 0 ∨ ∃ (b off : Nat) (f : Nat → Int × Bool × Int × Int), a = some ⟨b, off, none⟩ ∧ b < w.heap.size ∧ ∀ j, j < len → w.cell? ⟨b, off + j * 4, none⟩ = some (.int .i64 (f j).1) ∧ w.cell? ⟨b, off + j * 4 + 1, none⟩ = some (.bool (f j).2.1) ∧ w.cell? ⟨b, off + j * 4 + 2, none⟩ = some (.int .i64 (f j).2.2.1) ∧ w.cell? ⟨b, off + j * 4 + 3, none⟩ = some (.int .i64 (f j).2.2.2) ∧ (Lit.int .i64 (f j).1).wf = true ∧ True ∧ (Lit.int .i64 (f j).2.2.1).wf = true ∧ (Lit.int .i64 (f j).2.2.2).wf = true
theorem cellsOf1 : Try.prog.cellsOf 49 = 4 := by kernel_rfl
set_option maxRecDepth 100000 in
theorem elem1 {H : Type} {enc : TypeId × Value → H} {W : World} {n : Nat} {y : Addr} {cs : List Value} {x : DataW H × List MemPlace} (h1 : W.cells? 0 y 4 = some cs) (h2 : DataW.trod enc Try.prog W 0 (fun _ => true) true n 49 cs = some x) :
    ∃ q : Int × Bool × Int × Int, W.cell? (y) = some (.int .i64 q.1) ∧ W.cell? (y.add 1) = some (.bool q.2.1) ∧ W.cell? (y.add 2) = some (.int .i64 q.2.2.1) ∧ W.cell? (y.add 3) = some (.int .i64 q.2.2.2) ∧ (Lit.int .i64 q.1).wf = true ∧ True ∧ (Lit.int .i64 q.2.2.1).wf = true ∧ (Lit.int .i64 q.2.2.2).wf = true := by
  obtain ⟨_, hlen, hat⟩ := World.cells?_some h1
  obtain ⟨ys, m, _, _, _, hyl, hf⟩ := DataW.trod_struct Try.underlying49 h2
  match cs, hlen, ys, hyl with
  | [v0, v1, v2, v3], _, [y0, y1, y2, y3], _ =>
    have g0 : DataW.trod enc Try.prog W 0 (fun _ => true) true m 3 (List.take (Try.prog.cellsOf 3) [v0, v1, v2, v3]) = some y0 := hf 0 _ rfl
    rw [show Try.prog.cellsOf 3 = 1 by kernel_rfl, List.take_succ_cons, List.take_zero] at g0
    have g1 : DataW.trod enc Try.prog W 0 (fun _ => true) true m 4 (List.take (Try.prog.cellsOf 4) [v1, v2, v3]) = some y1 := hf 1 _ rfl
    rw [show Try.prog.cellsOf 4 = 1 by kernel_rfl, List.take_succ_cons, List.take_zero] at g1
    have g2 : DataW.trod enc Try.prog W 0 (fun _ => true) true m 3 (List.take (Try.prog.cellsOf 3) [v2, v3]) = some y2 := hf 2 _ rfl
    rw [show Try.prog.cellsOf 3 = 1 by kernel_rfl, List.take_succ_cons, List.take_zero] at g2
    have g3 : DataW.trod enc Try.prog W 0 (fun _ => true) true m 2 (List.take (Try.prog.cellsOf 2) [v3]) = some y3 := hf 3 _ rfl
    rw [show Try.prog.cellsOf 2 = 1 by kernel_rfl, List.take_succ_cons, List.take_zero] at g3
    obtain ⟨c0, e0, _, u0⟩ := DataW.trod_int Try.underlying3 g0
    obtain ⟨c1, e1, _⟩ := DataW.trod_bool Try.underlying4 g1
    obtain ⟨c2, e2, _, u2⟩ := DataW.trod_int Try.underlying3 g2
    obtain ⟨c3, e3, _, u3⟩ := DataW.trod_int Try.underlying2 g3
    simp only [List.cons.injEq, and_true] at e0 e1 e2 e3
    subst e0 e1 e2 e3
    exact ⟨(c0, c1, c2, c3), by simpa [Addr.add] using hat 0 (by omega), hat 1 (by omega), hat 2 (by omega), hat 3 (by omega), u0, trivial, u2, u3⟩
theorem in1_of {H : Type} {enc : TypeId × Value → H} {W : World} {a : Option Addr} {len cap : Nat} {d : DataW H} {p : List MemPlace} (h : DataW.Trod enc Try.prog W 0 (fun _ => true) true 22 (.slice a len cap) d p) : In1 W a len := by
  obtain ⟨fuel, hf⟩ := h
  rcases open_slice Try.underlying22 hf with ⟨hcs, _⟩ | ⟨x, l, c, m, n, D, Pl, hcs, _, hl, hm, hmm, _, hx⟩
  · simp [Value.cells] at hcs
    exact .inl hcs.2.1
  · simp [Value.cells] at hcs
    obtain ⟨rfl, rfl, rfl⟩ := hcs
    by_cases h0 : len = 0
    · exact .inl h0
    have hlm : len ≤ m := by rw [hmm]; split <;> omega
    rw [cellsOf1] at hx
    have key : ∀ j, j < len → ∃ q : Int × Bool × Int × Int, W.cell? (x.add (j * 4)) = some (.int .i64 q.1) ∧ W.cell? ((x.add (j * 4)).add 1) = some (.bool q.2.1) ∧ W.cell? ((x.add (j * 4)).add 2) = some (.int .i64 q.2.2.1) ∧ W.cell? ((x.add (j * 4)).add 3) = some (.int .i64 q.2.2.2) ∧ (Lit.int .i64 q.1).wf = true ∧ True ∧ (Lit.int .i64 q.2.2.1).wf = true ∧ (Lit.int .i64 q.2.2.2).wf = true := fun j hj => by
      obtain ⟨cs, h1, h2⟩ := hx j (by omega)
      exact elem1 h1 h2
    obtain ⟨f, hf⟩ := choose_lt key
    obtain ⟨b, off, spot⟩ := x
    have hc0 := (hf 0 (by omega)).1
    have hspot : spot = none := by simpa [Addr.add] using World.cell?_spot hc0
    subst hspot
    have ad : ∀ o j, (Addr.mk b o none).add j = ⟨b, o + j, none⟩ := fun o j => by
      by_cases hj : j = 0
      · subst hj; simp [Addr.add]
      · simp [Addr.add, hj]
    refine .inr ⟨b, off, f, rfl, World.block_lt_of_cell? W _ hc0, fun j hj => ?_⟩
    have r := hf j hj
    simpa only [ad] using r

/-! ### THE WALK -/
theorem walk (a0 : Int) (a1 : Option Addr) (len1 cap1 : Nat) (a2 : Bool) (w : World) (w0 : (Lit.int .u8 a0).wf = true) (w1 : In1 w a1 len1) :
    Calls Try.prog 3 #[.int .u8 a0, .slice a1 len1 cap1, .bool a2] w fun e w' => e = .returned (.bool true) ∧ Below w.heap.size w w' := by
  obtain ⟨q, rfl⟩ : ∃ q : Nat, a0 = (q : Int) := by
    have e1 : IntKind.u8.min = 0 := rfl
    have e2 : IntKind.u8.max = 255 := rfl
    simp [Lit.wf, e1, e2] at w0
    exact ⟨a0.toNat, by omega⟩
  have hq : q ≤ 255 := by
    have e1 : IntKind.u8.min = 0 := rfl
    have e2 : IntKind.u8.max = 255 := rfl
    simp [Lit.wf, e1, e2] at w0
    omega
  by_cases hn : 200 < len1
  · exact ktells_big q a1 len1 cap1 a2 w hn
  have hs : ∃ ss : List St, ss.length = len1 ∧ Steps w (.slice a1 len1 cap1) ss := by
    rcases w1 with rfl | ⟨b, off, f, rfl, hb, hf⟩
    · exact ⟨[], rfl, .inl ⟨rfl, _, _, rfl⟩⟩
    by_cases h0 : len1 = 0
    · subst h0; exact ⟨[], rfl, .inl ⟨rfl, _, _, rfl⟩⟩
    refine ⟨(List.range len1).map fun j => ⟨(f j).1, (f j).2.1, (f j).2.2.1, (f j).2.2.2⟩, by simp, .inr ⟨b, off, cap1, by simp, by simp; omega, hb, fun j hj => ?_⟩⟩
    have hj' : j < len1 := by simpa using hj
    rw [List.getElem?_map, List.getElem?_range hj']
    obtain ⟨r0, r1, r2, r3, _, _, u1, _⟩ := hf j hj'
    exact ⟨r0, r1, r2, r3, bounds_i64 u1⟩
  obtain ⟨ss, rfl, hs⟩ := hs
  exact ktells_any q hq _ ss cap1 a2 w (by omega) hs

/-! ### THE ROW's STEP -/
set_option maxRecDepth 100000 in
theorem lifted (os : Os) (started : os.Started) (H : Type) (enc : TypeId × Value → H) :
    ReturnsInHanded {} Try.checked os 3 .any (Rows.planTellsSpec.pre6 enc Try.prog Try.f3 Rows.planTellsRow.domain false) (Rows.planTellsSpec.post enc Try.prog Try.f3 false true false false) := by
  refine returnsInHanded_of_change (C := Try.checked) own started (by kernel_rfl) Try.func3
    (ChangeSpec.witness6 (enc := enc) (C := Try.checked) false ⟨#[], #[.int .u8 0, .slice none 0 0, .bool false], []⟩ 8 (by kernel_rfl) (by kernel_rfl) (by kernel_rfl) (by kernel_rfl)) ?_
  intro W base args ds gs before hval0 hW hcnd _
  have hval : ∀ (j : Nat) t v, Try.f3.params[j]? = some t → args[j]? = some v → Value.okWide Try.prog W .any base t v := hval0
  have hW' := hW
  obtain ⟨p, q, hA0, hV, rfl, hfz, hnd⟩ := hW
  have hA : DataW.TrodAll enc Try.prog W 0 (fun _ => true) true Try.f3.params.toList args.toList ds p := hA0
  rw [Try.params3] at hA hval
  obtain ⟨v0, vs0, d0, ds0, p0, q0, hargs, rfl, rfl, h0, r0⟩ := trodAll_cons hA
  obtain ⟨v1, vs1, d1, ds1, p1, q1, rfl, rfl, rfl, h1, r1⟩ := trodAll_cons r0
  obtain ⟨v2, vs2, d2, ds2, p2, q2, rfl, rfl, rfl, h2, r2⟩ := trodAll_cons r1
  obtain ⟨rfl, rfl, rfl⟩ := trodAll_nil r2
  obtain rfl : args = #[v0, v1, v2] := by cases args; simp_all
  obtain ⟨rfl, rfl⟩ := trodVars_none hV
  obtain ⟨a0, rfl, rfl, rfl, w0⟩ := open_int Try.underlying5 (hval 0 5 v0 rfl rfl) h0
  obtain ⟨a1, len1, cap1, rfl⟩ := okWide_slice Try.underlying22 (hval 1 22 v1 rfl rfl)
  have k1 := h1
  have lt1 : ∀ x ∈ p1, x.block < W.heap.size := by obtain ⟨m, hm⟩ := k1; exact DataW.trod_lt m _ _ _ hm
  have w1 := in1_of k1
  obtain ⟨a2, rfl⟩ := okWide_bool Try.underlying4 (hval 2 4 v2 rfl rfl)
  have k2 := h2
  have lt2 : ∀ x ∈ p2, x.block < W.heap.size := by obtain ⟨m, hm⟩ := k2; exact DataW.trod_lt m _ _ _ hm
  clear hA0 hval0
  refine (walk a0 a1 len1 cap1 a2 W w0 w1).mono fun e W' ⟨he, bel⟩ => ?_
  subst he
  exact ⟨_, rfl, _, _, _, [], _, [], hW', trodAll_mk1 (shut_bool Try.underlying4 _), (trodAll_cons_mk (shut_int Try.underlying5 w0) (trodAll_cons_mk (Below.trod laidOut (by kernel_rfl) (of_decide_eq_true (by kernel_rfl)) k1 bel lt1) (trodAll_cons_mk (Below.trod laidOut (by kernel_rfl) (of_decide_eq_true (by kernel_rfl)) k2 bel lt2) trodAll_mk0))), rfl, bel.frame _, fun h => by cases h⟩

theorem over : Rows.planTellsRow.holds Try.pinned (OpenSpec.ofChange Rows.planTellsSpec) :=
  OpenClaim.holds_of_wide 3 Try.f3 rfl rfl rfl rfl rfl rfl rfl ⟨rfl, rfl, rfl, rfl, rfl⟩ rfl rfl rfl rfl rfl (by kernel_rfl) Try.func3 (by kernel_rfl)
    (of_decide_eq_true (by kernel_rfl)) (by unfold Func.isWrapper; first | (rw [if_pos (by decide +kernel)]; kernel_rfl) | (rw [if_neg (by decide +kernel)]; exact ⟨rfl, rfl⟩))
    (fun os started H enc _ => lifted os started H enc)

theorem proved : Rows.PlanTellsSaid := over
#print axioms proved
end Go.Proofs.Ytkpnkhakjgfgfaa.planTells
