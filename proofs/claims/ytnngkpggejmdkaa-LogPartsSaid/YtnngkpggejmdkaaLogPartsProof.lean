/-
  For every row of entries, every pick, task and kind: LogParts returns true, and its arguments read afterwards as before: what was put stays as it stood, and each part of what is asked stands in the order of the whole. No condition.
-/
import Derived.Test.YtnngkpggejmdkaaRows
import Derived.WalkKit
import Derived.Test.YtnngkpggejmdkaaLParts
import Derived.ProofKit
import Derived.OpenShut
import Derived.ShutString
import Derived.ChangeOld
import Derived.Below
import Derived.Deep.Slices
namespace Go.Proofs.Ytnngkpggejmdkaa.logParts
open Go.ChangeShapes Go.WideShapes Go.ChangeAt Go.RowKit Go.Deep

theorem own : ownKnob Try.prog.godebug = none := by kernel_rfl
theorem laidOut : laidOutB Try.prog = true := by kernel_rfl

/-- The slice a of that length, as it lies in memory: its cells are f's. -/
def In0 (w : World) (a : Option Addr) (len : Nat) : Prop :=
  len = 0 ∨ ∃ (b off : Nat) (f : Nat → Int × Int × Int × Int × Int × Int × Int × Int × Int × Int × Bool × Int × Int), a = some ⟨b, off, none⟩ ∧ b < w.heap.size ∧ ∀ j, j < len → w.cell? ⟨b, off + j * 13, none⟩ = some (.int .i64 (f j).1) ∧ w.cell? ⟨b, off + j * 13 + 1, none⟩ = some (.int .u8 (f j).2.1) ∧ w.cell? ⟨b, off + j * 13 + 2, none⟩ = some (.int .i64 (f j).2.2.1) ∧ w.cell? ⟨b, off + j * 13 + 3, none⟩ = some (.int .i64 (f j).2.2.2.1) ∧ w.cell? ⟨b, off + j * 13 + 4, none⟩ = some (.int .i64 (f j).2.2.2.2.1) ∧ w.cell? ⟨b, off + j * 13 + 5, none⟩ = some (.int .i64 (f j).2.2.2.2.2.1) ∧ w.cell? ⟨b, off + j * 13 + 6, none⟩ = some (.int .i64 (f j).2.2.2.2.2.2.1) ∧ w.cell? ⟨b, off + j * 13 + 7, none⟩ = some (.int .i64 (f j).2.2.2.2.2.2.2.1) ∧ w.cell? ⟨b, off + j * 13 + 8, none⟩ = some (.int .i64 (f j).2.2.2.2.2.2.2.2.1) ∧ w.cell? ⟨b, off + j * 13 + 9, none⟩ = some (.int .i64 (f j).2.2.2.2.2.2.2.2.2.1) ∧ w.cell? ⟨b, off + j * 13 + 10, none⟩ = some (.bool (f j).2.2.2.2.2.2.2.2.2.2.1) ∧ w.cell? ⟨b, off + j * 13 + 11, none⟩ = some (.int .i64 (f j).2.2.2.2.2.2.2.2.2.2.2.1) ∧ w.cell? ⟨b, off + j * 13 + 12, none⟩ = some (.int .u64 (f j).2.2.2.2.2.2.2.2.2.2.2.2) ∧ (Lit.int .i64 (f j).1).wf = true ∧ (Lit.int .u8 (f j).2.1).wf = true ∧ (Lit.int .i64 (f j).2.2.1).wf = true ∧ (Lit.int .i64 (f j).2.2.2.1).wf = true ∧ (Lit.int .i64 (f j).2.2.2.2.1).wf = true ∧ (Lit.int .i64 (f j).2.2.2.2.2.1).wf = true ∧ (Lit.int .i64 (f j).2.2.2.2.2.2.1).wf = true ∧ (Lit.int .i64 (f j).2.2.2.2.2.2.2.1).wf = true ∧ (Lit.int .i64 (f j).2.2.2.2.2.2.2.2.1).wf = true ∧ (Lit.int .i64 (f j).2.2.2.2.2.2.2.2.2.1).wf = true ∧ True ∧ (Lit.int .i64 (f j).2.2.2.2.2.2.2.2.2.2.2.1).wf = true ∧ (Lit.int .u64 (f j).2.2.2.2.2.2.2.2.2.2.2.2).wf = true
theorem cellsOf0 : Try.prog.cellsOf 31 = 13 := by kernel_rfl
set_option maxRecDepth 100000 in
theorem elem0 {H : Type} {enc : TypeId × Value → H} {W : World} {n : Nat} {y : Addr} {cs : List Value} {x : DataW H × List MemPlace} (h1 : W.cells? 0 y 13 = some cs) (h2 : DataW.trod enc Try.prog W 0 (fun _ => true) true n 31 cs = some x) :
    ∃ q : Int × Int × Int × Int × Int × Int × Int × Int × Int × Int × Bool × Int × Int, W.cell? (y) = some (.int .i64 q.1) ∧ W.cell? (y.add 1) = some (.int .u8 q.2.1) ∧ W.cell? (y.add 2) = some (.int .i64 q.2.2.1) ∧ W.cell? (y.add 3) = some (.int .i64 q.2.2.2.1) ∧ W.cell? (y.add 4) = some (.int .i64 q.2.2.2.2.1) ∧ W.cell? (y.add 5) = some (.int .i64 q.2.2.2.2.2.1) ∧ W.cell? (y.add 6) = some (.int .i64 q.2.2.2.2.2.2.1) ∧ W.cell? (y.add 7) = some (.int .i64 q.2.2.2.2.2.2.2.1) ∧ W.cell? (y.add 8) = some (.int .i64 q.2.2.2.2.2.2.2.2.1) ∧ W.cell? (y.add 9) = some (.int .i64 q.2.2.2.2.2.2.2.2.2.1) ∧ W.cell? (y.add 10) = some (.bool q.2.2.2.2.2.2.2.2.2.2.1) ∧ W.cell? (y.add 11) = some (.int .i64 q.2.2.2.2.2.2.2.2.2.2.2.1) ∧ W.cell? (y.add 12) = some (.int .u64 q.2.2.2.2.2.2.2.2.2.2.2.2) ∧ (Lit.int .i64 q.1).wf = true ∧ (Lit.int .u8 q.2.1).wf = true ∧ (Lit.int .i64 q.2.2.1).wf = true ∧ (Lit.int .i64 q.2.2.2.1).wf = true ∧ (Lit.int .i64 q.2.2.2.2.1).wf = true ∧ (Lit.int .i64 q.2.2.2.2.2.1).wf = true ∧ (Lit.int .i64 q.2.2.2.2.2.2.1).wf = true ∧ (Lit.int .i64 q.2.2.2.2.2.2.2.1).wf = true ∧ (Lit.int .i64 q.2.2.2.2.2.2.2.2.1).wf = true ∧ (Lit.int .i64 q.2.2.2.2.2.2.2.2.2.1).wf = true ∧ True ∧ (Lit.int .i64 q.2.2.2.2.2.2.2.2.2.2.2.1).wf = true ∧ (Lit.int .u64 q.2.2.2.2.2.2.2.2.2.2.2.2).wf = true := by
  obtain ⟨_, hlen, hat⟩ := World.cells?_some h1
  obtain ⟨ys, m, _, _, _, hyl, hf⟩ := DataW.trod_struct Try.underlying31 h2
  match cs, hlen, ys, hyl with
  | [v0, v1, v2, v3, v4, v5, v6, v7, v8, v9, v10, v11, v12], _, [y0, y1, y2, y3, y4, y5, y6, y7, y8, y9, y10, y11, y12], _ =>
    have g0 : DataW.trod enc Try.prog W 0 (fun _ => true) true m 2 (List.take (Try.prog.cellsOf 2) [v0, v1, v2, v3, v4, v5, v6, v7, v8, v9, v10, v11, v12]) = some y0 := hf 0 _ rfl
    rw [show Try.prog.cellsOf 2 = 1 by kernel_rfl, List.take_succ_cons, List.take_zero] at g0
    have g1 : DataW.trod enc Try.prog W 0 (fun _ => true) true m 5 (List.take (Try.prog.cellsOf 5) [v1, v2, v3, v4, v5, v6, v7, v8, v9, v10, v11, v12]) = some y1 := hf 1 _ rfl
    rw [show Try.prog.cellsOf 5 = 1 by kernel_rfl, List.take_succ_cons, List.take_zero] at g1
    have g2 : DataW.trod enc Try.prog W 0 (fun _ => true) true m 3 (List.take (Try.prog.cellsOf 3) [v2, v3, v4, v5, v6, v7, v8, v9, v10, v11, v12]) = some y2 := hf 2 _ rfl
    rw [show Try.prog.cellsOf 3 = 1 by kernel_rfl, List.take_succ_cons, List.take_zero] at g2
    have g3 : DataW.trod enc Try.prog W 0 (fun _ => true) true m 3 (List.take (Try.prog.cellsOf 3) [v3, v4, v5, v6, v7, v8, v9, v10, v11, v12]) = some y3 := hf 3 _ rfl
    rw [show Try.prog.cellsOf 3 = 1 by kernel_rfl, List.take_succ_cons, List.take_zero] at g3
    have g4 : DataW.trod enc Try.prog W 0 (fun _ => true) true m 3 (List.take (Try.prog.cellsOf 3) [v4, v5, v6, v7, v8, v9, v10, v11, v12]) = some y4 := hf 4 _ rfl
    rw [show Try.prog.cellsOf 3 = 1 by kernel_rfl, List.take_succ_cons, List.take_zero] at g4
    have g5 : DataW.trod enc Try.prog W 0 (fun _ => true) true m 3 (List.take (Try.prog.cellsOf 3) [v5, v6, v7, v8, v9, v10, v11, v12]) = some y5 := hf 5 _ rfl
    rw [show Try.prog.cellsOf 3 = 1 by kernel_rfl, List.take_succ_cons, List.take_zero] at g5
    have g6 : DataW.trod enc Try.prog W 0 (fun _ => true) true m 3 (List.take (Try.prog.cellsOf 3) [v6, v7, v8, v9, v10, v11, v12]) = some y6 := hf 6 _ rfl
    rw [show Try.prog.cellsOf 3 = 1 by kernel_rfl, List.take_succ_cons, List.take_zero] at g6
    have g7 : DataW.trod enc Try.prog W 0 (fun _ => true) true m 3 (List.take (Try.prog.cellsOf 3) [v7, v8, v9, v10, v11, v12]) = some y7 := hf 7 _ rfl
    rw [show Try.prog.cellsOf 3 = 1 by kernel_rfl, List.take_succ_cons, List.take_zero] at g7
    have g8 : DataW.trod enc Try.prog W 0 (fun _ => true) true m 2 (List.take (Try.prog.cellsOf 2) [v8, v9, v10, v11, v12]) = some y8 := hf 8 _ rfl
    rw [show Try.prog.cellsOf 2 = 1 by kernel_rfl, List.take_succ_cons, List.take_zero] at g8
    have g9 : DataW.trod enc Try.prog W 0 (fun _ => true) true m 2 (List.take (Try.prog.cellsOf 2) [v9, v10, v11, v12]) = some y9 := hf 9 _ rfl
    rw [show Try.prog.cellsOf 2 = 1 by kernel_rfl, List.take_succ_cons, List.take_zero] at g9
    have g10 : DataW.trod enc Try.prog W 0 (fun _ => true) true m 4 (List.take (Try.prog.cellsOf 4) [v10, v11, v12]) = some y10 := hf 10 _ rfl
    rw [show Try.prog.cellsOf 4 = 1 by kernel_rfl, List.take_succ_cons, List.take_zero] at g10
    have g11 : DataW.trod enc Try.prog W 0 (fun _ => true) true m 26 (List.take (Try.prog.cellsOf 26) [v11, v12]) = some y11 := hf 11 _ rfl
    rw [show Try.prog.cellsOf 26 = 1 by kernel_rfl, List.take_succ_cons, List.take_zero] at g11
    have g12 : DataW.trod enc Try.prog W 0 (fun _ => true) true m 29 (List.take (Try.prog.cellsOf 29) [v12]) = some y12 := hf 12 _ rfl
    rw [show Try.prog.cellsOf 29 = 1 by kernel_rfl, List.take_succ_cons, List.take_zero] at g12
    obtain ⟨c0, e0, _, u0⟩ := DataW.trod_int Try.underlying2 g0
    obtain ⟨c1, e1, _, u1⟩ := DataW.trod_int Try.underlying5 g1
    obtain ⟨c2, e2, _, u2⟩ := DataW.trod_int Try.underlying3 g2
    obtain ⟨c3, e3, _, u3⟩ := DataW.trod_int Try.underlying3 g3
    obtain ⟨c4, e4, _, u4⟩ := DataW.trod_int Try.underlying3 g4
    obtain ⟨c5, e5, _, u5⟩ := DataW.trod_int Try.underlying3 g5
    obtain ⟨c6, e6, _, u6⟩ := DataW.trod_int Try.underlying3 g6
    obtain ⟨c7, e7, _, u7⟩ := DataW.trod_int Try.underlying3 g7
    obtain ⟨c8, e8, _, u8⟩ := DataW.trod_int Try.underlying2 g8
    obtain ⟨c9, e9, _, u9⟩ := DataW.trod_int Try.underlying2 g9
    obtain ⟨c10, e10, _⟩ := DataW.trod_bool Try.underlying4 g10
    obtain ⟨c11, e11, _, u11⟩ := DataW.trod_int Try.underlying26 g11
    obtain ⟨c12, e12, _, u12⟩ := DataW.trod_int Try.underlying29 g12
    simp only [List.cons.injEq, and_true] at e0 e1 e2 e3 e4 e5 e6 e7 e8 e9 e10 e11 e12
    subst e0 e1 e2 e3 e4 e5 e6 e7 e8 e9 e10 e11 e12
    exact ⟨(c0, c1, c2, c3, c4, c5, c6, c7, c8, c9, c10, c11, c12), by simpa [Addr.add] using hat 0 (by omega), hat 1 (by omega), hat 2 (by omega), hat 3 (by omega), hat 4 (by omega), hat 5 (by omega), hat 6 (by omega), hat 7 (by omega), hat 8 (by omega), hat 9 (by omega), hat 10 (by omega), hat 11 (by omega), hat 12 (by omega), u0, u1, u2, u3, u4, u5, u6, u7, u8, u9, trivial, u11, u12⟩
theorem in0_of {H : Type} {enc : TypeId × Value → H} {W : World} {a : Option Addr} {len cap : Nat} {d : DataW H} {p : List MemPlace} (h : DataW.Trod enc Try.prog W 0 (fun _ => true) true 22 (.slice a len cap) d p) : In0 W a len := by
  obtain ⟨fuel, hf⟩ := h
  rcases open_slice Try.underlying22 hf with ⟨hcs, _⟩ | ⟨x, l, c, m, n, D, Pl, hcs, _, hl, hm, hmm, _, hx⟩
  · simp [Value.cells] at hcs
    exact .inl hcs.2.1
  · simp [Value.cells] at hcs
    obtain ⟨rfl, rfl, rfl⟩ := hcs
    by_cases h0 : len = 0
    · exact .inl h0
    have hlm : len ≤ m := by rw [hmm]; split <;> omega
    rw [cellsOf0] at hx
    have key : ∀ j, j < len → ∃ q : Int × Int × Int × Int × Int × Int × Int × Int × Int × Int × Bool × Int × Int, W.cell? (x.add (j * 13)) = some (.int .i64 q.1) ∧ W.cell? ((x.add (j * 13)).add 1) = some (.int .u8 q.2.1) ∧ W.cell? ((x.add (j * 13)).add 2) = some (.int .i64 q.2.2.1) ∧ W.cell? ((x.add (j * 13)).add 3) = some (.int .i64 q.2.2.2.1) ∧ W.cell? ((x.add (j * 13)).add 4) = some (.int .i64 q.2.2.2.2.1) ∧ W.cell? ((x.add (j * 13)).add 5) = some (.int .i64 q.2.2.2.2.2.1) ∧ W.cell? ((x.add (j * 13)).add 6) = some (.int .i64 q.2.2.2.2.2.2.1) ∧ W.cell? ((x.add (j * 13)).add 7) = some (.int .i64 q.2.2.2.2.2.2.2.1) ∧ W.cell? ((x.add (j * 13)).add 8) = some (.int .i64 q.2.2.2.2.2.2.2.2.1) ∧ W.cell? ((x.add (j * 13)).add 9) = some (.int .i64 q.2.2.2.2.2.2.2.2.2.1) ∧ W.cell? ((x.add (j * 13)).add 10) = some (.bool q.2.2.2.2.2.2.2.2.2.2.1) ∧ W.cell? ((x.add (j * 13)).add 11) = some (.int .i64 q.2.2.2.2.2.2.2.2.2.2.2.1) ∧ W.cell? ((x.add (j * 13)).add 12) = some (.int .u64 q.2.2.2.2.2.2.2.2.2.2.2.2) ∧ (Lit.int .i64 q.1).wf = true ∧ (Lit.int .u8 q.2.1).wf = true ∧ (Lit.int .i64 q.2.2.1).wf = true ∧ (Lit.int .i64 q.2.2.2.1).wf = true ∧ (Lit.int .i64 q.2.2.2.2.1).wf = true ∧ (Lit.int .i64 q.2.2.2.2.2.1).wf = true ∧ (Lit.int .i64 q.2.2.2.2.2.2.1).wf = true ∧ (Lit.int .i64 q.2.2.2.2.2.2.2.1).wf = true ∧ (Lit.int .i64 q.2.2.2.2.2.2.2.2.1).wf = true ∧ (Lit.int .i64 q.2.2.2.2.2.2.2.2.2.1).wf = true ∧ True ∧ (Lit.int .i64 q.2.2.2.2.2.2.2.2.2.2.2.1).wf = true ∧ (Lit.int .u64 q.2.2.2.2.2.2.2.2.2.2.2.2).wf = true := fun j hj => by
      obtain ⟨cs, h1, h2⟩ := hx j (by omega)
      exact elem0 h1 h2
    obtain ⟨f, hf⟩ := choose_lt key
    obtain ⟨b, off, spot⟩ := x
    have hc0 := (hf 0 (by omega)).1
    have hspot : spot = none := by simpa [Addr.add] using World.cell?_spot hc0
    subst hspot
    have ad : ∀ o j, (Addr.mk b o none).add j = ⟨b, o + j, none⟩ := fun o j => by
      by_cases hj : j = 0
      · subst hj; simp [Addr.add]
      · simp [Addr.add, hj]
    refine .inr ⟨b, off, f, rfl, World.block_lt_of_cell? W _ hc0, fun j hj => ?_⟩
    have r := hf j hj
    simpa only [ad] using r

/-! ### THE WALK -/
theorem walk (a0 : Option Addr) (len0 cap0 : Nat) (a1 : Int) (a2 : Int) (a3 : Int) (w : World) (w0 : In0 w a0 len0) (w1 : (Lit.int .i64 a1).wf = true) (_w2 : (Lit.int .i64 a2).wf = true) (w3 : (Lit.int .u8 a3).wf = true) :
    Calls Try.prog 3 #[.slice a0 len0 cap0, .int .i64 a1, .int .i64 a2, .int .u8 a3] w fun e w' => e = .returned (.bool true) ∧ Below w.heap.size w w' := by
  obtain ⟨l, hl, _, hok⟩ := enRow_of_in (cap := cap0) w0
  have b3 := u8_range w3
  obtain ⟨k, rfl⟩ := Int.eq_ofNat_of_zero_le b3.1
  exact parts_any _ l a1 a2 k (i64_range w1) (by omega) w hl hok

/-! ### THE ROW's STEP -/
set_option maxRecDepth 100000 in
theorem lifted (os : Os) (started : os.Started) (H : Type) (enc : TypeId × Value → H) :
    ReturnsInHanded {} Try.checked os 3 .any (Rows.logPartsSpec.pre6 enc Try.prog Try.f3 Rows.logPartsRow.domain false) (Rows.logPartsSpec.post enc Try.prog Try.f3 false true false false) := by
  refine returnsInHanded_of_change (C := Try.checked) own started (by kernel_rfl) Try.func3
    (ChangeSpec.witness6 (enc := enc) (C := Try.checked) false ⟨#[], #[.slice none 0 0, .int .i64 0, .int .i64 0, .int .u8 0], []⟩ 8 (by kernel_rfl) (by kernel_rfl) (by kernel_rfl) (by kernel_rfl)) ?_
  intro W base args ds gs before hval0 hW hcnd _
  have hval : ∀ (j : Nat) t v, Try.f3.params[j]? = some t → args[j]? = some v → Value.okWide Try.prog W .any base t v := hval0
  have hW' := hW
  obtain ⟨p, q, hA0, hV, rfl, hfz, hnd⟩ := hW
  have hA : DataW.TrodAll enc Try.prog W 0 (fun _ => true) true Try.f3.params.toList args.toList ds p := hA0
  rw [Try.params3] at hA hval
  obtain ⟨v0, vs0, d0, ds0, p0, q0, hargs, rfl, rfl, h0, r0⟩ := trodAll_cons hA
  obtain ⟨v1, vs1, d1, ds1, p1, q1, rfl, rfl, rfl, h1, r1⟩ := trodAll_cons r0
  obtain ⟨v2, vs2, d2, ds2, p2, q2, rfl, rfl, rfl, h2, r2⟩ := trodAll_cons r1
  obtain ⟨v3, vs3, d3, ds3, p3, q3, rfl, rfl, rfl, h3, r3⟩ := trodAll_cons r2
  obtain ⟨rfl, rfl, rfl⟩ := trodAll_nil r3
  obtain rfl : args = #[v0, v1, v2, v3] := by cases args; simp_all
  obtain ⟨rfl, rfl⟩ := trodVars_none hV
  obtain ⟨a0, len0, cap0, rfl⟩ := okWide_slice Try.underlying22 (hval 0 22 v0 rfl rfl)
  have k0 := h0
  have lt0 : ∀ x ∈ p0, x.block < W.heap.size := by obtain ⟨m, hm⟩ := k0; exact DataW.trod_lt m _ _ _ hm
  have w0 := in0_of k0
  obtain ⟨a1, rfl, rfl, rfl, w1⟩ := open_int Try.underlying2 (hval 1 2 v1 rfl rfl) h1
  obtain ⟨a2, rfl, rfl, rfl, w2⟩ := open_int Try.underlying3 (hval 2 3 v2 rfl rfl) h2
  obtain ⟨a3, rfl, rfl, rfl, w3⟩ := open_int Try.underlying5 (hval 3 5 v3 rfl rfl) h3
  clear hA0 hval0
  refine (walk a0 len0 cap0 a1 a2 a3 W w0 w1 w2 w3).mono fun e W' ⟨he, bel⟩ => ?_
  subst he
  exact ⟨_, rfl, _, _, _, [], _, [], hW', trodAll_mk1 (shut_bool Try.underlying4 _), (trodAll_cons_mk (Below.trod laidOut (by kernel_rfl) (of_decide_eq_true (by kernel_rfl)) k0 bel lt0) (trodAll_cons_mk (shut_int Try.underlying2 w1) (trodAll_cons_mk (shut_int Try.underlying3 w2) (trodAll_cons_mk (shut_int Try.underlying5 w3) trodAll_mk0)))), rfl, bel.frame _, fun h => by cases h⟩

theorem over : Rows.logPartsRow.holds Try.pinned (OpenSpec.ofChange Rows.logPartsSpec) :=
  OpenClaim.holds_of_wide 3 Try.f3 rfl rfl rfl rfl rfl rfl rfl ⟨rfl, rfl, rfl, rfl, rfl⟩ rfl rfl rfl rfl rfl (by kernel_rfl) Try.func3 (by kernel_rfl)
    (of_decide_eq_true (by kernel_rfl)) (by unfold Func.isWrapper; first | (rw [if_pos (by decide +kernel)]; kernel_rfl) | (rw [if_neg (by decide +kernel)]; exact ⟨rfl, rfl⟩))
    (fun os started H enc _ => lifted os started H enc)

theorem proved : Rows.LogPartsSaid := over
#print axioms proved
end Go.Proofs.Ytnngkpggejmdkaa.logParts
