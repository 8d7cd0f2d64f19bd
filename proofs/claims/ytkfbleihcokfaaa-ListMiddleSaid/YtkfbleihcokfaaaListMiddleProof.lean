/-
  For every two rows of numbers: ListMiddle returns true, and both arguments read afterwards as before. No condition.
-/
import Derived.Test.YtkfbleihcokfaaaRows
import Derived.WalkKit
import Derived.Test.YtkfbleihcokfaaaLMid
import Derived.ProofKit
import Derived.OpenShut
import Derived.ShutString
import Derived.ChangeOld
import Derived.Below
import Derived.Deep.Slices
namespace Go.Proofs.Ytkfbleihcokfaaa.listMiddle
open Go.ChangeShapes Go.WideShapes Go.ChangeAt Go.RowKit Go.Deep

theorem own : ownKnob Try.prog.godebug = none := by kernel_rfl
theorem laidOut : laidOutB Try.prog = true := by kernel_rfl

/-- The slice a of that length, as it lies in memory: its cells are f's. -/
def In0 (w : World) (a : Option Addr) (len : Nat) : Prop :=
  len = 0 ∨ ∃ (b off : Nat) (f : Nat → Int), a = some ⟨b, off, none⟩ ∧ b < w.heap.size ∧ ∀ j, j < len → w.cell? ⟨b, off + j, none⟩ = some (.int .i64 (f j)) ∧ (Lit.int .i64 (f j)).wf = true
theorem cellsOf0 : Try.prog.cellsOf 3 = 1 := by kernel_rfl
theorem elem0 {H : Type} {enc : TypeId × Value → H} {W : World} {n : Nat} {y : Addr} {cs : List Value} {x : DataW H × List MemPlace} (h1 : W.cells? 0 y 1 = some cs) (h2 : DataW.trod enc Try.prog W 0 (fun _ => true) true n 3 cs = some x) :
    ∃ q : Int, W.cell? (y) = some (.int .i64 q) ∧ (Lit.int .i64 q).wf = true := by
  obtain ⟨_, hlen, hat⟩ := World.cells?_some h1
  match cs, hlen with
  | [v0], _ =>
    have g0 := h2
    obtain ⟨c0, e0, _, u0⟩ := DataW.trod_int Try.underlying3 g0
    simp only [List.cons.injEq, and_true] at e0
    subst e0
    exact ⟨c0, by simpa [Addr.add] using hat 0 (by omega), u0⟩
theorem in0_of {H : Type} {enc : TypeId × Value → H} {W : World} {a : Option Addr} {len cap : Nat} {d : DataW H} {p : List MemPlace} (h : DataW.Trod enc Try.prog W 0 (fun _ => true) true 27 (.slice a len cap) d p) : In0 W a len := by
  obtain ⟨fuel, hf⟩ := h
  rcases open_slice Try.underlying27 hf with ⟨hcs, _⟩ | ⟨x, l, c, m, n, D, Pl, hcs, _, hl, hm, hmm, _, hx⟩
  · simp [Value.cells] at hcs
    exact .inl hcs.2.1
  · simp [Value.cells] at hcs
    obtain ⟨rfl, rfl, rfl⟩ := hcs
    by_cases h0 : len = 0
    · exact .inl h0
    have hlm : len ≤ m := by rw [hmm]; split <;> omega
    rw [cellsOf0] at hx
    have key : ∀ j, j < len → ∃ q : Int, W.cell? (x.add (j * 1)) = some (.int .i64 q) ∧ (Lit.int .i64 q).wf = true := fun j hj => by
      obtain ⟨cs, h1, h2⟩ := hx j (by omega)
      exact elem0 h1 h2
    obtain ⟨f, hf⟩ := choose_lt key
    obtain ⟨b, off, spot⟩ := x
    have hc0 := (hf 0 (by omega)).1
    have hspot : spot = none := by simpa [Addr.add] using World.cell?_spot hc0
    subst hspot
    have ad : ∀ o j, (Addr.mk b o none).add j = ⟨b, o + j, none⟩ := fun o j => by
      by_cases hj : j = 0
      · subst hj; simp [Addr.add]
      · simp [Addr.add, hj]
    refine .inr ⟨b, off, f, rfl, World.block_lt_of_cell? W _ hc0, fun j hj => ?_⟩
    have r := hf j hj
    simpa only [ad, Nat.mul_one] using r

/-- The slice a of that length, as it lies in memory: its cells are f's. -/
def In1 (w : World) (a : Option Addr) (len : Nat) : Prop :=
  len = 0 ∨ ∃ (b off : Nat) (f : Nat → Int), a = some ⟨b, off, none⟩ ∧ b < w.heap.size ∧ ∀ j, j < len → w.cell? ⟨b, off + j, none⟩ = some (.int .i64 (f j)) ∧ (Lit.int .i64 (f j)).wf = true
theorem cellsOf1 : Try.prog.cellsOf 3 = 1 := by kernel_rfl
theorem elem1 {H : Type} {enc : TypeId × Value → H} {W : World} {n : Nat} {y : Addr} {cs : List Value} {x : DataW H × List MemPlace} (h1 : W.cells? 0 y 1 = some cs) (h2 : DataW.trod enc Try.prog W 0 (fun _ => true) true n 3 cs = some x) :
    ∃ q : Int, W.cell? (y) = some (.int .i64 q) ∧ (Lit.int .i64 q).wf = true := by
  obtain ⟨_, hlen, hat⟩ := World.cells?_some h1
  match cs, hlen with
  | [v0], _ =>
    have g0 := h2
    obtain ⟨c0, e0, _, u0⟩ := DataW.trod_int Try.underlying3 g0
    simp only [List.cons.injEq, and_true] at e0
    subst e0
    exact ⟨c0, by simpa [Addr.add] using hat 0 (by omega), u0⟩
theorem in1_of {H : Type} {enc : TypeId × Value → H} {W : World} {a : Option Addr} {len cap : Nat} {d : DataW H} {p : List MemPlace} (h : DataW.Trod enc Try.prog W 0 (fun _ => true) true 27 (.slice a len cap) d p) : In1 W a len := by
  obtain ⟨fuel, hf⟩ := h
  rcases open_slice Try.underlying27 hf with ⟨hcs, _⟩ | ⟨x, l, c, m, n, D, Pl, hcs, _, hl, hm, hmm, _, hx⟩
  · simp [Value.cells] at hcs
    exact .inl hcs.2.1
  · simp [Value.cells] at hcs
    obtain ⟨rfl, rfl, rfl⟩ := hcs
    by_cases h0 : len = 0
    · exact .inl h0
    have hlm : len ≤ m := by rw [hmm]; split <;> omega
    rw [cellsOf1] at hx
    have key : ∀ j, j < len → ∃ q : Int, W.cell? (x.add (j * 1)) = some (.int .i64 q) ∧ (Lit.int .i64 q).wf = true := fun j hj => by
      obtain ⟨cs, h1, h2⟩ := hx j (by omega)
      exact elem1 h1 h2
    obtain ⟨f, hf⟩ := choose_lt key
    obtain ⟨b, off, spot⟩ := x
    have hc0 := (hf 0 (by omega)).1
    have hspot : spot = none := by simpa [Addr.add] using World.cell?_spot hc0
    subst hspot
    have ad : ∀ o j, (Addr.mk b o none).add j = ⟨b, o + j, none⟩ := fun o j => by
      by_cases hj : j = 0
      · subst hj; simp [Addr.add]
      · simp [Addr.add, hj]
    refine .inr ⟨b, off, f, rfl, World.block_lt_of_cell? W _ hc0, fun j hj => ?_⟩
    have r := hf j hj
    simpa only [ad, Nat.mul_one] using r

/-! ### THE WALK -/
theorem walk (a0 : Option Addr) (len0 cap0 : Nat) (a1 : Option Addr) (len1 cap1 : Nat) (w : World) (w0 : In0 w a0 len0) (w1 : In1 w a1 len1) :
    Calls Try.prog 4 #[.slice a0 len0 cap0, .slice a1 len1 cap1] w fun e w' => e = .returned (.bool true) ∧ Below w.heap.size w w' := by
  have hr : ∀ (a : Option Addr) (len cap : Nat), (len = 0 ∨ ∃ (b off : Nat) (f : Nat → Int), a = some ⟨b, off, none⟩ ∧ b < w.heap.size ∧ ∀ j, j < len → w.cell? ⟨b, off + j, none⟩ = some (.int .i64 (f j)) ∧ (Lit.int .i64 (f j)).wf = true) → ∃ xs, RowI w (.slice a len cap) xs ∧ ∀ x ∈ xs, I64b x := by
    rintro a len cap (rfl | ⟨b, off, f, rfl, hb, hf⟩)
    · exact ⟨[], .inl ⟨rfl, _, _, rfl⟩, by simp⟩
    by_cases h0 : len = 0
    · subst h0; exact ⟨[], .inl ⟨rfl, _, _, rfl⟩, by simp⟩
    refine ⟨(List.range len).map f, .inr ⟨b, off, cap, by simp, by simp; omega, hb, fun j hj => ?_⟩, fun x hx => ?_⟩
    · have hj' : j < len := by simpa using hj
      rw [List.getElem?_map, List.getElem?_range hj']
      exact (hf j hj').1
    · obtain ⟨j, hj, rfl⟩ := List.mem_map.1 hx
      exact bounds_i64 (hf j (List.mem_range.1 hj)).2
  obtain ⟨ps, hps, _⟩ := hr a0 len0 cap0 w0
  obtain ⟨ds, hds, hib⟩ := hr a1 len1 cap1 w1
  exact mid_any _ _ ps ds w hps hds hib

/-! ### THE ROW's STEP -/
set_option maxRecDepth 100000 in
theorem lifted (os : Os) (started : os.Started) (H : Type) (enc : TypeId × Value → H) :
    ReturnsInHanded {} Try.checked os 4 .any (Rows.listMiddleSpec.pre6 enc Try.prog Try.f4 Rows.listMiddleRow.domain false) (Rows.listMiddleSpec.post enc Try.prog Try.f4 false true false false) := by
  refine returnsInHanded_of_change (C := Try.checked) own started (by kernel_rfl) Try.func4
    (ChangeSpec.witness6 (enc := enc) (C := Try.checked) false ⟨#[], #[.slice none 0 0, .slice none 0 0], []⟩ 8 (by kernel_rfl) (by kernel_rfl) (by kernel_rfl) (by kernel_rfl)) ?_
  intro W base args ds gs before hval0 hW hcnd _
  have hval : ∀ (j : Nat) t v, Try.f4.params[j]? = some t → args[j]? = some v → Value.okWide Try.prog W .any base t v := hval0
  have hW' := hW
  obtain ⟨p, q, hA0, hV, rfl, hfz, hnd⟩ := hW
  have hA : DataW.TrodAll enc Try.prog W 0 (fun _ => true) true Try.f4.params.toList args.toList ds p := hA0
  rw [Try.params4] at hA hval
  obtain ⟨v0, vs0, d0, ds0, p0, q0, hargs, rfl, rfl, h0, r0⟩ := trodAll_cons hA
  obtain ⟨v1, vs1, d1, ds1, p1, q1, rfl, rfl, rfl, h1, r1⟩ := trodAll_cons r0
  obtain ⟨rfl, rfl, rfl⟩ := trodAll_nil r1
  obtain rfl : args = #[v0, v1] := by cases args; simp_all
  obtain ⟨rfl, rfl⟩ := trodVars_none hV
  obtain ⟨a0, len0, cap0, rfl⟩ := okWide_slice Try.underlying27 (hval 0 27 v0 rfl rfl)
  have k0 := h0
  have lt0 : ∀ x ∈ p0, x.block < W.heap.size := by obtain ⟨m, hm⟩ := k0; exact DataW.trod_lt m _ _ _ hm
  have w0 := in0_of k0
  obtain ⟨a1, len1, cap1, rfl⟩ := okWide_slice Try.underlying27 (hval 1 27 v1 rfl rfl)
  have k1 := h1
  have lt1 : ∀ x ∈ p1, x.block < W.heap.size := by obtain ⟨m, hm⟩ := k1; exact DataW.trod_lt m _ _ _ hm
  have w1 := in1_of k1
  clear hA0 hval0
  refine (walk a0 len0 cap0 a1 len1 cap1 W w0 w1).mono fun e W' ⟨he, bel⟩ => ?_
  subst he
  exact ⟨_, rfl, _, _, _, [], _, [], hW', trodAll_mk1 (shut_bool Try.underlying4 _), (trodAll_cons_mk (Below.trod laidOut (by kernel_rfl) (of_decide_eq_true (by kernel_rfl)) k0 bel lt0) (trodAll_cons_mk (Below.trod laidOut (by kernel_rfl) (of_decide_eq_true (by kernel_rfl)) k1 bel lt1) trodAll_mk0)), rfl, bel.frame _, fun h => by cases h⟩

theorem over : Rows.listMiddleRow.holds Try.pinned (OpenSpec.ofChange Rows.listMiddleSpec) :=
  OpenClaim.holds_of_wide 4 Try.f4 rfl rfl rfl rfl rfl rfl rfl ⟨rfl, rfl, rfl, rfl, rfl⟩ rfl rfl rfl rfl rfl (by kernel_rfl) Try.func4 (by kernel_rfl)
    (of_decide_eq_true (by kernel_rfl)) (by unfold Func.isWrapper; first | (rw [if_pos (by decide +kernel)]; kernel_rfl) | (rw [if_neg (by decide +kernel)]; exact ⟨rfl, rfl⟩))
    (fun os started H enc _ => lifted os started H enc)

theorem proved : Rows.ListMiddleSaid := over
#print axioms proved
end Go.Proofs.Ytkfbleihcokfaaa.listMiddle
