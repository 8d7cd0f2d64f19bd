/-
  For every program, every two bytes and every row of sets: TaskPasses returns true, and its arguments read afterwards as before. No condition.
-/
import Derived.Test.YtamkmmpockmpfaaRows
import Derived.WalkKit
import Derived.Test.YtamkmmpockmpfaaTkPass
import Derived.Test.YtamkmmpockmpfaaGOpen
import Derived.ProofKit
import Derived.OpenShut
import Derived.ShutString
import Derived.ChangeOld
import Derived.Below
import Derived.Deep.Slices
namespace Go.Proofs.Ytamkmmpockmpfaa.taskPasses
open Go.ChangeShapes Go.WideShapes Go.ChangeAt Go.RowKit Go.Deep

theorem own : ownKnob Try.prog.godebug = none := by kernel_rfl
theorem laidOut : laidOutB Try.prog = true := by kernel_rfl

/-- The slice a of that length, as it lies in memory: its cells are f's. -/
def In3 (w : World) (a : Option Addr) (len : Nat) : Prop :=
  len = 0 ∨ ∃ (b off : Nat) (f : Nat → Int), a = some ⟨b, off, none⟩ ∧ b < w.heap.size ∧ ∀ j, j < len → w.cell? ⟨b, off + j, none⟩ = some (.int .u64 (f j)) ∧ (Lit.int .u64 (f j)).wf = true
theorem cellsOf3 : Try.prog.cellsOf 45 = 1 := by kernel_rfl
set_option maxRecDepth 100000 in
theorem elem3 {H : Type} {enc : TypeId × Value → H} {W : World} {n : Nat} {y : Addr} {cs : List Value} {x : DataW H × List MemPlace} (h1 : W.cells? 0 y 1 = some cs) (h2 : DataW.trod enc Try.prog W 0 (fun _ => true) true n 45 cs = some x) :
    ∃ q : Int, W.cell? (y) = some (.int .u64 q) ∧ (Lit.int .u64 q).wf = true := by
  obtain ⟨_, hlen, hat⟩ := World.cells?_some h1
  match cs, hlen with
  | [v0], _ =>
    have g0 := h2
    obtain ⟨c0, e0, _, u0⟩ := DataW.trod_int Try.underlying45 g0
    simp only [List.cons.injEq, and_true] at e0
    subst e0
    exact ⟨c0, by simpa [Addr.add] using hat 0 (by omega), u0⟩
theorem in3_of {H : Type} {enc : TypeId × Value → H} {W : World} {a : Option Addr} {len cap : Nat} {d : DataW H} {p : List MemPlace} (h : DataW.Trod enc Try.prog W 0 (fun _ => true) true 27 (.slice a len cap) d p) : In3 W a len := by
  obtain ⟨fuel, hf⟩ := h
  rcases open_slice Try.underlying27 hf with ⟨hcs, _⟩ | ⟨x, l, c, m, n, D, Pl, hcs, _, hl, hm, hmm, _, hx⟩
  · simp [Value.cells] at hcs
    exact .inl hcs.2.1
  · simp [Value.cells] at hcs
    obtain ⟨rfl, rfl, rfl⟩ := hcs
    by_cases h0 : len = 0
    · exact .inl h0
    have hlm : len ≤ m := by rw [hmm]; split <;> omega
    rw [cellsOf3] at hx
    have key : ∀ j, j < len → ∃ q : Int, W.cell? (x.add (j * 1)) = some (.int .u64 q) ∧ (Lit.int .u64 q).wf = true := fun j hj => by
      obtain ⟨cs, h1, h2⟩ := hx j (by omega)
      exact elem3 h1 h2
    obtain ⟨f, hf⟩ := choose_lt key
    obtain ⟨b, off, spot⟩ := x
    have hc0 := (hf 0 (by omega)).1
    have hspot : spot = none := by simpa [Addr.add] using World.cell?_spot hc0
    subst hspot
    have ad : ∀ o j, (Addr.mk b o none).add j = ⟨b, o + j, none⟩ := fun o j => by
      by_cases hj : j = 0
      · subst hj; simp [Addr.add]
      · simp [Addr.add, hj]
    refine .inr ⟨b, off, f, rfl, World.block_lt_of_cell? W _ hc0, fun j hj => ?_⟩
    have r := hf j hj
    simpa only [ad, Nat.mul_one] using r

/-! ### THE WALK -/
theorem walk {vA0 : Value} {vB0 : Value} {vC0 : Value} {p0 : Prg} (a1 : Int) (a2 : Int) (a3 : Option Addr) (len3 cap3 : Nat) (w : World) (w0 : PrgAt 0 w.heap.size w vA0 vB0 vC0 p0) (w1 : (Lit.int .u8 a1).wf = true) (w2 : (Lit.int .u8 a2).wf = true) (w3 : In3 w a3 len3) :
    Calls Try.prog 3 #[.agg #[vA0, vB0, vC0], .int .u8 a1, .int .u8 a2, .slice a3 len3 cap3] w fun e w' => e = .returned (.bool true) ∧ Below w.heap.size w w' := by
  have hr : ∀ (a : Option Addr) (len cap : Nat), (len = 0 ∨ ∃ (b off : Nat) (f : Nat → Int), a = some ⟨b, off, none⟩ ∧ b < w.heap.size ∧ ∀ j, j < len → w.cell? ⟨b, off + j, none⟩ = some (.int .u64 (f j)) ∧ (Lit.int .u64 (f j)).wf = true) → ∃ xs : List Nat, xs.length = len ∧ RowS w (.slice a xs.length cap) xs := by
    rintro a len cap (rfl | ⟨b, off, f, rfl, hb, hf⟩)
    · exact ⟨[], rfl, by simp, .inl ⟨rfl, _, _, rfl⟩⟩
    by_cases h0 : len = 0
    · subst h0; exact ⟨[], rfl, by simp, .inl ⟨rfl, _, _, rfl⟩⟩
    refine ⟨(List.range len).map (fun j => (f j).toNat), by simp, fun x hx => ?_, .inr ⟨b, off, cap, rfl, by simp; omega, hb, fun j hj => ?_⟩⟩
    · obtain ⟨j, hj, rfl⟩ := List.mem_map.1 hx
      have := bounds_u64 (hf j (List.mem_range.1 hj)).2
      omega
    · have hj' : j < len := by simpa using hj
      have hb2 := bounds_u64 (hf j hj').2
      rw [List.getElem?_map, List.getElem?_range hj', Option.map_some, Option.getD_some, Int.toNat_of_nonneg (by omega)]
      exact (hf j hj').1
  obtain ⟨ls, hl, hls⟩ := hr a3 len3 cap3 w3
  have e1 := bounds_u8 w1
  have e2 := bounds_u8 w2
  subst hl
  exact passes_any _ _ (by omega) (by omega) (by omega) (by omega) _ _ ls w w0 hls

/-! ### THE ROW's STEP -/
set_option maxRecDepth 100000 in
theorem lifted (os : Os) (started : os.Started) (H : Type) (enc : TypeId × Value → H) :
    ReturnsInHanded {} Try.checked os 3 .any (Rows.taskPassesSpec.pre6 enc Try.prog Try.f3 Rows.taskPassesRow.domain false) (Rows.taskPassesSpec.post enc Try.prog Try.f3 false true false false) := by
  refine returnsInHanded_of_change (C := Try.checked) own started (by kernel_rfl) Try.func3
    (ChangeSpec.witness6 (enc := enc) (C := Try.checked) false ⟨#[], #[.agg #[.slice none 0 0, .slice none 0 0, .slice none 0 0], .int .u8 0, .int .u8 0, .slice none 0 0], []⟩ 8 (by kernel_rfl) (by kernel_rfl) (by kernel_rfl) (by kernel_rfl)) ?_
  intro W base args ds gs before hval0 hW hcnd _
  have hval : ∀ (j : Nat) t v, Try.f3.params[j]? = some t → args[j]? = some v → Value.okWide Try.prog W .any base t v := hval0
  have hW' := hW
  obtain ⟨p, q, hA0, hV, rfl, hfz, hnd⟩ := hW
  have hA : DataW.TrodAll enc Try.prog W 0 (fun _ => true) true Try.f3.params.toList args.toList ds p := hA0
  rw [Try.params3] at hA hval
  obtain ⟨v0, vs0, d0, ds0, p0, q0, hargs, rfl, rfl, h0, r0⟩ := trodAll_cons hA
  obtain ⟨v1, vs1, d1, ds1, p1, q1, rfl, rfl, rfl, h1, r1⟩ := trodAll_cons r0
  obtain ⟨v2, vs2, d2, ds2, p2, q2, rfl, rfl, rfl, h2, r2⟩ := trodAll_cons r1
  obtain ⟨v3, vs3, d3, ds3, p3, q3, rfl, rfl, rfl, h3, r3⟩ := trodAll_cons r2
  obtain ⟨rfl, rfl, rfl⟩ := trodAll_nil r3
  obtain rfl : args = #[v0, v1, v2, v3] := by cases args; simp_all
  obtain ⟨rfl, rfl⟩ := trodVars_none hV
  have k0 := h0
  have lt0 : ∀ x ∈ p0, x.block < W.heap.size := by obtain ⟨m, hm⟩ := k0; exact DataW.trod_lt m _ _ _ hm
  obtain ⟨vA0, vB0, vC0, p0, rfl, w0⟩ := open_prog (hval 0 26 v0 rfl rfl) h0
  obtain ⟨a1, rfl, rfl, rfl, w1⟩ := open_int Try.underlying5 (hval 1 5 v1 rfl rfl) h1
  obtain ⟨a2, rfl, rfl, rfl, w2⟩ := open_int Try.underlying5 (hval 2 5 v2 rfl rfl) h2
  obtain ⟨a3, len3, cap3, rfl⟩ := okWide_slice Try.underlying27 (hval 3 27 v3 rfl rfl)
  have k3 := h3
  have lt3 : ∀ x ∈ p3, x.block < W.heap.size := by obtain ⟨m, hm⟩ := k3; exact DataW.trod_lt m _ _ _ hm
  have w3 := in3_of k3
  clear hA0 hval0
  refine (walk  a1 a2 a3 len3 cap3 W w0 w1 w2 w3).mono fun e W' ⟨he, bel⟩ => ?_
  subst he
  exact ⟨_, rfl, _, _, _, [], _, [], hW', trodAll_mk1 (shut_bool Try.underlying4 _), (trodAll_cons_mk (Below.trod laidOut (by kernel_rfl) (of_decide_eq_true (by kernel_rfl)) k0 bel lt0) (trodAll_cons_mk (shut_int Try.underlying5 w1) (trodAll_cons_mk (shut_int Try.underlying5 w2) (trodAll_cons_mk (Below.trod laidOut (by kernel_rfl) (of_decide_eq_true (by kernel_rfl)) k3 bel lt3) trodAll_mk0)))), rfl, bel.frame _, fun h => by cases h⟩

theorem over : Rows.taskPassesRow.holds Try.pinned (OpenSpec.ofChange Rows.taskPassesSpec) :=
  OpenClaim.holds_of_wide 3 Try.f3 rfl rfl rfl rfl rfl rfl rfl ⟨rfl, rfl, rfl, rfl, rfl⟩ rfl rfl rfl rfl rfl (by kernel_rfl) Try.func3 (by kernel_rfl)
    (of_decide_eq_true (by kernel_rfl)) (by unfold Func.isWrapper; first | (rw [if_pos (by decide +kernel)]; kernel_rfl) | (rw [if_neg (by decide +kernel)]; exact ⟨rfl, rfl⟩))
    (fun os started H enc _ => lifted os started H enc)

theorem proved : Rows.TaskPassesSaid := over
#print axioms proved
end Go.Proofs.Ytamkmmpockmpfaa.taskPasses
