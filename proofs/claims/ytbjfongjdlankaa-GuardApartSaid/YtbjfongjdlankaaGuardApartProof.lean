/-
  For every row of wants and every row of turns: GuardApart returns true, and both arguments read afterwards as before. No condition.
-/
import Derived.Test.YtbjfongjdlankaaRows
import Derived.WalkKit
import Derived.Test.YtbjfongjdlankaaUApartW
import Derived.ProofKit
import Derived.OpenShut
import Derived.ShutString
import Derived.ChangeOld
import Derived.Below
import Derived.Deep.Slices
namespace Go.Proofs.Ytbjfongjdlankaa.guardApart
open Go.ChangeShapes Go.WideShapes Go.ChangeAt Go.RowKit Go.Deep

theorem own : ownKnob Try.prog.godebug = none := by kernel_rfl
theorem laidOut : laidOutB Try.prog = true := by kernel_rfl

/-- The slice a of that length, as it lies in memory: its cells are f's. -/
def In0 (w : World) (a : Option Addr) (len : Nat) : Prop :=
  len = 0 ∨ ∃ (b off : Nat) (f : Nat → Int), a = some ⟨b, off, none⟩ ∧ b < w.heap.size ∧ ∀ j, j < len → w.cell? ⟨b, off + j, none⟩ = some (.int .u8 (f j)) ∧ (Lit.int .u8 (f j)).wf = true
theorem cellsOf0 : Try.prog.cellsOf 5 = 1 := by kernel_rfl
set_option maxRecDepth 100000 in
theorem elem0 {H : Type} {enc : TypeId × Value → H} {W : World} {n : Nat} {y : Addr} {cs : List Value} {x : DataW H × List MemPlace} (h1 : W.cells? 0 y 1 = some cs) (h2 : DataW.trod enc Try.prog W 0 (fun _ => true) true n 5 cs = some x) :
    ∃ q : Int, W.cell? (y) = some (.int .u8 q) ∧ (Lit.int .u8 q).wf = true := by
  obtain ⟨_, hlen, hat⟩ := World.cells?_some h1
  match cs, hlen with
  | [v0], _ =>
    have g0 := h2
    obtain ⟨c0, e0, _, u0⟩ := DataW.trod_int Try.underlying5 g0
    simp only [List.cons.injEq, and_true] at e0
    subst e0
    exact ⟨c0, by simpa [Addr.add] using hat 0 (by omega), u0⟩
theorem in0_of {H : Type} {enc : TypeId × Value → H} {W : World} {a : Option Addr} {len cap : Nat} {d : DataW H} {p : List MemPlace} (h : DataW.Trod enc Try.prog W 0 (fun _ => true) true 60 (.slice a len cap) d p) : In0 W a len := by
  obtain ⟨fuel, hf⟩ := h
  rcases open_slice Try.underlying60 hf with ⟨hcs, _⟩ | ⟨x, l, c, m, n, D, Pl, hcs, _, hl, hm, hmm, _, hx⟩
  · simp [Value.cells] at hcs
    exact .inl hcs.2.1
  · simp [Value.cells] at hcs
    obtain ⟨rfl, rfl, rfl⟩ := hcs
    by_cases h0 : len = 0
    · exact .inl h0
    have hlm : len ≤ m := by rw [hmm]; split <;> omega
    rw [cellsOf0] at hx
    have key : ∀ j, j < len → ∃ q : Int, W.cell? (x.add (j * 1)) = some (.int .u8 q) ∧ (Lit.int .u8 q).wf = true := fun j hj => by
      obtain ⟨cs, h1, h2⟩ := hx j (by omega)
      exact elem0 h1 h2
    obtain ⟨f, hf⟩ := choose_lt key
    obtain ⟨b, off, spot⟩ := x
    have hc0 := (hf 0 (by omega)).1
    have hspot : spot = none := by simpa [Addr.add] using World.cell?_spot hc0
    subst hspot
    have ad : ∀ o j, (Addr.mk b o none).add j = ⟨b, o + j, none⟩ := fun o j => by
      by_cases hj : j = 0
      · subst hj; simp [Addr.add]
      · simp [Addr.add, hj]
    refine .inr ⟨b, off, f, rfl, World.block_lt_of_cell? W _ hc0, fun j hj => ?_⟩
    have r := hf j hj
    simpa only [ad, Nat.mul_one] using r

/-- The slice a of that length, as it lies in memory: its cells are f's. -/
def In1 (w : World) (a : Option Addr) (len : Nat) : Prop :=
  len = 0 ∨ ∃ (b off : Nat) (f : Nat → Int), a = some ⟨b, off, none⟩ ∧ b < w.heap.size ∧ ∀ j, j < len → w.cell? ⟨b, off + j, none⟩ = some (.int .u8 (f j)) ∧ (Lit.int .u8 (f j)).wf = true
theorem cellsOf1 : Try.prog.cellsOf 5 = 1 := by kernel_rfl
set_option maxRecDepth 100000 in
theorem elem1 {H : Type} {enc : TypeId × Value → H} {W : World} {n : Nat} {y : Addr} {cs : List Value} {x : DataW H × List MemPlace} (h1 : W.cells? 0 y 1 = some cs) (h2 : DataW.trod enc Try.prog W 0 (fun _ => true) true n 5 cs = some x) :
    ∃ q : Int, W.cell? (y) = some (.int .u8 q) ∧ (Lit.int .u8 q).wf = true := by
  obtain ⟨_, hlen, hat⟩ := World.cells?_some h1
  match cs, hlen with
  | [v0], _ =>
    have g0 := h2
    obtain ⟨c0, e0, _, u0⟩ := DataW.trod_int Try.underlying5 g0
    simp only [List.cons.injEq, and_true] at e0
    subst e0
    exact ⟨c0, by simpa [Addr.add] using hat 0 (by omega), u0⟩
theorem in1_of {H : Type} {enc : TypeId × Value → H} {W : World} {a : Option Addr} {len cap : Nat} {d : DataW H} {p : List MemPlace} (h : DataW.Trod enc Try.prog W 0 (fun _ => true) true 60 (.slice a len cap) d p) : In1 W a len := by
  obtain ⟨fuel, hf⟩ := h
  rcases open_slice Try.underlying60 hf with ⟨hcs, _⟩ | ⟨x, l, c, m, n, D, Pl, hcs, _, hl, hm, hmm, _, hx⟩
  · simp [Value.cells] at hcs
    exact .inl hcs.2.1
  · simp [Value.cells] at hcs
    obtain ⟨rfl, rfl, rfl⟩ := hcs
    by_cases h0 : len = 0
    · exact .inl h0
    have hlm : len ≤ m := by rw [hmm]; split <;> omega
    rw [cellsOf1] at hx
    have key : ∀ j, j < len → ∃ q : Int, W.cell? (x.add (j * 1)) = some (.int .u8 q) ∧ (Lit.int .u8 q).wf = true := fun j hj => by
      obtain ⟨cs, h1, h2⟩ := hx j (by omega)
      exact elem1 h1 h2
    obtain ⟨f, hf⟩ := choose_lt key
    obtain ⟨b, off, spot⟩ := x
    have hc0 := (hf 0 (by omega)).1
    have hspot : spot = none := by simpa [Addr.add] using World.cell?_spot hc0
    subst hspot
    have ad : ∀ o j, (Addr.mk b o none).add j = ⟨b, o + j, none⟩ := fun o j => by
      by_cases hj : j = 0
      · subst hj; simp [Addr.add]
      · simp [Addr.add, hj]
    refine .inr ⟨b, off, f, rfl, World.block_lt_of_cell? W _ hc0, fun j hj => ?_⟩
    have r := hf j hj
    simpa only [ad, Nat.mul_one] using r

/-! ### THE WALK -/
theorem walk (a0 : Option Addr) (len0 cap0 : Nat) (a1 : Option Addr) (len1 cap1 : Nat) (w : World) (w0 : In0 w a0 len0) (w1 : In1 w a1 len1) :
    Calls Try.prog 4 #[.slice a0 len0 cap0, .slice a1 len1 cap1] w fun e w' => e = .returned (.bool true) ∧ Below w.heap.size w w' := by
  have h0 : ∃ fq : Nat → Nat, ∀ j, j < len0 → ∃ b off, a0 = some ⟨b, off, none⟩ ∧ w.cell? ⟨b, off + j, none⟩ = some (.int .u8 (fq j : Int)) := by
    rcases w0 with rfl | ⟨b, off, f, rfl, _, hf⟩
    · exact ⟨fun _ => 0, fun j hj => by omega⟩
    · refine ⟨fun j => (f j).toNat, fun j hj => ⟨b, off, rfl, ?_⟩⟩
      obtain ⟨r0, u0⟩ := hf j hj
      have b0 := bounds_u8 u0
      show _ = some (Value.int .u8 ((f j).toNat : Int))
      rw [Int.toNat_of_nonneg b0.1]; exact r0
  have h1 : ∃ fo : Nat → Nat, (∀ j, j < len1 → fo j < 256) ∧ ∀ j, j < len1 → ∃ b off, a1 = some ⟨b, off, none⟩ ∧ w.cell? ⟨b, off + j, none⟩ = some (.int .u8 (fo j : Int)) := by
    rcases w1 with rfl | ⟨b, off, f, rfl, _, hf⟩
    · exact ⟨fun _ => 0, fun j hj => by omega, fun j hj => by omega⟩
    · refine ⟨fun j => (f j).toNat, fun j hj => ?_, fun j hj => ⟨b, off, rfl, ?_⟩⟩
      · have b0 := bounds_u8 (hf j hj).2
        show (f j).toNat < 256
        omega
      · obtain ⟨r0, u0⟩ := hf j hj
        have b0 := bounds_u8 u0
        show _ = some (Value.int .u8 ((f j).toNat : Int))
        rw [Int.toNat_of_nonneg b0.1]; exact r0
  obtain ⟨fq, hq⟩ := h0
  obtain ⟨fo, ho8, ho⟩ := h1
  exact apart_walk len0 len1 cap0 cap1 a0 a1 fq fo w hq ho8 ho

/-! ### THE ROW's STEP -/
set_option maxRecDepth 100000 in
theorem lifted (os : Os) (started : os.Started) (H : Type) (enc : TypeId × Value → H) :
    ReturnsInHanded {} Try.checked os 4 .any (Rows.guardApartSpec.pre6 enc Try.prog Try.f4 Rows.guardApartRow.domain false) (Rows.guardApartSpec.post enc Try.prog Try.f4 false true false false) := by
  refine returnsInHanded_of_change (C := Try.checked) own started (by kernel_rfl) Try.func4
    (ChangeSpec.witness6 (enc := enc) (C := Try.checked) false ⟨#[], #[.slice none 0 0, .slice none 0 0], []⟩ 8 (by kernel_rfl) (by kernel_rfl) (by kernel_rfl) (by kernel_rfl)) ?_
  intro W base args ds gs before hval0 hW hcnd _
  have hval : ∀ (j : Nat) t v, Try.f4.params[j]? = some t → args[j]? = some v → Value.okWide Try.prog W .any base t v := hval0
  have hW' := hW
  obtain ⟨p, q, hA0, hV, rfl, hfz, hnd⟩ := hW
  have hA : DataW.TrodAll enc Try.prog W 0 (fun _ => true) true Try.f4.params.toList args.toList ds p := hA0
  rw [Try.params4] at hA hval
  obtain ⟨v0, vs0, d0, ds0, p0, q0, hargs, rfl, rfl, h0, r0⟩ := trodAll_cons hA
  obtain ⟨v1, vs1, d1, ds1, p1, q1, rfl, rfl, rfl, h1, r1⟩ := trodAll_cons r0
  obtain ⟨rfl, rfl, rfl⟩ := trodAll_nil r1
  obtain rfl : args = #[v0, v1] := by cases args; simp_all
  obtain ⟨rfl, rfl⟩ := trodVars_none hV
  obtain ⟨a0, len0, cap0, rfl⟩ := okWide_slice Try.underlying60 (hval 0 60 v0 rfl rfl)
  have k0 := h0
  have lt0 : ∀ x ∈ p0, x.block < W.heap.size := by obtain ⟨m, hm⟩ := k0; exact DataW.trod_lt m _ _ _ hm
  have w0 := in0_of k0
  obtain ⟨a1, len1, cap1, rfl⟩ := okWide_slice Try.underlying60 (hval 1 60 v1 rfl rfl)
  have k1 := h1
  have lt1 : ∀ x ∈ p1, x.block < W.heap.size := by obtain ⟨m, hm⟩ := k1; exact DataW.trod_lt m _ _ _ hm
  have w1 := in1_of k1
  clear hA0 hval0
  refine (walk a0 len0 cap0 a1 len1 cap1 W w0 w1).mono fun e W' ⟨he, bel⟩ => ?_
  subst he
  exact ⟨_, rfl, _, _, _, [], _, [], hW', trodAll_mk1 (shut_bool Try.underlying4 _), (trodAll_cons_mk (Below.trod laidOut (by kernel_rfl) (of_decide_eq_true (by kernel_rfl)) k0 bel lt0) (trodAll_cons_mk (Below.trod laidOut (by kernel_rfl) (of_decide_eq_true (by kernel_rfl)) k1 bel lt1) trodAll_mk0)), rfl, bel.frame _, fun h => by cases h⟩

theorem over : Rows.guardApartRow.holds Try.pinned (OpenSpec.ofChange Rows.guardApartSpec) :=
  OpenClaim.holds_of_wide 4 Try.f4 rfl rfl rfl rfl rfl rfl rfl ⟨rfl, rfl, rfl, rfl, rfl⟩ rfl rfl rfl rfl rfl (by kernel_rfl) Try.func4 (by kernel_rfl)
    (of_decide_eq_true (by kernel_rfl)) (by unfold Func.isWrapper; first | (rw [if_pos (by decide +kernel)]; kernel_rfl) | (rw [if_neg (by decide +kernel)]; exact ⟨rfl, rfl⟩))
    (fun os started H enc _ => lifted os started H enc)

theorem proved : Rows.GuardApartSaid := over
#print axioms proved
end Go.Proofs.Ytbjfongjdlankaa.guardApart
