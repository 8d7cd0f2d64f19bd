/-
  A map from numbers to numbers, in which what is not there is 0.
-/
import Derived.Maps.OwnSet
import Derived.Maps.OwnOps
import Derived.Maps.RangeWalk
import Derived.Test.YtfbcaicfppommaaBBase
namespace Go.Proofs.Ytfbcaicfppommaa
open Go.RowKit Go.Maps

def heldE : Value → Option (DataW Value × List MemPlace) := fun v => some (.held v, [])
theorem keyK {i : Nat} (h : i < 256) : keyOf Try.prog 3 (.int .i64 (i : Int)) = some (.int .i64 (i : Int)) := keyOf_int_mk Try.underlying3 (WalkArith.wf_i64 (by omega))
theorem keyed : Keyed Try.prog 3 := int_keyed Try.underlying3
theorem zeroI (w : World) : (zeroValue 3).run Try.prog w = .ok (.int .i64 0) w := by kernel_rfl
theorem keyLit {i : Nat} (h : i < 256) : WideAt.IsKeyLit (.int .i64 (i : Int)) := keyed.key (keyK h)
theorem lit_ne {i j : Nat} (h : i ≠ j) : (Lit.int .i64 (i : Int)) ≠ .int .i64 (j : Int) := fun e => h (by
  simp only [Lit.int.injEq, true_and] at e
  omega)
theorem held_inj {a b : Value} (h : (DataW.held a : DataW Value) = .held b) : a = b := by cases h; rfl

/-- Block M is a map of c entries in which g tells what each number has, 0 where it is not there. -/
def MapAt (W : World) (M : Nat) (g : Nat → Nat) (c : Nat) : Prop :=
  ∃ D : DataW Value, W.ownsMap Try.prog 3 heldE M c D ∧ Maps.size D = c ∧ ∀ i : Nat, i < 256 → D.atKey (.int .i64 (i : Int)) (.held (.int .i64 0)) = .held (.int .i64 (g i : Int))
section
variable {W W' : World} {M c : Nat} {g : Nat → Nat}
theorem MapAt.lt (h : MapAt W M g c) : M < W.heap.size := by obtain ⟨_, h, _⟩ := h; exact h.lt
theorem MapAt.of_block (h : MapAt W M g c) (hb : W'.heap[M]? = W.heap[M]?) : MapAt W' M g c := by
  obtain ⟨D, ⟨es, clock, h1, r⟩, h2⟩ := h
  exact ⟨D, ⟨es, clock, hb.trans h1, r⟩, h2⟩
theorem mapAt_made (w : World) : MapAt (w.alloc (.map #[] 0)) w.heap.size (fun _ => 0) 0 :=
  ⟨.map [], World.ownsMap_made w _ _ _, rfl, fun _ _ => rfl⟩
theorem MapAt.look (h : MapAt W M g c) {i : Nat} (hi : i < 256) : (Instr.lookup 52 (.map (some M)) (.int .i64 (i : Int)) false).run Try.prog W = .ok (.int .i64 (g i : Int)) W := by
  obtain ⟨D, hown, _, hD⟩ := h
  obtain ⟨v, ps, hrun, hv⟩ := hown.lookup keyed Try.underlying52 (zeroI W) (show heldE (.int .i64 0) = some (.held (.int .i64 0), []) from rfl) (keyK hi)
  have h2 := hD i hi
  simp only [heldE, Option.some.injEq, Prod.mk.injEq] at hv
  rw [h2] at hv
  rw [hrun, held_inj hv.1]
theorem MapAt.store (h : MapAt W M g c) (hc : c < maxLen) {i : Nat} (hi : i < 256) (x : Nat) :
    ∃ W' c', (Instr.mapUpdate 52 (.map (some M)) (.int .i64 (i : Int)) (.int .i64 (x : Int))).run Try.prog W = .ok () W' ∧ MapAt W' M (upN g i x) c' ∧ c' ≤ c + 1 ∧ But [M] W W' := by
  obtain ⟨D, hown, hs, hD⟩ := h
  obtain ⟨W', hrun, hown', hg⟩ := hown.update keyed Try.underlying52 hc (keyK hi) (show heldE (.int .i64 (x : Int)) = some (.held (.int .i64 (x : Int)), []) from rfl)
  have hT := hown.tidy keyed
  have hsz := size_put (k := .int .i64 (i : Int)) hT (.held (.int .i64 (x : Int)))
  rw [hs] at hsz
  refine ⟨W', _, hrun, ⟨_, ?_, hsz, fun k hk => ?_⟩, by split <;> omega, But.of_some hg (by simp)⟩
  · obtain ⟨es, clock, hb, F, hn, hD'⟩ := hown'
    refine ⟨es, clock, hb, F, ?_, hD'⟩
    rw [hD'] at hsz
    simp only [Maps.size, length_sorted, List.length_map, Array.length_toList] at hsz
    omega
  · by_cases e : k = i
    · subst e
      rw [upN_same]
      exact atKey_put_same hT.isMap (keyLit hk) _ _
    · rw [upN_ne e]
      exact (atKey_put_other (lit_ne e) _ _).trans (hD k hk)
end
end Go.Proofs.Ytfbcaicfppommaa
