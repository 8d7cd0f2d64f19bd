/-
  How each is served, in a map of method values: as it is laid, and as it is looked up.
-/
import Derived.Maps.RangeWalk
import Derived.Test.YtbelfcfdgkmnmaaMTake
namespace Go.Proofs.Ytbelfcfdgkmnmaa
open Go.RowKit Go.Maps

/-! ### A map whose elements are told as they stand -/
def heldE : Value → Option (DataW Value × List MemPlace) := fun v => some (.held v, [])
theorem keyK {i : Nat} (h : i < 256) : keyOf Try.prog 5 (.int .u8 (i : Int)) = some (.int .u8 (i : Int)) := keyOf_int_mk Try.underlying5 (by
  have e1 : IntKind.u8.min = 0 := rfl
  have e2 : IntKind.u8.max = 255 := rfl
  simp [Lit.wf, e1, e2]
  omega)
theorem keyed : Keyed Try.prog 5 := int_keyed Try.underlying5
def zeroD : Value := .agg #[.nilFunc, .nilFunc]
theorem zeroDE (w : World) : (zeroValue 54).run Try.prog w = .ok zeroD w := by kernel_rfl
theorem keyLit {i : Nat} (h : i < 256) : WideAt.IsKeyLit (.int .u8 (i : Int)) := keyed.key (keyK h)
theorem lit_ne {i j : Nat} (h : i ≠ j) : (Lit.int .u8 (i : Int)) ≠ .int .u8 (j : Int) := fun e => h (by
  simp only [Lit.int.injEq, true_and] at e
  omega)
theorem held_inj {a b : Value} (h : (DataW.held a : DataW Value) = .held b) : a = b := by cases h; rfl

/-- Block M is a map of c entries in which g tells what each number has. -/
def MapAt (W : World) (M : Nat) (g : Nat → Option Value) (c : Nat) : Prop :=
  ∃ D : DataW Value, W.ownsMap Try.prog 5 heldE M c D ∧ Maps.size D = c ∧ ∀ i : Nat, i < 256 → Maps.has D (.int .u8 (i : Int)) = (g i).isSome ∧ D.atKey (.int .u8 (i : Int)) (.held zeroD) = .held ((g i).getD zeroD)
def upd (g : Nat → Option Value) (i : Nat) (x : Option Value) : Nat → Option Value := fun k => if k = i then x else g k
theorem upd_same (g : Nat → Option Value) (i : Nat) (x : Option Value) : upd g i x i = x := by simp [upd]
theorem upd_ne {g : Nat → Option Value} {i k : Nat} {x : Option Value} (h : k ≠ i) : upd g i x k = g k := by simp [upd, h]

section
variable {W W' : World} {M c : Nat} {g : Nat → Option Value}
theorem MapAt.lt (h : MapAt W M g c) : M < W.heap.size := by obtain ⟨_, h, _⟩ := h; exact h.lt
theorem MapAt.of_block (h : MapAt W M g c) (hb : W'.heap[M]? = W.heap[M]?) : MapAt W' M g c := by
  obtain ⟨D, ⟨es, clock, h1, r⟩, h2⟩ := h
  exact ⟨D, ⟨es, clock, hb.trans h1, r⟩, h2⟩
theorem mapAt_made (w : World) : MapAt (w.alloc (.map #[] 0)) w.heap.size (fun _ => none) 0 :=
  ⟨.map [], World.ownsMap_made w _ _ _, rfl, fun _ _ => ⟨rfl, rfl⟩⟩
theorem MapAt.look (h : MapAt W M g c) {i : Nat} (hi : i < 256) : (Instr.lookup 56 (.map (some M)) (.int .u8 (i : Int)) true).run Try.prog W = .ok (.tuple #[(g i).getD zeroD, .bool (g i).isSome]) W := by
  obtain ⟨D, hown, _, hD⟩ := h
  obtain ⟨v, ps, hrun, hv⟩ := hown.look_ok keyed Try.underlying56 (zeroDE W) (show heldE zeroD = some (.held zeroD, []) from rfl) (keyK hi)
  obtain ⟨h1, h2⟩ := hD i hi
  simp only [heldE, Option.some.injEq, Prod.mk.injEq] at hv
  rw [h2] at hv
  rw [hrun, h1, held_inj hv.1]
theorem MapAt.store (h : MapAt W M g c) (hc : c < maxLen) {i : Nat} (hi : i < 256) (x : Value) :
    ∃ W', (Instr.mapUpdate 56 (.map (some M)) (.int .u8 (i : Int)) x).run Try.prog W = .ok () W' ∧ MapAt W' M (upd g i (some x)) (if (g i).isSome then c else c + 1) ∧ W.grownBy W' (some M) := by
  obtain ⟨D, hown, hs, hD⟩ := h
  obtain ⟨W', hrun, hown', hg⟩ := hown.update keyed Try.underlying56 hc (keyK hi) (show heldE x = some (.held x, []) from rfl)
  have hT := hown.tidy keyed
  have hsz := size_put (k := .int .u8 (i : Int)) hT (.held x)
  rw [(hD i hi).1, hs] at hsz
  refine ⟨W', hrun, ⟨_, ?_, hsz, fun k hk => ?_⟩, hg⟩
  · obtain ⟨es, clock, hb, F, hn, hD'⟩ := hown'
    refine ⟨es, clock, hb, F, ?_, hD'⟩
    rw [hD'] at hsz
    simp only [Maps.size, length_sorted, List.length_map, Array.length_toList] at hsz
    omega
  · by_cases e : k = i
    · subst e
      rw [upd_same]
      exact ⟨has_put_same hT.isMap (keyLit hk) _, atKey_put_same hT.isMap (keyLit hk) _ _⟩
    · rw [upd_ne e]
      have e' := lit_ne e
      exact ⟨(has_put_other e' _).trans (hD k hk).1, (atKey_put_other e' _ _).trans (hD k hk).2⟩
end

/-- The method f of the channel in block C. -/
def fnM (f : FuncId) (C : Nat) : Value := .func (.func f) #[.pointer (some ⟨C, 0, none⟩)] #[]
/-- How what has the number k is served. -/
def dV (C : Nat) (k : Nat) : Value := match k with
  | 2 => .agg #[fnM 22 C, fnM 23 C]
  | 3 => .agg #[fnM 24 C, fnM 25 C]
  | 4 => .agg #[.nilFunc, fnM 26 C]
  | _ => .agg #[.nilFunc, fnM 27 C]
def dG (C j : Nat) : Nat → Option Value := fun k => if 2 ≤ k ∧ k < j + 2 then some (dV C k) else none
/-- The map in block M has the first j of them. -/
def DMap (W : World) (M C j : Nat) : Prop := MapAt W M (dG C j) j
section
variable {W W' : World} {M C j : Nat}
theorem DMap.of_block (h : DMap W M C j) (hb : W'.heap[M]? = W.heap[M]?) : DMap W' M C j := MapAt.of_block h hb
theorem DMap.lt (h : DMap W M C j) : M < W.heap.size := MapAt.lt h
theorem dmap_made (w : World) (C : Nat) : DMap (w.alloc (.map #[] 0)) w.heap.size C 0 := by
  have h := mapAt_made w
  have e : dG C 0 = fun _ => none := by funext k; simp [dG]
  unfold DMap
  rw [e]; exact h
theorem DMap.store (h : DMap W M C j) (hj : j < 4) :
    ∃ W', (Instr.mapUpdate 56 (.map (some M)) (.int .u8 ((j + 2 : Nat) : Int)) (dV C (j + 2))).run Try.prog W = .ok () W' ∧ DMap W' M C (j + 1) ∧ W.grownBy W' (some M) := by
  obtain ⟨W', hrun, r1, r2⟩ := MapAt.store h (by unfold maxLen; omega) (i := j + 2) (by omega) (dV C (j + 2))
  have hno : (dG C j (j + 2)).isSome = false := by simp [dG]
  rw [hno] at r1
  have e : upd (dG C j) (j + 2) (some (dV C (j + 2))) = dG C (j + 1) := by
    funext k
    by_cases e : k = j + 2
    · subst e; simp [upd, dG]
    · rw [upd_ne e]
      unfold dG
      by_cases h1 : 2 ≤ k ∧ k < j + 2
      · rw [if_pos h1, if_pos (by omega)]
      · rw [if_neg h1, if_neg (by omega)]
  rw [e] at r1
  exact ⟨W', hrun, r1, r2⟩
theorem DMap.look (h : DMap W M C 4) {k : Nat} (hk : 2 ≤ k ∧ k < 6) : (Instr.lookup 56 (.map (some M)) (.int .u8 (k : Int)) true).run Try.prog W = .ok (.tuple #[dV C k, .bool true]) W := by
  rw [MapAt.look h (by omega)]
  simp [dG, hk]
theorem DMap.not (h : DMap W M C 4) {k : Nat} (hk : ¬ (2 ≤ k ∧ k < 6)) (hl : k < 256) : (Instr.lookup 56 (.map (some M)) (.int .u8 (k : Int)) true).run Try.prog W = .ok (.tuple #[zeroD, .bool false]) W := by
  rw [MapAt.look h hl]
  have e : dG C 4 k = none := by unfold dG; rw [if_neg hk]
  rw [e]; rfl
end

section
variable (w : World) {ops : Array Oper} {rest : List Oper} {o : Oper} {a : Act} {Q : Exit → Act → World → Prop}
/-- An entry of a map that is written out, at the operation. -/
theorem wpList_insD (hg : o.guard = none) (m x v : Operand) (hop : o.op = Op.insert 56 m x v)
    (hR : ∃ M C j, a.eval m = .map (some M) ∧ DMap w M C j ∧ j < 4 ∧ a.eval x = .int .u8 ((j + 2 : Nat) : Int) ∧ a.eval v = dV C (j + 2) ∧ ∀ w', DMap w' M C (j + 1) → w.grownBy w' (some M) → wpList Try.prog ops Q rest (a.put o.dst undef) w') :
    wpList Try.prog ops Q (o :: rest) a w := by
  obtain ⟨M, C, j, hm, h, hc, hx, hy, hK⟩ := hR
  refine wpList_plain hg fun K' hK' => ?_
  obtain ⟨w', hrun, r1, r2⟩ := h.store hc
  unfold Oper.wp
  simp [execOp, hop, hm, hx, hy, Result.andThen]
  have hrun' : (Instr.mapUpdate 56 (.map (some M)) (.int .u8 ((j : Int) + 2)) (dV C (j + 2))).run Try.prog w = .ok () w' := by simpa using hrun
  rw [hrun']
  exact hK' _ _ (hK w' r1 r2)
end

theorem below_ins {w0 w w' : World} {M : Nat} (h : Below w0.heap.size w0 w) (hM : w0.heap.size ≤ M) (hb : w.grownBy w' (some M)) : Below w0.heap.size w0 w' :=
  h.grown hb h.size (fun k e => by cases e; exact hM)

set_option maxRecDepth 100000 in
set_option maxHeartbeats 800000 in
theorem deeds_any (C : Nat) (w : World) :
    Calls Try.prog 16 #[.pointer (some ⟨C, 0, none⟩)] w fun e w' => e = .returned (.map (some w.heap.size)) ∧ DMap w' w.heap.size C 4 ∧ Below w.heap.size w w' := by
  have hmf : ∀ (fn : Fn) (first cap : Array Value) (w : World), (Instr.makeFunc fn first cap).run Try.prog w = .ok (.func fn first cap) w := fun _ _ _ _ => rfl
  have hmm := @run_makeMap Try.prog
  have hM := dmap_made w C
  have hB : Below w.heap.size w (w.alloc (.map #[] 0)) := below1 w _
  go_enter Try.func16, Try.ntmps16
  go_wp2_with (refine wpList_insD _ rfl _ _ _ rfl ?_; refine ⟨w.heap.size, C, _, rfl, hM, ?_, ?_, ?_, ?_⟩; (next => decide); (next => rfl); (next => rfl); go_frame; intro wx hMx hbx; have hBx := below_ins hB (Nat.le_refl _) hbx; clear hB hM hbx; have hB := hBx; have hM := hMx; clear hBx hMx)
  go_ret
  exact ⟨rfl, hM, hB⟩
end Go.Proofs.Ytbelfcfdgkmnmaa
