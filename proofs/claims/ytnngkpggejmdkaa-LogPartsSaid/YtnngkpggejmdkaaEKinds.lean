/-
  The map of kinds, as it is laid: what each number of an entry's kind is told.
-/
import Derived.Test.YtnngkpggejmdkaaESet
namespace Go.Proofs.Ytnngkpggejmdkaa
open Go.RowKit Go.Maps SetM

/-- A kind: its word, and the set of what it names. -/
def kinV (k : Nat) : Value := .agg #[.string ⟨(wordL k).toArray⟩, .int .u64 (maskN k : Int)]
def zeroK : Value := .agg #[.string ⟨#[]⟩, .int .u64 0]
theorem kinV_out {k : Nat} (h : known k = false) : kinV k = zeroK := by
  unfold kinV; rw [wordL_out h, maskN_out h]; rfl

/-! ### A map whose elements are told as they stand -/
def heldE : Value → Option (DataW Value × List MemPlace) := fun v => some (.held v, [])
theorem keyK {i : Nat} (h : i < 256) : keyOf Try.prog 5 (.int .u8 (i : Int)) = some (.int .u8 (i : Int)) := keyOf_int_mk Try.underlying5 (by
  have e1 : IntKind.u8.min = 0 := rfl
  have e2 : IntKind.u8.max = 255 := rfl
  simp [Lit.wf, e1, e2]
  omega)
theorem keyed : Keyed Try.prog 5 := int_keyed Try.underlying5
theorem zeroE (w : World) : (zeroValue 51).run Try.prog w = .ok zeroK w := by kernel_rfl
theorem keyLit {i : Nat} (h : i < 256) : WideAt.IsKeyLit (.int .u8 (i : Int)) := keyed.key (keyK h)
theorem lit_ne {i j : Nat} (h : i ≠ j) : (Lit.int .u8 (i : Int)) ≠ .int .u8 (j : Int) := fun e => h (by
  simp only [Lit.int.injEq, true_and] at e
  omega)
theorem held_inj {a b : Value} (h : (DataW.held a : DataW Value) = .held b) : a = b := by cases h; rfl

/-- Block M is a map of c entries in which g tells what each number has. -/
def MapAt (W : World) (M : Nat) (g : Nat → Option Value) (c : Nat) : Prop :=
  ∃ D : DataW Value, W.ownsMap Try.prog 5 heldE M c D ∧ Maps.size D = c ∧ ∀ i : Nat, i < 256 → Maps.has D (.int .u8 (i : Int)) = (g i).isSome ∧ D.atKey (.int .u8 (i : Int)) (.held zeroK) = .held ((g i).getD zeroK)
def upd (g : Nat → Option Value) (i : Nat) (x : Option Value) : Nat → Option Value := fun k => if k = i then x else g k
theorem upd_same (g : Nat → Option Value) (i : Nat) (x : Option Value) : upd g i x i = x := by simp [upd]
theorem upd_ne {g : Nat → Option Value} {i k : Nat} {x : Option Value} (h : k ≠ i) : upd g i x k = g k := by simp [upd, h]

section
variable {W W' : World} {M c : Nat} {g : Nat → Option Value}
theorem MapAt.lt (h : MapAt W M g c) : M < W.heap.size := by obtain ⟨_, h, _⟩ := h; exact h.lt
theorem MapAt.of_block (h : MapAt W M g c) (hb : W'.heap[M]? = W.heap[M]?) : MapAt W' M g c := by
  obtain ⟨D, ⟨es, clock, h1, r⟩, h2⟩ := h
  exact ⟨D, ⟨es, clock, hb.trans h1, r⟩, h2⟩
theorem MapAt.but (h : MapAt W M g c) {S : List Nat} (hb : But S W W') (hn : M ∉ S) : MapAt W' M g c := h.of_block (hb.block M h.lt hn)
theorem MapAt.is (h : MapAt W M g c) : ∃ es clock, W.heap[M]? = some (.map es clock) := by obtain ⟨_, ⟨es, clock, h1, _⟩, _⟩ := h; exact ⟨_, _, h1⟩
theorem mapAt_made (w : World) : MapAt (w.alloc (.map #[] 0)) w.heap.size (fun _ => none) 0 :=
  ⟨.map [], World.ownsMap_made w _ _ _, rfl, fun _ _ => ⟨rfl, rfl⟩⟩
theorem MapAt.look (h : MapAt W M g c) {i : Nat} (hi : i < 256) : (Instr.lookup 54 (.map (some M)) (.int .u8 (i : Int)) true).run Try.prog W = .ok (.tuple #[(g i).getD zeroK, .bool (g i).isSome]) W := by
  obtain ⟨D, hown, _, hD⟩ := h
  obtain ⟨v, ps, hrun, hv⟩ := hown.look_ok keyed Try.underlying54 (zeroE W) (show heldE zeroK = some (.held zeroK, []) from rfl) (keyK hi)
  obtain ⟨h1, h2⟩ := hD i hi
  simp only [heldE, Option.some.injEq, Prod.mk.injEq] at hv
  rw [h2] at hv
  rw [hrun, h1, held_inj hv.1]
theorem MapAt.store (h : MapAt W M g c) (hc : c < maxLen) {i : Nat} (hi : i < 256) (x : Value) :
    ∃ W', (Instr.mapUpdate 54 (.map (some M)) (.int .u8 (i : Int)) x).run Try.prog W = .ok () W' ∧ MapAt W' M (upd g i (some x)) (if (g i).isSome then c else c + 1) ∧ But [M] W W' := by
  obtain ⟨D, hown, hs, hD⟩ := h
  obtain ⟨W', hrun, hown', hg⟩ := hown.update keyed Try.underlying54 hc (keyK hi) (show heldE x = some (.held x, []) from rfl)
  have hT := hown.tidy keyed
  have hsz := size_put (k := .int .u8 (i : Int)) hT (.held x)
  rw [(hD i hi).1, hs] at hsz
  refine ⟨W', hrun, ⟨_, ?_, hsz, fun k hk => ?_⟩, But.of_some hg (by simp)⟩
  · obtain ⟨es, clock, hb, F, hn, hD'⟩ := hown'
    refine ⟨es, clock, hb, F, ?_, hD'⟩
    rw [hD'] at hsz
    simp only [Maps.size, length_sorted, List.length_map, Array.length_toList] at hsz
    omega
  · by_cases e : k = i
    · subst e
      rw [upd_same]
      exact ⟨has_put_same hT.isMap (keyLit hk) _, atKey_put_same hT.isMap (keyLit hk) _ _⟩
    · rw [upd_ne e]
      have e' := lit_ne e
      exact ⟨(has_put_other e' _).trans (hD k hk).1, (atKey_put_other e' _ _).trans (hD k hk).2⟩
end

/-- The map in block M has the kinds of ds. -/
def KMap (W : World) (M : Nat) (ds : List Nat) : Prop := ∃ g, MapAt W M g ds.length ∧ ∀ o, g o = if o ∈ ds then some (kinV o) else none
def kindsL : List Nat := [26, 25, 24, 23, 22, 21, 11, 10, 9, 8, 7, 6, 5, 4, 3, 2, 1]
theorem mem_kinds (o : Nat) : o ∈ kindsL ↔ known o = true := by
  simp [kindsL, known]
  omega
section
variable {W W' : World} {M : Nat} {ds : List Nat}
theorem KMap.lt (h : KMap W M ds) : M < W.heap.size := by obtain ⟨_, h, _⟩ := h; exact h.lt
theorem KMap.but (h : KMap W M ds) {S : List Nat} (hb : But S W W') (hn : M ∉ S) : KMap W' M ds := by
  obtain ⟨g, h1, h2⟩ := h
  exact ⟨g, h1.but hb hn, h2⟩
theorem KMap.fresh (h : KMap W M ds) (hb : But [] W W') : KMap W' M ds := h.but hb (by simp)
theorem KMap.is (h : KMap W M ds) : ∃ es clock, W.heap[M]? = some (.map es clock) := by obtain ⟨_, h, _⟩ := h; exact h.is
theorem KMap.of_block (h : KMap W M ds) (hb : W'.heap[M]? = W.heap[M]?) : KMap W' M ds := by
  obtain ⟨g, h1, h2⟩ := h
  exact ⟨g, h1.of_block hb, h2⟩
theorem kmap_made (w : World) : KMap (w.alloc (.map #[] 0)) w.heap.size [] := ⟨_, mapAt_made w, fun o => by simp⟩
theorem KMap.store (h : KMap W M ds) {o : Nat} (ho : o < 256) (hl : ds.length < 100) (hn : o ∉ ds) {x : Value} (hx : x = kinV o) :
    ∃ W', (Instr.mapUpdate 54 (.map (some M)) (.int .u8 (o : Int)) x).run Try.prog W = .ok () W' ∧ KMap W' M (o :: ds) ∧ But [M] W W' := by
  obtain ⟨g, h1, h2⟩ := h
  obtain ⟨W', hrun, r1, r2⟩ := h1.store (by unfold maxLen; omega) ho x
  have hno : (g o).isSome = false := by rw [h2, if_neg hn]; rfl
  rw [hno] at r1
  refine ⟨W', hrun, ⟨_, r1, fun o' => ?_⟩, r2⟩
  by_cases e : o' = o
  · subst e; rw [upd_same, if_pos (List.mem_cons_self ..), hx]
  · rw [upd_ne e, h2]
    simp [e]
/-- What is looked up: the kind of o, and whether there is one. -/
theorem KMap.look (h : KMap W M kindsL) {o : Nat} (ho : o < 256) : (Instr.lookup 54 (.map (some M)) (.int .u8 (o : Int)) true).run Try.prog W = .ok (.tuple #[kinV o, .bool (known o)]) W := by
  obtain ⟨g, h1, h2⟩ := h
  rw [h1.look ho, h2]
  by_cases e : o ∈ kindsL
  · rw [if_pos e, (mem_kinds o).1 e]; rfl
  · rw [if_neg e]
    have hk : known o = false := by
      cases e2 : known o with
      | false => rfl
      | true => exact absurd ((mem_kinds o).2 e2) e
    rw [hk, kinV_out hk]; rfl
end

section
variable (w : World) {ops : Array Oper} {rest : List Oper} {o : Oper} {a : Act} {Q : Exit → Act → World → Prop}
/-- An entry of a map that is written out, at the operation. -/
theorem wpList_ins (hg : o.guard = none) (m x v : Operand) (hop : o.op = Op.insert 54 m x v)
    (hR : ∃ M ds z, a.eval m = .map (some M) ∧ KMap w M ds ∧ a.eval x = .int .u8 z ∧ (0 ≤ z ∧ z < 256) ∧ ds.length < 100 ∧ z.toNat ∉ ds ∧ a.eval v = kinV z.toNat ∧ ∀ w', KMap w' M (z.toNat :: ds) → But [M] w w' → wpList Try.prog ops Q rest (a.put o.dst undef) w') :
    wpList Try.prog ops Q (o :: rest) a w := by
  obtain ⟨M, ds, z, hm, h, hx, hz, hl, hn, hy, hK⟩ := hR
  obtain ⟨k, rfl⟩ := Int.eq_ofNat_of_zero_le hz.1
  have hk : k < 256 := by omega
  rw [Int.toNat_natCast] at hn hy hK
  refine wpList_plain hg fun K' hK' => ?_
  obtain ⟨w', hrun, r1, r2⟩ := h.store hk hl hn hy
  unfold Oper.wp
  simp [execOp, hop, hm, hx, Result.andThen]
  rw [hrun]
  exact hK' _ _ (hK w' r1 r2)
end
theorem below_ins {w0 w w' : World} {M : Nat} (h : Below w0.heap.size w0 w) (hM : w0.heap.size ≤ M) (hb : But [M] w w') : Below w0.heap.size w0 w' :=
  h.trans (hb.below h.size (by simpa using hM))

set_option maxRecDepth 100000 in
set_option maxHeartbeats 1600000 in
theorem kinds_any (w : World) :
    Calls Try.prog 27 #[] w fun e w' => e = .returned (.map (some w.heap.size)) ∧ KMap w' w.heap.size kindsL ∧ Below w.heap.size w w' := by
  have hK := kmap_made w
  have hB : Below w.heap.size w (w.alloc (.map #[] 0)) := (Below.refl _ w).alloc (Nat.le_refl _) _
  go_enter Try.func27, Try.ntmps27
  have hmm := @run_makeMap Try.prog
  simp only [List.append_eq, List.cons_append, List.nil_append]
  go_wp2_with (first
    | ((with_reducible refine (of_lit _ _ _ _ ?_ ?_ ?_ ?_ ?_ ?_).mono ?_); (next => first | rfl | simp); (next => rfl); (next => rfl); (next => (intro x hx; simp [intOf] at hx; omega)); (next => decide); (next => decide); rintro e wo ⟨rfl, rfl⟩)
    | (refine wpList_ins _ rfl _ _ _ rfl ?_; refine ⟨w.heap.size, _, _, rfl, hK.fresh ((But.refl [] _).alloc _), rfl, ?_, ?_, ?_, ?_, ?_⟩; (next => decide); (next => decide); (next => decide); (next => rfl); go_frame; intro wx hKx hbx; have hBx := below_ins (hB.alloc hB.size _) (Nat.le_refl _) hbx; clear hK hB hbx; have hK := hKx; have hB := hBx; clear hKx hBx)
    | fail)
  go_wp2_with fail
  go_ret
  exact ⟨rfl, hK, hB⟩
end Go.Proofs.Ytnngkpggejmdkaa
