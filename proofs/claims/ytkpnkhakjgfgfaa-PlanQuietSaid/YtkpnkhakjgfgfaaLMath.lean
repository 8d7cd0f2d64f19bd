/-
  Queues in memory: a block of a map and two numbers, and the map's block: what each number's neighbours are; pure.
-/
import Derived.Lib.Hide
import Derived.Test.YtkpnkhakjgfgfaaRows
import Derived.WalkKit
import Derived.WalkLawsBesides
import Derived.WalkSpells
import Derived.WalkArith
import Derived.Outline
import Derived.Below
import Derived.RangeFuncBox
import Derived.BigQuiet
import Derived.OwnWalk
import Derived.StillTailTactics
import Derived.Maps.OwnSet
import Derived.Maps.OwnOps
namespace Go.Proofs.Ytkpnkhakjgfgfaa.Lq
open Go.RowKit Go.Maps

/-! ### What may have been turned: the blocks of a list, and new ones -/
structure But (S : List Nat) (w w' : World) : Prop where
  os : w'.os = w.os
  tape : w'.tape = w.tape
  output : w'.output = w.output
  size : w.heap.size ≤ w'.heap.size
  block : ∀ k, k < w.heap.size → k ∉ S → w'.heap[k]? = w.heap[k]?

theorem But.refl (S : List Nat) (w : World) : But S w w := ⟨rfl, rfl, rfl, Nat.le_refl _, fun _ _ _ => rfl⟩
theorem But.mono {S T : List Nat} {w w' : World} (h : But S w w') (hS : ∀ k ∈ S, k ∈ T) : But T w w' := ⟨h.os, h.tape, h.output, h.size, fun k hk hn => h.block k hk (fun e => hn (hS k e))⟩
theorem But.trans {S T : List Nat} {a b c : World} (h : But S a b) (k : But T b c) (hT : ∀ x ∈ T, x < a.heap.size → x ∈ S) : But S a c :=
  ⟨k.os.trans h.os, k.tape.trans h.tape, k.output.trans h.output, Nat.le_trans h.size k.size,
   fun i hi hn => (k.block i (Nat.lt_of_lt_of_le hi h.size) (fun e => hn (hT i e hi))).trans (h.block i hi hn)⟩
theorem But.next {S : List Nat} {a b c : World} (h : But S a b) (k : But S b c) : But S a c := h.trans k (fun _ h _ => h)
theorem But.own {S T : List Nat} {a b c : World} (h : But S a b) (k : But T b c) (hT : ∀ x ∈ T, a.heap.size ≤ x) : But S a c := h.trans k (fun x hx h0 => by have := hT x hx; omega)
theorem But.of_none {w w' : World} (h : w.grownBy w' none) (S : List Nat) : But S w w' := ⟨h.os, h.tape, h.output, h.size, fun k hk _ => h.block k hk (by simp)⟩
theorem But.of_some {w w' : World} {B : Nat} (h : w.grownBy w' (some B)) {S : List Nat} (hB : B ∈ S) : But S w w' := ⟨h.os, h.tape, h.output, h.size, fun k hk hn => h.block k hk (fun e => by cases e; exact hn hB)⟩
theorem But.drewN {S : List Nat} {w w' : World} (h : But S w w') (n : Nat) : But S w (w'.drewN n) := ⟨h.os, h.tape, h.output, h.size, h.block⟩
theorem But.drew {S : List Nat} {w w' : World} (h : But S w w') : But S w w'.drew := ⟨h.os, h.tape, h.output, h.size, h.block⟩
theorem But.alloc {S : List Nat} {w w' : World} (h : But S w w') (o : Obj) : But S w (w'.alloc o) := h.trans (.of_none (World.grownBy_alloc w' o none) []) (by simp)
theorem But.set {S : List Nat} {w w' : World} (h : But S w w') {p : Addr} (hp : p.block ∈ S ∨ w.heap.size ≤ p.block) (v : Value) : But S w (w'.setCell p v) :=
  ⟨h.os, h.tape, h.output, by simpa [World.setCell] using h.size, fun k hk hn => (Below.heap_setCell w' p v k (fun e => by subst e; rcases hp with hp | hp; exact hn hp; omega)).trans (h.block k hk hn)⟩
theorem But.cell {S : List Nat} {w w' : World} (h : But S w w') {p : Addr} {v : Value} (hv : w.cell? p = some v) (hn : p.block ∉ S) : w'.cell? p = some v :=
  (World.cell?_of_block (w := w) (h.block p.block (World.block_lt_of_cell? w p hv) hn)).trans hv
theorem But.frozen {S : List Nat} {w w' : World} (h : But S w w') {p : Addr} {b : Bool} (hv : w.frozen? p = b) (hl : p.block < w.heap.size) (hn : p.block ∉ S) : w'.frozen? p = b :=
  (World.frozen?_of_block (w := w) (h.block p.block hl hn)).trans hv
theorem But.boxed {S : List Nat} {w w' : World} (h : But S w w') {B : Nat} {t : TypeId} {v : Value} (hb : Boxed w B t v) (hn : B ∉ S) : Boxed w' B t v := (h.block B hb.lt hn).trans hb
theorem But.below {S : List Nat} {w w' : World} (h : But S w w') {n : Nat} (hn : n ≤ w.heap.size) (hS : ∀ k ∈ S, n ≤ k) : Below n w w' :=
  ⟨h.os, h.tape, h.output, h.size, fun k hk => h.block k (Nat.lt_of_lt_of_le hk hn) (fun e => Nat.lt_irrefl _ (Nat.lt_of_lt_of_le hk (hS k e)))⟩
theorem But.of_below {w w' : World} (h : Below w.heap.size w w') (S : List Nat) : But S w w' := ⟨h.os, h.tape, h.output, h.size, fun k hk _ => h.block k hk⟩
theorem But.row {S : List Nat} {w w' : World} (h : But S w w') {base : Nat} {e : TypeId} {size : Nat} {v : Value} {n : Nat} {xs : List Value} (hr : w.ownsRow base e size v n xs) (hn : ∀ g, v.ownBlock = some g → g ∉ S) : w'.ownsRow base e size v n xs := by
  refine ⟨hr.1, ?_⟩
  rcases hr.2 with h0 | ⟨g, cap, cur, rfl, hg, hb, r⟩
  · exact .inl h0
  · exact .inr ⟨g, cap, cur, rfl, hg, (h.block g (Array.getElem?_eq_some_iff.1 hb).1 (hn g rfl)).trans hb, r⟩
theorem type_ne {W : World} {A B : Nat} {cs ds : Array Value} {t u : TypeId} {z y : Nat × Nat} (h : W.heap[A]? = some (.cells cs t z)) (k : W.heap[B]? = some (.cells ds u y)) (hne : t ≠ u) : A ≠ B := by
  rintro rfl
  have := h.symm.trans k
  simp only [Option.some.injEq, Obj.cells.injEq] at this
  exact hne this.2.1
theorem heap_set_same {W : World} {B k : Nat} {cs : Array Value} {t : TypeId} {z : Nat × Nat} (v : Value) (h : W.heap[B]? = some (.cells cs t z)) : (W.setCell ⟨B, k, none⟩ v).heap[B]? = some (.cells (cs.setIfInBounds k v) t z) := by
  obtain ⟨hlt, hk⟩ := Array.getElem?_eq_some_iff.1 h
  show (W.heap.modify B _)[B]? = _
  rw [Array.getElem?_eq_getElem (by rw [Array.size_modify]; exact hlt), Array.getElem_modify_self, hk]
  rfl

/-! ### Links -/
def linkD (x : Int × Int) : DataW Unit := .agg [.lit (.int .i64 x.1), .lit (.int .i64 x.2)]
def linkV (x : Int × Int) : Value := .agg #[.int .i64 x.1, .int .i64 x.2]
def linkE : Value → Option (DataW Unit × List MemPlace)
  | .agg vs => match vs.toList with
    | [.int .i64 x, .int .i64 y] => some (linkD (x, y), [])
    | _ => none
  | _ => none
theorem linkE_mk (x : Int × Int) : linkE (linkV x) = some (linkD x, []) := rfl
theorem linkD_inj {x y : Int × Int} (h : linkD x = linkD y) : x = y := by
  simp [linkD] at h
  exact Prod.ext h.1 h.2
theorem linkE_inv {v : Value} {z : DataW Unit × List MemPlace} (h : linkE v = some z) : ∃ x, v = linkV x ∧ z = (linkD x, []) := by
  unfold linkE at h
  split at h
  · rename_i vs
    split at h
    · rename_i x y e
      have : vs = #[.int .i64 x, .int .i64 y] := by
        have := congrArg List.toArray e
        simpa using this
      subst this
      simp only [Option.some.injEq] at h
      exact ⟨(x, y), rfl, h.symm⟩
    · cases h
  · cases h

/-- An int of Go's. -/
def I64b (i : Int) : Prop := -9223372036854775808 ≤ i ∧ i ≤ 9223372036854775807
theorem keyI (i : Int) (h : I64b i) : keyOf Try.prog 3 (.int .i64 i) = some (.int .i64 i) := keyOf_int_mk Try.underlying3 (WalkArith.wf_i64 h)
theorem keyed : Keyed Try.prog 3 := int_keyed Try.underlying3
theorem zeroE (w : World) : (zeroValue 104).run Try.prog w = .ok (.agg #[.int .i64 0, .int .i64 0]) w := by kernel_rfl
theorem keyLit {i : Int} (h : I64b i) : WideAt.IsKeyLit (.int .i64 i) := keyed.key (keyI i h)
theorem lit_ne {i j : Int} (h : i ≠ j) : (Lit.int .i64 i) ≠ .int .i64 j := fun e => h (by simpa using e)

/-- A function, but for one place. -/
def upd (g : Int → Option (Int × Int)) (i : Int) (x : Option (Int × Int)) : Int → Option (Int × Int) := fun k => if k = i then x else g k
theorem upd_same (g : Int → Option (Int × Int)) (i : Int) (x : Option (Int × Int)) : upd g i x i = x := by simp [upd]
theorem upd_ne {g : Int → Option (Int × Int)} {i k : Int} {x : Option (Int × Int)} (h : k ≠ i) : upd g i x k = g k := by simp [upd, h]

/-- Block M is a map of c entries in which g tells what each number has. -/
def MapAt (W : World) (M : Nat) (g : Int → Option (Int × Int)) (c : Nat) : Prop :=
  ∃ D : DataW Unit, W.ownsMap Try.prog 3 linkE M c D ∧ Maps.size D = c ∧ ∀ i : Int, I64b i → Maps.has D (.int .i64 i) = (g i).isSome ∧ D.atKey (.int .i64 i) (linkD (0, 0)) = linkD ((g i).getD (0, 0))

section
variable {W W' : World} {M c : Nat} {g : Int → Option (Int × Int)}
theorem MapAt.lt (h : MapAt W M g c) : M < W.heap.size := by obtain ⟨_, h, _⟩ := h; exact h.lt
theorem MapAt.of_block (h : MapAt W M g c) (hb : W'.heap[M]? = W.heap[M]?) : MapAt W' M g c := by
  obtain ⟨D, ⟨es, clock, h1, r⟩, h2⟩ := h
  exact ⟨D, ⟨es, clock, hb.trans h1, r⟩, h2⟩
theorem MapAt.but (h : MapAt W M g c) {S : List Nat} (hb : But S W W') (hn : M ∉ S) : MapAt W' M g c := h.of_block (hb.block M h.lt hn)
theorem MapAt.is (h : MapAt W M g c) : ∃ es clock, W.heap[M]? = some (.map es clock) := by obtain ⟨_, ⟨es, clock, h1, _⟩, _⟩ := h; exact ⟨_, _, h1⟩
theorem MapAt.congr (h : MapAt W M g c) {g' : Int → Option (Int × Int)} {c' : Nat} (hg : g = g') (hc : c = c') : MapAt W M g' c' := by subst hg hc; exact h
theorem map_ne {B : Nat} {cs : Array Value} {t : TypeId} {z : Nat × Nat} (h : MapAt W M g c) (k : W.heap[B]? = some (.cells cs t z)) : B ≠ M := by
  rintro rfl
  obtain ⟨es, clock, h1⟩ := h.is
  rw [h1] at k
  cases k
theorem mapAt_made (w : World) : MapAt (w.alloc (.map #[] 0)) w.heap.size (fun _ => none) 0 :=
  ⟨.map [], World.ownsMap_made w _ _ _, rfl, fun _ _ => ⟨rfl, rfl⟩⟩
theorem MapAt.look (h : MapAt W M g c) {i : Int} (hi : I64b i) : (Instr.lookup 97 (.map (some M)) (.int .i64 i) true).run Try.prog W = .ok (.tuple #[linkV ((g i).getD (0, 0)), .bool (g i).isSome]) W := by
  obtain ⟨D, hown, _, hD⟩ := h
  obtain ⟨v, ps, hrun, hv⟩ := hown.look_ok keyed Try.underlying97 (zeroE W) (linkE_mk (0, 0)) (keyI i hi)
  obtain ⟨h1, h2⟩ := hD i hi
  obtain ⟨x, rfl, hx⟩ := linkE_inv hv
  simp only [Prod.mk.injEq] at hx
  rw [h2] at hx
  rw [hrun, h1, linkD_inj hx.1]
theorem MapAt.look1 (h : MapAt W M g c) {i : Int} (hi : I64b i) : (Instr.lookup 97 (.map (some M)) (.int .i64 i) false).run Try.prog W = .ok (linkV ((g i).getD (0, 0))) W := by
  obtain ⟨D, hown, _, hD⟩ := h
  obtain ⟨v, ps, hrun, hv⟩ := hown.lookup keyed Try.underlying97 (zeroE W) (linkE_mk (0, 0)) (keyI i hi)
  obtain ⟨h1, h2⟩ := hD i hi
  obtain ⟨x, rfl, hx⟩ := linkE_inv hv
  simp only [Prod.mk.injEq] at hx
  rw [h2] at hx
  rw [hrun, linkD_inj hx.1]
theorem MapAt.len (h : MapAt W M g c) (ty : TypeId) : (Builtin.len_ #[97] ty #[.map (some M)]).run Try.prog W = .ok (.int .i64 (c : Int)) W := by
  obtain ⟨D, hown, hc, _⟩ := h
  rw [hown.len Try.underlying97 ty, hc]
theorem MapAt.store (h : MapAt W M g c) (hc : c < maxLen) {i : Int} (hi : I64b i) (x : Int × Int) :
    ∃ W', (Instr.mapUpdate 97 (.map (some M)) (.int .i64 i) (linkV x)).run Try.prog W = .ok () W' ∧ MapAt W' M (upd g i (some x)) (if (g i).isSome then c else c + 1) ∧ But [M] W W' := by
  obtain ⟨D, hown, hs, hD⟩ := h
  obtain ⟨W', hrun, hown', hg⟩ := hown.update keyed Try.underlying97 hc (keyI i hi) (linkE_mk x)
  have hT := hown.tidy keyed
  have hsz := size_put (k := .int .i64 i) hT (linkD x)
  rw [(hD i hi).1, hs] at hsz
  refine ⟨W', hrun, ⟨_, ?_, hsz, fun k hk => ?_⟩, But.of_some hg (by simp)⟩
  · obtain ⟨es, clock, hb, F, hn, hD'⟩ := hown'
    refine ⟨es, clock, hb, F, ?_, hD'⟩
    rw [hD'] at hsz
    simp only [Maps.size, length_sorted, List.length_map, Array.length_toList] at hsz
    omega
  · by_cases e : k = i
    · subst e
      rw [upd_same]
      exact ⟨has_put_same hT.isMap (keyLit hk) _, atKey_put_same hT.isMap (keyLit hk) _ _⟩
    · rw [upd_ne e]
      have e' := lit_ne e
      exact ⟨(has_put_other e' _).trans (hD k hk).1, (atKey_put_other e' _ _).trans (hD k hk).2⟩
theorem MapAt.drop (h : MapAt W M g c) {i : Int} (hi : I64b i) (ty : TypeId) :
    ∃ W', (Builtin.delete_ #[97, 3] ty #[.map (some M), .int .i64 i]).run Try.prog W = .ok (.tuple #[]) W' ∧ MapAt W' M (upd g i none) (if (g i).isSome then c - 1 else c) ∧ But [M] W W' := by
  obtain ⟨D, hown, hs, hD⟩ := h
  obtain ⟨W', hrun, hown', hg⟩ := hown.drop keyed Try.underlying97 (keyI i hi) ty
  have hT := hown.tidy keyed
  have hsz := size_del (k := .int .i64 i) hT
  rw [(hD i hi).1, hs] at hsz
  have hsz' : Maps.size (D.del (.int .i64 i)) = if (g i).isSome then c - 1 else c := by split at hsz <;> simp_all <;> omega
  refine ⟨W', hrun, ⟨_, ?_, hsz', fun k hk => ?_⟩, But.of_some hg.grown (by simp)⟩
  · obtain ⟨es, clock, hb, F, hn, hD'⟩ := hown'
    refine ⟨es, clock, hb, F, ?_, hD'⟩
    rw [hD'] at hsz'
    simp only [Maps.size, length_sorted, List.length_map, Array.length_toList] at hsz'
    omega
  · by_cases e : k = i
    · subst e
      rw [upd_same]
      exact ⟨has_del_same, atKey_del_same _⟩
    · rw [upd_ne e]
      have e' := lit_ne e
      exact ⟨(has_del_other e').trans (hD k hk).1, (atKey_del_other e' _).trans (hD k hk).2⟩
end

section
variable (w : World) {ops : Array Oper} {rest : List Oper} {o : Oper} {a : Act} {Q : Exit → Act → World → Prop}
/-- m[i] = x, at the operation. -/
theorem wpList_put (hg : o.guard = none) (m x v : Operand) (hop : o.op = Op.mapUpdate 97 m x v) (M : Nat) (g : Int → Option (Int × Int)) (c : Nat) (hm : a.eval m = .map (some M)) (h : MapAt w M g c) (hc : c < maxLen) (i : Int) (hi : I64b i) (y : Int × Int)
    (hx : a.eval x = .int .i64 i) (hv : a.eval v = linkV y)
    (hK : ∀ w', MapAt w' M (upd g i (some y)) (if (g i).isSome then c else c + 1) → But [M] w w' → wpList Try.prog ops Q rest (a.put o.dst undef) w') :
    wpList Try.prog ops Q (o :: rest) a w := by
  refine wpList_plain hg fun K' hK' => ?_
  obtain ⟨w', hrun, r1, r2⟩ := h.store hc hi y
  unfold Oper.wp
  simp [execOp, hop, hm, hx, hv, hrun, Result.andThen]
  exact hK' _ _ (hK w' r1 r2)
/-- delete(m, i), at the operation. -/
theorem wpList_del (hg : o.guard = none) (m x : Operand) (hop : o.op = Op.call { callee := Callee.builtin Builtin.delete, args := #[m, x], argTypes := #[97, 3] }) (M : Nat) (g : Int → Option (Int × Int)) (c : Nat) (hm : a.eval m = .map (some M)) (h : MapAt w M g c) (i : Int) (hi : I64b i)
    (hx : a.eval x = .int .i64 i)
    (hK : ∀ w', MapAt w' M (upd g i none) (if (g i).isSome then c - 1 else c) → But [M] w w' → wpList Try.prog ops Q rest (a.put o.dst (.tuple #[])) w') :
    wpList Try.prog ops Q (o :: rest) a w := by
  refine wpList_plain hg fun K' hK' => ?_
  obtain ⟨w', hrun, r1, r2⟩ := h.drop hi o.type
  unfold Oper.wp
  simp [execOp, hop, resolve, invoke, builtin, hm, hx, hrun, Result.andThen]
  exact hK' _ _ (hK w' r1 r2)
end
end Go.Proofs.Ytkpnkhakjgfgfaa.Lq
