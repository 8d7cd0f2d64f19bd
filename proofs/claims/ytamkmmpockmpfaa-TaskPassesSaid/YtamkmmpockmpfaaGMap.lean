/-
  The map of kinds, as it is laid: what each number of an instruction's kind is told.
-/
import Derived.Maps.OwnSet
import Derived.Maps.OwnOps
import Derived.Maps.RangeWalk
import Derived.Test.YtamkmmpockmpfaaGBase
namespace Go.Proofs.Ytamkmmpockmpfaa
open Go.RowKit Go.Maps

/-! ### What may have been turned: the blocks of a list, and new ones -/
structure But (S : List Nat) (w w' : World) : Prop where
  os : w'.os = w.os
  tape : w'.tape = w.tape
  output : w'.output = w.output
  size : w.heap.size ≤ w'.heap.size
  block : ∀ k, k < w.heap.size → k ∉ S → w'.heap[k]? = w.heap[k]?

theorem But.refl (S : List Nat) (w : World) : But S w w := ⟨rfl, rfl, rfl, Nat.le_refl _, fun _ _ _ => rfl⟩
theorem But.mono {S T : List Nat} {w w' : World} (h : But S w w') (hS : ∀ k ∈ S, k ∈ T) : But T w w' := ⟨h.os, h.tape, h.output, h.size, fun k hk hn => h.block k hk (fun e => hn (hS k e))⟩
theorem But.trans {S T : List Nat} {a b c : World} (h : But S a b) (k : But T b c) (hT : ∀ x ∈ T, x < a.heap.size → x ∈ S) : But S a c :=
  ⟨k.os.trans h.os, k.tape.trans h.tape, k.output.trans h.output, Nat.le_trans h.size k.size,
   fun i hi hn => (k.block i (Nat.lt_of_lt_of_le hi h.size) (fun e => hn (hT i e hi))).trans (h.block i hi hn)⟩
theorem But.next {S : List Nat} {a b c : World} (h : But S a b) (k : But S b c) : But S a c := h.trans k (fun _ h _ => h)
theorem But.own {S T : List Nat} {a b c : World} (h : But S a b) (k : But T b c) (hT : ∀ x ∈ T, a.heap.size ≤ x) : But S a c := h.trans k (fun x hx h0 => by have := hT x hx; omega)
theorem But.of_none {w w' : World} (h : w.grownBy w' none) (S : List Nat) : But S w w' := ⟨h.os, h.tape, h.output, h.size, fun k hk _ => h.block k hk (by simp)⟩
theorem But.of_some {w w' : World} {B : Nat} (h : w.grownBy w' (some B)) {S : List Nat} (hB : B ∈ S) : But S w w' := ⟨h.os, h.tape, h.output, h.size, fun k hk hn => h.block k hk (fun e => by cases e; exact hn hB)⟩
theorem But.drewN {S : List Nat} {w w' : World} (h : But S w w') (n : Nat) : But S w (w'.drewN n) := ⟨h.os, h.tape, h.output, h.size, h.block⟩
theorem But.drew {S : List Nat} {w w' : World} (h : But S w w') : But S w w'.drew := ⟨h.os, h.tape, h.output, h.size, h.block⟩
theorem But.alloc {S : List Nat} {w w' : World} (h : But S w w') (o : Obj) : But S w (w'.alloc o) := h.trans (.of_none (World.grownBy_alloc w' o none) []) (by simp)
theorem But.set {S : List Nat} {w w' : World} (h : But S w w') {p : Addr} (hp : p.block ∈ S ∨ w.heap.size ≤ p.block) (v : Value) : But S w (w'.setCell p v) :=
  ⟨h.os, h.tape, h.output, by simpa [World.setCell] using h.size, fun k hk hn => (Below.heap_setCell w' p v k (fun e => by subst e; rcases hp with hp | hp; exact hn hp; omega)).trans (h.block k hk hn)⟩
theorem But.cell {S : List Nat} {w w' : World} (h : But S w w') {p : Addr} {v : Value} (hv : w.cell? p = some v) (hn : p.block ∉ S) : w'.cell? p = some v :=
  (World.cell?_of_block (w := w) (h.block p.block (World.block_lt_of_cell? w p hv) hn)).trans hv
theorem But.frozen {S : List Nat} {w w' : World} (h : But S w w') {p : Addr} {b : Bool} (hv : w.frozen? p = b) (hl : p.block < w.heap.size) (hn : p.block ∉ S) : w'.frozen? p = b :=
  (World.frozen?_of_block (w := w) (h.block p.block hl hn)).trans hv
theorem But.boxed {S : List Nat} {w w' : World} (h : But S w w') {B : Nat} {t : TypeId} {v : Value} (hb : Boxed w B t v) (hn : B ∉ S) : Boxed w' B t v := (h.block B hb.lt hn).trans hb
theorem But.below {S : List Nat} {w w' : World} (h : But S w w') {n : Nat} (hn : n ≤ w.heap.size) (hS : ∀ k ∈ S, n ≤ k) : Below n w w' :=
  ⟨h.os, h.tape, h.output, h.size, fun k hk => h.block k (Nat.lt_of_lt_of_le hk hn) (fun e => Nat.lt_irrefl _ (Nat.lt_of_lt_of_le hk (hS k e)))⟩
theorem But.of_below {w w' : World} (h : Below w.heap.size w w') (S : List Nat) : But S w w' := ⟨h.os, h.tape, h.output, h.size, fun k hk _ => h.block k hk⟩
theorem But.row {S : List Nat} {w w' : World} (h : But S w w') {base : Nat} {e : TypeId} {size : Nat} {v : Value} {n : Nat} {xs : List Value} (hr : w.ownsRow base e size v n xs) (hn : ∀ g, v.ownBlock = some g → g ∉ S) : w'.ownsRow base e size v n xs := by
  refine ⟨hr.1, ?_⟩
  rcases hr.2 with h0 | ⟨g, cap, cur, rfl, hg, hb, r⟩
  · exact .inl h0
  · exact .inr ⟨g, cap, cur, rfl, hg, (h.block g (Array.getElem?_eq_some_iff.1 hb).1 (hn g rfl)).trans hb, r⟩

/-! ### Names in memory -/
def nameV (n : Nat) : Value := .int .u8 (n : Int)
/-- The slice value v reads as the names ns. -/
def RowN (w : World) (v : Value) (ns : List Nat) : Prop :=
  (ns = [] ∧ v = .slice none 0 0) ∨ (∃ b, v = .slice (some ⟨b, 0, none⟩) ns.length ns.length ∧ 0 < ns.length ∧ w.heap[b]? = some (.cells (ns.map nameV).toArray 112 (0, 0)))
theorem RowN.but {w w' : World} {v : Value} {ns : List Nat} (h : RowN w v ns) {S : List Nat} (hb : But S w w') (hS : ∀ k ∈ S, ∀ cs z, w.heap[k]? ≠ some (.cells cs 112 z)) : RowN w' v ns := by
  rcases h with h | ⟨b, h1, h0, h2⟩
  · exact .inl h
  · exact .inr ⟨b, h1, h0, (hb.block b (Array.getElem?_eq_some_iff.1 h2).1 (fun hm => hS b hm _ _ h2)).trans h2⟩
theorem RowN.fresh {w w' : World} {v : Value} {ns : List Nat} (h : RowN w v ns) (hb : But [] w w') : RowN w' v ns := h.but hb (by simp)
theorem RowN.same {w w' : World} {v : Value} {ns : List Nat} (h : RowN w v ns) (hk : ∀ (k : Nat) (cs : Array Value) (z : Nat × Nat), w.heap[k]? = some (.cells cs 112 z) → w'.heap[k]? = w.heap[k]?) : RowN w' v ns := by
  rcases h with h | ⟨b, h1, h0, h2⟩
  · exact .inl h
  · exact .inr ⟨b, h1, h0, (hk b _ _ h2).trans h2⟩
/-- The value v is the kind of o: its word, and what it names. -/
def Kin (w : World) (v : Value) (o : Nat) : Prop := ∃ sl, v = .agg #[.string ⟨(wordL o).toArray⟩, sl] ∧ RowN w sl (namesOf o)
theorem Kin.but {w w' : World} {v : Value} {o : Nat} (h : Kin w v o) {S : List Nat} (hb : But S w w') (hS : ∀ k ∈ S, ∀ cs z, w.heap[k]? ≠ some (.cells cs 112 z)) : Kin w' v o := by
  obtain ⟨sl, h1, h2⟩ := h
  exact ⟨sl, h1, h2.but hb hS⟩
def zeroK : Value := .agg #[.string ⟨#[]⟩, .slice none 0 0]
theorem kin_zero (w : World) {o : Nat} (h : known o = false) : Kin w zeroK o := ⟨.slice none 0 0, by rw [wordL_out h]; rfl, .inl ⟨namesOf_out h, rfl⟩⟩

/-! ### A map whose elements are told as they stand -/
def heldE : Value → Option (DataW Value × List MemPlace) := fun v => some (.held v, [])
theorem keyK {i : Nat} (h : i < 256) : keyOf Try.prog 5 (.int .u8 (i : Int)) = some (.int .u8 (i : Int)) := keyOf_int_mk Try.underlying5 (by
  have e1 : IntKind.u8.min = 0 := rfl
  have e2 : IntKind.u8.max = 255 := rfl
  simp [Lit.wf, e1, e2]
  omega)
theorem keyed : Keyed Try.prog 5 := int_keyed Try.underlying5
theorem zeroE (w : World) : (zeroValue 117).run Try.prog w = .ok zeroK w := by kernel_rfl
theorem keyLit {i : Nat} (h : i < 256) : WideAt.IsKeyLit (.int .u8 (i : Int)) := keyed.key (keyK h)
theorem lit_ne {i j : Nat} (h : i ≠ j) : (Lit.int .u8 (i : Int)) ≠ .int .u8 (j : Int) := fun e => h (by
  simp only [Lit.int.injEq, true_and] at e
  omega)
theorem held_inj {a b : Value} (h : (DataW.held a : DataW Value) = .held b) : a = b := by cases h; rfl

/-- Block M is a map of c entries in which g tells what each number has. -/
def MapAt (W : World) (M : Nat) (g : Nat → Option Value) (c : Nat) : Prop :=
  ∃ D : DataW Value, W.ownsMap Try.prog 5 heldE M c D ∧ Maps.size D = c ∧ ∀ i : Nat, i < 256 → Maps.has D (.int .u8 (i : Int)) = (g i).isSome ∧ D.atKey (.int .u8 (i : Int)) (.held zeroK) = .held ((g i).getD zeroK)
def upd (g : Nat → Option Value) (i : Nat) (x : Option Value) : Nat → Option Value := fun k => if k = i then x else g k
theorem upd_same (g : Nat → Option Value) (i : Nat) (x : Option Value) : upd g i x i = x := by simp [upd]
theorem upd_ne {g : Nat → Option Value} {i k : Nat} {x : Option Value} (h : k ≠ i) : upd g i x k = g k := by simp [upd, h]

section
variable {W W' : World} {M c : Nat} {g : Nat → Option Value}
theorem MapAt.lt (h : MapAt W M g c) : M < W.heap.size := by obtain ⟨_, h, _⟩ := h; exact h.lt
theorem MapAt.of_block (h : MapAt W M g c) (hb : W'.heap[M]? = W.heap[M]?) : MapAt W' M g c := by
  obtain ⟨D, ⟨es, clock, h1, r⟩, h2⟩ := h
  exact ⟨D, ⟨es, clock, hb.trans h1, r⟩, h2⟩
theorem MapAt.but (h : MapAt W M g c) {S : List Nat} (hb : But S W W') (hn : M ∉ S) : MapAt W' M g c := h.of_block (hb.block M h.lt hn)
theorem MapAt.is (h : MapAt W M g c) : ∃ es clock, W.heap[M]? = some (.map es clock) := by obtain ⟨_, ⟨es, clock, h1, _⟩, _⟩ := h; exact ⟨_, _, h1⟩
theorem mapAt_made (w : World) : MapAt (w.alloc (.map #[] 0)) w.heap.size (fun _ => none) 0 :=
  ⟨.map [], World.ownsMap_made w _ _ _, rfl, fun _ _ => ⟨rfl, rfl⟩⟩
theorem MapAt.look (h : MapAt W M g c) {i : Nat} (hi : i < 256) : (Instr.lookup 122 (.map (some M)) (.int .u8 (i : Int)) true).run Try.prog W = .ok (.tuple #[(g i).getD zeroK, .bool (g i).isSome]) W := by
  obtain ⟨D, hown, _, hD⟩ := h
  obtain ⟨v, ps, hrun, hv⟩ := hown.look_ok keyed Try.underlying122 (zeroE W) (show heldE zeroK = some (.held zeroK, []) from rfl) (keyK hi)
  obtain ⟨h1, h2⟩ := hD i hi
  simp only [heldE, Option.some.injEq, Prod.mk.injEq] at hv
  rw [h2] at hv
  rw [hrun, h1, held_inj hv.1]
theorem MapAt.store (h : MapAt W M g c) (hc : c < maxLen) {i : Nat} (hi : i < 256) (x : Value) :
    ∃ W', (Instr.mapUpdate 122 (.map (some M)) (.int .u8 (i : Int)) x).run Try.prog W = .ok () W' ∧ MapAt W' M (upd g i (some x)) (if (g i).isSome then c else c + 1) ∧ But [M] W W' := by
  obtain ⟨D, hown, hs, hD⟩ := h
  obtain ⟨W', hrun, hown', hg⟩ := hown.update keyed Try.underlying122 hc (keyK hi) (show heldE x = some (.held x, []) from rfl)
  have hT := hown.tidy keyed
  have hsz := size_put (k := .int .u8 (i : Int)) hT (.held x)
  rw [(hD i hi).1, hs] at hsz
  refine ⟨W', hrun, ⟨_, ?_, hsz, fun k hk => ?_⟩, But.of_some hg (by simp)⟩
  · obtain ⟨es, clock, hb, F, hn, hD'⟩ := hown'
    refine ⟨es, clock, hb, F, ?_, hD'⟩
    rw [hD'] at hsz
    simp only [Maps.size, length_sorted, List.length_map, Array.length_toList] at hsz
    omega
  · by_cases e : k = i
    · subst e
      rw [upd_same]
      exact ⟨has_put_same hT.isMap (keyLit hk) _, atKey_put_same hT.isMap (keyLit hk) _ _⟩
    · rw [upd_ne e]
      have e' := lit_ne e
      exact ⟨(has_put_other e' _).trans (hD k hk).1, (atKey_put_other e' _ _).trans (hD k hk).2⟩
end

/-- The map in block M has the kinds from 1 to m. -/
def KMap (W : World) (M m : Nat) : Prop := ∃ g, MapAt W M g m ∧ (∀ o, (g o).isSome = decide (1 ≤ o ∧ o ≤ m)) ∧ ∀ o v, g o = some v → Kin W v o
section
variable {W W' : World} {M m : Nat}
theorem KMap.lt (h : KMap W M m) : M < W.heap.size := by obtain ⟨_, h, _⟩ := h; exact h.lt
theorem KMap.fresh (h : KMap W M m) (hb : But [] W W') : KMap W' M m := by
  obtain ⟨g, h1, h2, h3⟩ := h
  exact ⟨g, h1.but hb (by simp), h2, fun o v hv => (h3 o v hv).but hb (by simp)⟩
theorem kmap_made (w : World) : KMap (w.alloc (.map #[] 0)) w.heap.size 0 := ⟨_, mapAt_made w, fun o => by simp; omega, fun _ _ h => by cases h⟩
theorem KMap.store (h : KMap W M m) (hm : m + 1 < 256) {x : Value} (hx : Kin W x (m + 1)) :
    ∃ W', (Instr.mapUpdate 122 (.map (some M)) (.int .u8 ((m + 1 : Nat) : Int)) x).run Try.prog W = .ok () W' ∧ KMap W' M (m + 1) ∧ But [M] W W' := by
  obtain ⟨g, h1, h2, h3⟩ := h
  obtain ⟨W', hrun, r1, r2⟩ := h1.store (by unfold maxLen; omega) hm x
  have hno : (g (m + 1)).isSome = false := by rw [h2]; simp
  rw [hno] at r1
  have hM : ∀ k ∈ [M], ∀ cs z, W.heap[k]? ≠ some (.cells cs 112 z) := by
    intro k hk cs z e
    obtain ⟨es, clock, hi⟩ := h1.is
    obtain rfl := List.mem_singleton.1 hk
    rw [hi] at e
    cases e
  refine ⟨W', hrun, ⟨_, r1, fun o => ?_, fun o v hv => ?_⟩, r2⟩
  · by_cases e : o = m + 1
    · subst e; rw [upd_same]; simp
    · rw [upd_ne e, h2]; exact decide_eq_decide.2 (by omega)
  · by_cases e : o = m + 1
    · subst e
      rw [upd_same] at hv
      obtain rfl := Option.some.inj hv
      exact hx.but r2 hM
    · rw [upd_ne e] at hv
      exact (h3 o v hv).but r2 hM
/-- What is looked up: the kind of o, and whether there is one. -/
theorem KMap.look (h : KMap W M 10) {o : Nat} (ho : o < 256) : ∃ v, (Instr.lookup 122 (.map (some M)) (.int .u8 (o : Int)) true).run Try.prog W = .ok (.tuple #[v, .bool (known o)]) W ∧ Kin W v o := by
  obtain ⟨g, h1, h2, h3⟩ := h
  have hk : (g o).isSome = known o := h2 o
  refine ⟨_, by rw [h1.look ho, hk], ?_⟩
  cases e : g o with
  | none =>
    rw [e] at hk
    exact kin_zero W hk.symm
  | some v => exact h3 o v e
end

section
variable (w : World) {ops : Array Oper} {rest : List Oper} {o : Oper} {a : Act} {Q : Exit → Act → World → Prop}
/-- An entry of a map that is written out, at the operation. -/
theorem wpList_ins (hg : o.guard = none) (m x v : Operand) (hop : o.op = Op.insert 122 m x v)
    (hR : ∃ M k, a.eval m = .map (some M) ∧ KMap w M k ∧ k + 1 < 256 ∧ a.eval x = .int .u8 ((k + 1 : Nat) : Int) ∧ Kin w (a.eval v) (k + 1) ∧ ∀ w', KMap w' M (k + 1) → But [M] w w' → wpList Try.prog ops Q rest (a.put o.dst undef) w') :
    wpList Try.prog ops Q (o :: rest) a w := by
  obtain ⟨M, k, hm, h, hc, hx, hy, hK⟩ := hR
  refine wpList_plain hg fun K' hK' => ?_
  obtain ⟨w', hrun, r1, r2⟩ := h.store hc hy
  unfold Oper.wp
  simp [execOp, hop, hm, hx, Result.andThen]
  have hrun' : (Instr.mapUpdate 122 (.map (some M)) (.int .u8 ((k : Int) + 1)) (a.eval v)).run Try.prog w = .ok () w' := by simpa using hrun
  rw [hrun']
  exact hK' _ _ (hK w' r1 r2)
end

/-- A row of names that was just made. -/
theorem kin_new {W0 : World} {o : Nat} {n : Nat} {cs : Array Value} (hn : n = (namesOf o).length) (h0 : 0 < n) (hc : cs = ((namesOf o).map nameV).toArray) {wd : ByteArray} (hw : wd = ⟨(wordL o).toArray⟩) {b : Nat} (hb : b = W0.heap.size) :
    Kin (W0.alloc (.cells cs 112)) (.agg #[.string wd, .slice (some ⟨b, 0, none⟩) n n]) o := by
  subst hn hc hw hb
  exact ⟨_, rfl, .inr ⟨_, rfl, h0, World.alloc_heap_new W0 _⟩⟩
theorem below_ins {w0 w w' : World} {M : Nat} (h : Below w0.heap.size w0 w) (hM : w0.heap.size ≤ M) (hb : But [M] w w') : Below w0.heap.size w0 w' :=
  h.trans (hb.below h.size (by simpa using hM))

set_option maxRecDepth 100000 in
set_option maxHeartbeats 1600000 in
theorem kinds_any (w : World) :
    Calls Try.prog 59 #[] w fun e w' => e = .returned (.map (some w.heap.size)) ∧ KMap w' w.heap.size 10 ∧ Below w.heap.size w w' := by
  have hK := kmap_made w
  have hB : Below w.heap.size w (w.alloc (.map #[] 0)) := (Below.refl _ w).alloc (Nat.le_refl _) _
  go_enter Try.func59, Try.ntmps59
  have hmm := @run_makeMap Try.prog
  go_wp2_with (first
    | (refine wpList_ins _ rfl _ _ _ rfl ?_; first
        | (refine ⟨w.heap.size, _, rfl, hK.fresh ((But.refl [] _).alloc _), ?_, ?_, ?_, ?_⟩; (next => decide); (next => rfl); (next => refine kin_new ?_ ?_ ?_ ?_ ?_; all_goals first | rfl | decide | (simp; done)); go_frame; intro wx hKx hbx; have hBx := below_ins (hB.alloc hB.size _) (Nat.le_refl _) hbx; clear hK hB hbx; have hK := hKx; have hB := hBx; clear hKx hBx)
        | (refine ⟨w.heap.size, _, rfl, hK, ?_, ?_, ?_, ?_⟩; (next => decide); (next => rfl); (next => exact ⟨.slice none 0 0, rfl, .inl ⟨rfl, rfl⟩⟩); go_frame; intro wx hKx hbx; have hBx := below_ins hB (Nat.le_refl _) hbx; clear hK hB hbx; have hK := hKx; have hB := hBx; clear hKx hBx))
    | fail)
  go_wp2_with fail
  go_ret
  exact ⟨rfl, hK, hB⟩
end Go.Proofs.Ytamkmmpockmpfaa
