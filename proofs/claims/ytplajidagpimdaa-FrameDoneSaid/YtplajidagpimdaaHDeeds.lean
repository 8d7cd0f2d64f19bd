/-
  What local instructions do, as closures in a map; the walks of the closures, and of deeds and doer.
-/
import Derived.Test.YtplajidagpimdaaHSmall
namespace Go.Proofs.Ytplajidagpimdaa
open Go.RowKit Go.Maps

/-! ### A map of deeds -/
def zeroD : Value := .agg #[.nilFunc, .nilFunc]
theorem zeroDE (w : World) : (zeroValue 86).run Try.prog w = .ok zeroD w := by kernel_rfl
/-- Block M is a map of at most c entries in which g tells what each number has. -/
def MapD (W : World) (M : Nat) (g : Nat → Option Value) (c : Nat) : Prop :=
  ∃ (D : DataW Value) (n : Nat), W.ownsMap Try.prog 5 heldE M n D ∧ n ≤ c ∧ ∀ i : Nat, i < 256 → D.atKey (.int .u8 (i : Int)) (.held zeroD) = .held ((g i).getD zeroD)
section
variable {W W' : World} {M c : Nat} {g : Nat → Option Value}
theorem MapD.lt (h : MapD W M g c) : M < W.heap.size := by obtain ⟨_, _, h, _⟩ := h; exact h.lt
theorem MapD.of_block (h : MapD W M g c) (hb : W'.heap[M]? = W.heap[M]?) : MapD W' M g c := by
  obtain ⟨D, n, ⟨es, clock, h1, r⟩, h2⟩ := h
  exact ⟨D, n, ⟨es, clock, hb.trans h1, r⟩, h2⟩
theorem MapD.is (h : MapD W M g c) : ∃ es clock, W.heap[M]? = some (.map es clock) := by obtain ⟨_, _, ⟨es, clock, h1, _⟩, _⟩ := h; exact ⟨_, _, h1⟩
theorem MapD.but (h : MapD W M g c) {S : List Nat} (hb : But S W W') (hn : M ∉ S) : MapD W' M g c := h.of_block (hb.block M h.lt hn)
theorem mapD_made (w : World) : MapD (w.alloc (.map #[] 0)) w.heap.size (fun _ => none) 0 :=
  ⟨.map [], 0, World.ownsMap_made w _ _ _, Nat.le_refl _, fun _ _ => rfl⟩
theorem MapD.look (h : MapD W M g c) {i : Nat} (hi : i < 256) : (Instr.lookup 82 (.map (some M)) (.int .u8 (i : Int)) false).run Try.prog W = .ok ((g i).getD zeroD) W := by
  obtain ⟨D, n, hown, _, hD⟩ := h
  obtain ⟨v, ps, hrun, hv⟩ := hown.lookup keyed Try.underlying82 (zeroDE W) (show heldE zeroD = some (.held zeroD, []) from rfl) (keyK hi)
  simp only [heldE, Option.some.injEq, Prod.mk.injEq] at hv
  rw [hD i hi] at hv
  rw [hrun, held_inj hv.1]
theorem MapD.store (h : MapD W M g c) (hc : c < maxLen) {i : Nat} (hi : i < 256) (x : Value) :
    ∃ W', (Instr.mapUpdate 82 (.map (some M)) (.int .u8 (i : Int)) x).run Try.prog W = .ok () W' ∧ MapD W' M (upd g i (some x)) (c + 1) ∧ But [M] W W' := by
  obtain ⟨D, n, hown, hs, hD⟩ := h
  obtain ⟨W', hrun, hown', hg⟩ := hown.update keyed Try.underlying82 (Nat.lt_of_le_of_lt hs hc) (keyK hi) (show heldE x = some (.held x, []) from rfl)
  have hT := hown.tidy keyed
  refine ⟨W', hrun, ⟨_, _, hown', by omega, fun k hk => ?_⟩, But.of_some hg (by simp)⟩
  by_cases e : k = i
  · subst e
    rw [upd_same]
    exact atKey_put_same hT.isMap (keyLit hk) _ _
  · rw [upd_ne e]
    exact (atKey_put_other (lit_ne e) _ _).trans (hD k hk)
end
section
variable (w : World) {ops : Array Oper} {rest : List Oper} {o : Oper} {a : Act} {Q : Exit → Act → World → Prop}
/-- An entry of a map that is written out, at the operation. -/
theorem wpList_insD (hg : o.guard = none) (m x v : Operand) (hop : o.op = Op.insert 82 m x v)
    (hR : ∃ M g c, a.eval m = .map (some M) ∧ MapD w M g c ∧ c + 1 < 256 ∧ a.eval x = .int .u8 ((c + 1 : Nat) : Int) ∧ ∀ w', MapD w' M (upd g (c + 1) (some (a.eval v))) (c + 1) → But [M] w w' → wpList Try.prog ops Q rest (a.put o.dst undef) w') :
    wpList Try.prog ops Q (o :: rest) a w := by
  obtain ⟨M, g, c, hm, h, hc, hx, hK⟩ := hR
  refine wpList_plain hg fun K' hK' => ?_
  obtain ⟨w', hrun, r1, r2⟩ := h.store (by unfold maxLen; omega) hc (a.eval v)
  unfold Oper.wp
  simp [execOp, hop, hm, hx, Result.andThen]
  have hrun' : (Instr.mapUpdate 82 (.map (some M)) (.int .u8 ((c : Int) + 1)) (a.eval v)).run Try.prog w = .ok () w' := by simpa using hrun
  rw [hrun']
  exact hK' _ _ (hK w' r1 r2)
end
def fnO (f : FuncId) : Value := .func (.func f) #[] #[]
def fnT (f : FuncId) (T : Nat) : Value := .func (.func f) #[] #[.pointer (some ⟨T, 0, none⟩)]
/-- What is in the map of deeds whose variable is block T. -/
def deedOf (T : Nat) (o : Nat) : Value := match o with
  | 1 => .agg #[fnT 53 T, fnO 51]
  | 2 => .agg #[fnT 54 T, fnO 51]
  | 3 => .agg #[fnO 50, fnO 52]
  | _ => .agg #[fnO 50, fnT 55 T]
/-- Block M is the map of all deeds. -/
def DMap (W : World) (M T : Nat) : Prop := ∃ g, MapD W M g 4 ∧ ∀ o, locO o = true → g o = some (deedOf T o)
theorem DMap.lt {W : World} {M T : Nat} (h : DMap W M T) : M < W.heap.size := by obtain ⟨_, h, _⟩ := h; exact h.lt
theorem DMap.of_block {W W' : World} {M T : Nat} (h : DMap W M T) (hb : W'.heap[M]? = W.heap[M]?) : DMap W' M T := by obtain ⟨g, h1, h2⟩ := h; exact ⟨g, h1.of_block hb, h2⟩
theorem DMap.is {W : World} {M T : Nat} (h : DMap W M T) : ∃ es clock, W.heap[M]? = some (.map es clock) := by obtain ⟨_, h, _⟩ := h; exact h.is
theorem DMap.look {W : World} {M T : Nat} (h : DMap W M T) {o : Nat} (ho : locO o = true) : (Instr.lookup 82 (.map (some M)) (.int .u8 (o : Int)) false).run Try.prog W = .ok (deedOf T o) W := by
  obtain ⟨g, h1, h2⟩ := h
  rw [h1.look (by have := locO_iff.1 ho; omega), h2 o ho]; rfl

set_option maxRecDepth 100000 in
set_option maxHeartbeats 800000 in
theorem deeds_any (q : Option Addr) (w : World) :
    Calls Try.prog 42 #[.pointer q] w fun e w' => e = .returned (.map (some (w.heap.size + 1))) ∧ DMap w' (w.heap.size + 1) w.heap.size ∧ Boxed w' w.heap.size 63 (.pointer q) ∧ Below w.heap.size w w' := by
  have hmf : ∀ (fn : Fn) (first cap : Array Value) (w : World), (Instr.makeFunc fn first cap).run Try.prog w = .ok (.func fn first cap) w := fun _ _ _ _ => rfl
  have hmm := @run_makeMap Try.prog
  have hX := (Boxed.new w 63 (.pointer q)).alloc (.map #[] 0)
  have hM := mapD_made (w.alloc (.cells #[.pointer q] 63))
  rw [World.size_alloc] at hM
  have hB : Below w.heap.size w ((w.alloc (.cells #[.pointer q] 63)).alloc (.map #[] 0)) := below2 w _ _
  go_enter Try.func42, Try.ntmps42
  go_wp2_with (refine wpList_insD _ rfl _ _ _ rfl ?_; refine ⟨w.heap.size + 1, _, _, rfl, hM, ?_, ?_, ?_⟩; (next => decide); (next => rfl); go_frame; intro wx hMx hbx; have hXx := hbx.boxed hX (by simp); have hBx := below_ins hB (by omega) hbx; clear hX hB hM hbx; have hX := hXx; have hB := hBx; have hM := hMx; clear hXx hBx hMx)
  go_ret
  refine ⟨rfl, ⟨_, hM, fun o ho => ?_⟩, hX, hB⟩
  have := locO_iff.1 ho
  obtain rfl | rfl | rfl | rfl : o = 1 ∨ o = 2 ∨ o = 3 ∨ o = 4 := by omega
  all_goals rfl

/-- What a doer holds: the map, in a box of its own; the frame's address, in two. -/
structure Doer (W : World) (A X T1 T2 M : Nat) : Prop where
  x : Boxed W X 82 (.map (some M))
  t1 : Boxed W T1 63 (.pointer (some ⟨A, 0, none⟩))
  t2 : Boxed W T2 63 (.pointer (some ⟨A, 0, none⟩))
  m : DMap W M T2
def doerV (X T1 : Nat) : Value := .func (.func 43) #[] #[.pointer (some ⟨X, 0, none⟩), .pointer (some ⟨T1, 0, none⟩)]
set_option maxRecDepth 100000 in
set_option maxHeartbeats 800000 in
theorem doer_any (A : Nat) (w : World) :
    Calls Try.prog 25 #[.pointer (some ⟨A, 0, none⟩)] w fun e w' => ∃ X, e = .returned (doerV X w.heap.size) ∧ Doer w' A X w.heap.size (w.heap.size + 1) (w.heap.size + 1 + 1) ∧ w.heap.size + 1 + 1 < X ∧ Below w.heap.size w w' := by
  have hmf : ∀ (fn : Fn) (first cap : Array Value) (w : World), (Instr.makeFunc fn first cap).run Try.prog w = .ok (.func fn first cap) w := fun _ _ _ _ => rfl
  have hX := Boxed.new w 63 (.pointer (some ⟨A, 0, none⟩))
  have hB : Below w.heap.size w (w.alloc (.cells #[.pointer (some ⟨A, 0, none⟩)] 63)) := (Below.refl _ w).alloc (Nat.le_refl _) _
  have hc := deeds_any (some ⟨A, 0, none⟩) (w.alloc (.cells #[.pointer (some ⟨A, 0, none⟩)] 63))
  rw [World.size_alloc] at hc
  go_enter Try.func25, Try.ntmps25
  go_wp2_with fail
  refine hc.mono ?_
  rintro e w1 ⟨rfl, hM, hT, hb⟩
  have hX1 : Boxed w1 w.heap.size 63 (.pointer (some ⟨A, 0, none⟩)) := (hb.block _ (by omega)).trans hX
  have hB1 : Below w.heap.size w w1 := hB.trans (hb.mono (by omega))
  have hlt := hM.lt
  clear hc hX hB hb
  go_wp2_with fail
  go_ret
  exact ⟨w1.heap.size, rfl, ⟨Boxed.new _ _ _, hX1.alloc _, hT.alloc _, hM.of_block (Below.heap_alloc _ _ _ hM.lt)⟩, hlt, hB1.alloc hB1.size _⟩

/-! ### The deeds -/
def insA (x : In) : Array Value := #[.int .u8 (x.o : Int), .int .i64 x.a, .int .i64 x.b, .int .i64 x.c, .int .i64 x.k]
set_option maxRecDepth 100000 in
theorem deed_nothing (x : In) (w : World) : Calls Try.prog 50 #[insV x] w fun e w' => e = .returned (.tuple #[]) ∧ Below w.heap.size w w' := by
  go_enter Try.func50, Try.ntmps50
  unfold insV
  go_wp2_with fail
  go_end0
  exact ⟨rfl, (Below.refl _ w).alloc (Nat.le_refl _) _⟩
set_option maxRecDepth 100000 in
theorem deed_never (x : In) (w : World) : Calls Try.prog 51 #[insV x] w fun e w' => e = .returned (.bool false) ∧ Below w.heap.size w w' := by
  go_enter Try.func51, Try.ntmps51
  unfold insV
  go_wp2_with fail
  go_ret
  exact ⟨rfl, (Below.refl _ w).alloc (Nat.le_refl _) _⟩
set_option maxRecDepth 100000 in
theorem deed_always (x : In) (w : World) : Calls Try.prog 52 #[insV x] w fun e w' => e = .returned (.bool true) ∧ Below w.heap.size w w' := by
  go_enter Try.func52, Try.ntmps52
  unfold insV
  go_wp2_with fail
  go_ret
  exact ⟨rfl, (Below.refl _ w).alloc (Nat.le_refl _) _⟩
theorem fra_cell {W : World} {A : Nat} {t : TypeId} {f : Fra} (h : Blk W A t (fraA f)) {n : Nat} (hn : n < 8) : W.cell? ⟨A, 2 + n, none⟩ = some (.int .i64 (f.get n)) := h.cell (fra_get f hn)
theorem fra_put {W : World} {A : Nat} {f : Fra} (h : FrAt W A f) {n : Nat} (hn : n < 8) (v : Int) : FrAt (W.setCell ⟨A, 2 + n, none⟩ (.int .i64 v)) A (f.put n v) := by
  unfold FrAt
  rw [← fra_set f hn]
  exact h.set _ _
theorem fra_goto {W : World} {A : Nat} {f : Fra} (h : FrAt W A f) (v : Int) : FrAt (W.setCell ⟨A, 1, none⟩ (.int .i64 v)) A (f.goto v) := h.set 1 _
set_option maxRecDepth 100000 in
set_option maxHeartbeats 800000 in
theorem deed_set {x : In} {f : Fra} {A T n : Nat} (w : World) (hT : Boxed w T 63 (.pointer (some ⟨A, 0, none⟩))) (hA : FrAt w A f) (ha : x.a = (n : Int)) (hn : n < 8) :
    Calls Try.prog 53 #[insV x, .pointer (some ⟨T, 0, none⟩)] w fun e w' => e = .returned (.tuple #[]) ∧ FrAt w' A (f.put n x.k) ∧ But [A] w w' := by
  have hX := blk_new w 33 (insA x)
  have hT1 := hT.alloc (.cells (insA x) 33)
  have hA1 := hA.alloc (.cells (insA x) 33)
  have hb1 : But [A] w (w.alloc (.cells (insA x) 33)) := (But.refl [A] w).alloc _
  obtain ⟨w1, hw1⟩ : ∃ w1, w1 = w.alloc (.cells (insA x) 33) := ⟨_, rfl⟩
  rw [← hw1] at hX hT1 hA1 hb1
  have e0 := hT1.cell
  obtain ⟨i0, i1, i2, i3, i4⟩ := ins_cells (x := x) hX
  rw [ha] at i1
  have HA := Lib.hid ha
  clear ha
  have e1 := fra_cell hA1 hn
  have e2 := hA1.frozen (2 + n)
  have n0 : (0 : Int) ≤ (n : Int) := by omega
  have n1 : (n : Int) < 8 := by omega
  go_enter Try.func53, Try.ntmps53
  unfold insV
  go_wp2_with fail
  rw [insA] at hw1
  rw [← hw1]
  clear hw1
  go_region
  go_wp2_with fail
  go_end0
  exact ⟨rfl, fra_put hA1 hn _, (hb1.set (p := ⟨A, 2 + n, none⟩) (.inl (by simp)) _).drew⟩

set_option maxRecDepth 100000 in
set_option maxHeartbeats 800000 in
theorem deed_add {x : In} {f : Fra} {A T n m : Nat} (w : World) (hT : Boxed w T 63 (.pointer (some ⟨A, 0, none⟩))) (hA : FrAt w A f) (ha : x.a = (n : Int)) (hn : n < 8) (hb : x.b = (m : Int)) (hm : m < 8) :
    Calls Try.prog 54 #[insV x, .pointer (some ⟨T, 0, none⟩)] w fun e w' => e = .returned (.tuple #[]) ∧ FrAt w' A (f.put n (wrap64 (f.get n + f.get m))) ∧ But [A] w w' := by
  have hX := blk_new w 33 (insA x)
  have hT1 := hT.alloc (.cells (insA x) 33)
  have hA1 := hA.alloc (.cells (insA x) 33)
  have hb1 : But [A] w (w.alloc (.cells (insA x) 33)) := (But.refl [A] w).alloc _
  obtain ⟨w1, hw1⟩ : ∃ w1, w1 = w.alloc (.cells (insA x) 33) := ⟨_, rfl⟩
  rw [← hw1] at hX hT1 hA1 hb1
  have e0 := hT1.cell
  obtain ⟨i0, i1, i2, i3, i4⟩ := ins_cells (x := x) hX
  rw [ha] at i1
  rw [hb] at i2
  have HA := Lib.hid ha
  have HB := Lib.hid hb
  clear ha hb
  have e1 := fra_cell hA1 hn
  have e2 := hA1.frozen (2 + n)
  have e3 := fra_cell hA1 hm
  have n0 : (0 : Int) ≤ (n : Int) := by omega
  have n1 : (n : Int) < 8 := by omega
  have m0 : (0 : Int) ≤ (m : Int) := by omega
  have m1 : (m : Int) < 8 := by omega
  generalize f.get n = gn at e1 ⊢
  generalize f.get m = gm at e3 ⊢
  go_enter Try.func54, Try.ntmps54
  unfold insV
  go_wp2_with fail
  rw [insA] at hw1
  rw [← hw1]
  clear hw1
  go_region
  go_wp2_with fail
  go_end0
  exact ⟨rfl, fra_put hA1 hn _, (hb1.set (p := ⟨A, 2 + n, none⟩) (.inl (by simp)) _).drew⟩

set_option maxRecDepth 100000 in
set_option maxHeartbeats 800000 in
theorem deed_zero {x : In} {f : Fra} {A T n : Nat} (w : World) (hT : Boxed w T 63 (.pointer (some ⟨A, 0, none⟩))) (hA : FrAt w A f) (ha : x.a = (n : Int)) (hn : n < 8) :
    Calls Try.prog 55 #[insV x, .pointer (some ⟨T, 0, none⟩)] w fun e w' => e = .returned (.bool (f.get n == 0)) ∧ Below w.heap.size w w' := by
  have hX := blk_new w 33 (insA x)
  have hT1 := hT.alloc (.cells (insA x) 33)
  have hA1 := hA.alloc (.cells (insA x) 33)
  have hb1 : Below w.heap.size w (w.alloc (.cells (insA x) 33)) := (Below.refl _ w).alloc (Nat.le_refl _) _
  obtain ⟨w1, hw1⟩ : ∃ w1, w1 = w.alloc (.cells (insA x) 33) := ⟨_, rfl⟩
  rw [← hw1] at hX hT1 hA1 hb1
  have e0 := hT1.cell
  obtain ⟨i0, i1, i2, i3, i4⟩ := ins_cells (x := x) hX
  rw [ha] at i1
  have HA := Lib.hid ha
  clear ha
  have e1 := fra_cell hA1 hn
  have n0 : (0 : Int) ≤ (n : Int) := by omega
  have n1 : (n : Int) < 8 := by omega
  generalize f.get n = gn at e1 ⊢
  go_enter Try.func55, Try.ntmps55
  unfold insV
  go_wp2_with fail
  rw [insA] at hw1
  rw [← hw1]
  clear hw1
  go_region
  go_wp2_with fail
  go_ret
  exact ⟨rfl, hb1.drew⟩
end Go.Proofs.Ytplajidagpimdaa
