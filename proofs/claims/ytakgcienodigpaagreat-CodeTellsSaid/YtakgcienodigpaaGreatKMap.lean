/-
  The map of what is known of each Op's fields; the walks of namer and its closure.
-/
import Derived.Test.YtakgcienodigpaaGreatKNamed
import Derived.Test.YtakgcienodigpaaGreatGMap
namespace Go.Proofs.YtakgcienodigpaaGreat
open Go.RowKit Go.Maps

def zeroF : Value := .agg #[.bool false, .bool false, .bool false, .bool false]
theorem zeroFE (w : World) : (zeroValue 99).run Tryz.prog w = .ok zeroF w := by kernel_rfl
/-- Block M is a map of c entries in which g tells what each number has. -/
def FMap (W : World) (M : Nat) (g : Nat → Option Value) (c : Nat) : Prop :=
  ∃ D : DataW Value, W.ownsMap Tryz.prog 5 heldE M c D ∧ Maps.size D = c ∧ ∀ i : Nat, i < 256 → Maps.has D (.int .u8 (i : Int)) = (g i).isSome ∧ D.atKey (.int .u8 (i : Int)) (.held zeroF) = .held ((g i).getD zeroF)

section
variable {W W' : World} {M c : Nat} {g : Nat → Option Value}
theorem FMap.lt (h : FMap W M g c) : M < W.heap.size := by obtain ⟨_, h, _⟩ := h; exact h.lt
theorem FMap.of_block (h : FMap W M g c) (hb : W'.heap[M]? = W.heap[M]?) : FMap W' M g c := by
  obtain ⟨D, ⟨es, clock, h1, r⟩, h2⟩ := h
  exact ⟨D, ⟨es, clock, hb.trans h1, r⟩, h2⟩
theorem FMap.is (h : FMap W M g c) : ∃ es clock, W.heap[M]? = some (.map es clock) := by obtain ⟨_, ⟨es, clock, h1, _⟩, _⟩ := h; exact ⟨_, _, h1⟩
theorem fMap_made (w : World) : FMap (w.alloc (.map #[] 0)) w.heap.size (fun _ => none) 0 :=
  ⟨.map [], World.ownsMap_made w _ _ _, rfl, fun _ _ => ⟨rfl, rfl⟩⟩
theorem FMap.look (h : FMap W M g c) {i : Nat} (hi : i < 256) : (Instr.lookup 123 (.map (some M)) (.int .u8 (i : Int)) true).run Tryz.prog W = .ok (.tuple #[(g i).getD zeroF, .bool (g i).isSome]) W := by
  obtain ⟨D, hown, _, hD⟩ := h
  obtain ⟨v, ps, hrun, hv⟩ := hown.look_ok keyed Tryz.underlying123 (zeroFE W) (show heldE zeroF = some (.held zeroF, []) from rfl) (keyK hi)
  obtain ⟨h1, h2⟩ := hD i hi
  simp only [heldE, Option.some.injEq, Prod.mk.injEq] at hv
  rw [h2] at hv
  rw [hrun, h1, held_inj hv.1]
theorem FMap.look1 (h : FMap W M g c) {i : Nat} (hi : i < 256) : (Instr.lookup 123 (.map (some M)) (.int .u8 (i : Int)) false).run Tryz.prog W = .ok ((g i).getD zeroF) W := by
  obtain ⟨D, hown, _, hD⟩ := h
  obtain ⟨v, ps, hrun, hv⟩ := hown.lookup keyed Tryz.underlying123 (zeroFE W) (show heldE zeroF = some (.held zeroF, []) from rfl) (keyK hi)
  obtain ⟨h1, h2⟩ := hD i hi
  simp only [heldE, Option.some.injEq, Prod.mk.injEq] at hv
  rw [h2] at hv
  rw [hrun, held_inj hv.1]
theorem FMap.store (h : FMap W M g c) (hc : c < maxLen) {i : Nat} (hi : i < 256) (x : Value) :
    ∃ W', (Instr.mapUpdate 123 (.map (some M)) (.int .u8 (i : Int)) x).run Tryz.prog W = .ok () W' ∧ FMap W' M (upd g i (some x)) (if (g i).isSome then c else c + 1) ∧ But [M] W W' := by
  obtain ⟨D, hown, hs, hD⟩ := h
  obtain ⟨W', hrun, hown', hg⟩ := hown.update keyed Tryz.underlying123 hc (keyK hi) (show heldE x = some (.held x, []) from rfl)
  have hT := hown.tidy keyed
  have hsz := size_put (k := .int .u8 (i : Int)) hT (.held x)
  rw [(hD i hi).1, hs] at hsz
  refine ⟨W', hrun, ⟨_, ?_, hsz, fun k hk => ?_⟩, But.of_some hg (by simp)⟩
  · obtain ⟨es, clock, hb, F, hn, hD'⟩ := hown'
    refine ⟨es, clock, hb, F, ?_, hD'⟩
    rw [hD'] at hsz
    simp only [Maps.size, length_sorted, List.length_map, Array.length_toList] at hsz
    omega
  · by_cases e : k = i
    · subst e
      rw [upd_same]
      exact ⟨has_put_same hT.isMap (keyLit hk) _, atKey_put_same hT.isMap (keyLit hk) _ _⟩
    · rw [upd_ne e]
      have e' := lit_ne e
      exact ⟨(has_put_other e' _).trans (hD k hk).1, (atKey_put_other e' _ _).trans (hD k hk).2⟩
end

/-- How many numbers below n have something. -/
def cnt (g : Nat → Option Value) : Nat → Nat
  | 0 => 0
  | n + 1 => cnt g n + if (g n).isSome then 1 else 0
theorem cnt_none (n : Nat) : cnt (fun _ => none) n = 0 := by
  induction n with
  | zero => rfl
  | succ n ih => simp [cnt, ih]
theorem cnt_le (g : Nat → Option Value) (n : Nat) : cnt g n ≤ n := by
  induction n with
  | zero => exact Nat.le_refl _
  | succ n ih => simp only [cnt]; split <;> omega
theorem cnt_upd (g : Nat → Option Value) (i : Nat) (x : Value) (n : Nat) : cnt (upd g i (some x)) n = cnt g n + if i < n ∧ g i = none then 1 else 0 := by
  induction n with
  | zero => simp [cnt]
  | succ n ih =>
    simp only [cnt, ih]
    by_cases e : n = i
    · subst e
      rw [upd_same]
      cases h : g n <;> simp
    · rw [upd_ne e]
      by_cases h1 : i < n
      · simp [h1, show i < n + 1 by omega]; omega
      · simp [h1, show ¬ i < n + 1 by omega]
/-- The map holds of each Op nothing, or what its fields are. -/
def Knows (W : World) (M : Nat) : Prop := ∃ g, FMap W M g (cnt g 256) ∧ ∀ i, i < 256 → g i = none ∨ g i = some (fldV i)
/-- What a namer is made of: its box, and the map in it. -/
structure Nmr (W : World) (kb M : Nat) : Prop where
  box : Blk W kb 123 #[.map (some M)]
  map : Knows W M
theorem Knows.of_block {W W' : World} {M : Nat} (h : Knows W M) (hb : W'.heap[M]? = W.heap[M]?) : Knows W' M := by
  obtain ⟨g, h1, h2⟩ := h
  exact ⟨g, h1.of_block hb, h2⟩
theorem Nmr.lt {W : World} {kb M : Nat} (h : Nmr W kb M) : kb < W.heap.size ∧ M < W.heap.size := ⟨h.box.lt, by obtain ⟨g, h1, _⟩ := h.map; exact h1.lt⟩
theorem Nmr.ne {W : World} {kb M : Nat} (h : Nmr W kb M) : kb ≠ M := by
  rintro rfl
  obtain ⟨g, h1, _⟩ := h.map
  obtain ⟨es, clock, h2⟩ := h1.is
  have := h.box
  unfold Blk at this
  rw [h2] at this
  cases this
theorem Nmr.later {W W' : World} {kb M n : Nat} (h : Nmr W kb M) (hb : Below n W W') (h1 : kb < n) (h2 : M < n) : Nmr W' kb M :=
  ⟨(hb.block kb h1).trans h.box, h.map.of_block (hb.block M h2)⟩

theorem namer_any (w : World) :
    Calls Tryz.prog 45 #[] w fun e w' => e = .returned (.func (.func 75) #[] #[.pointer (some ⟨w.heap.size + 1, 0, none⟩)]) ∧ Nmr w' (w.heap.size + 1) w.heap.size ∧ Below w.heap.size w w' := by
  have hb := below2 w (.map #[] 0) (.cells #[.map (some w.heap.size)] 123)
  have h1 : Nmr ((w.alloc (.map #[] 0)).alloc (.cells #[.map (some w.heap.size)] 123)) (w.heap.size + 1) w.heap.size := by
    refine ⟨?_, ⟨fun _ => none, (cnt_none 256).symm ▸ (fMap_made w).of_block ?_, fun _ _ => .inl rfl⟩⟩
    · have := blk_new (w.alloc (.map #[] 0)) 123 #[.map (some w.heap.size)]
      rw [World.size_alloc] at this; exact this
    · exact Below.heap_alloc _ _ _ (by simp)
  have hmm := @run_makeMap Tryz.prog
  go_enter Tryz.func45, Tryz.ntmps45
  go_wp2_with fail
  go_ret
  exact ⟨rfl, h1, hb⟩

theorem Nmr.cell {W : World} {kb M : Nat} (h : Nmr W kb M) : W.cell? ⟨kb, 0, none⟩ = some (.map (some M)) := h.box.cell rfl
/-- What is looked up and what is put, at a namer. -/
theorem Nmr.look {W : World} {kb M : Nat} (h : Nmr W kb M) {o : Nat} (ho : o < 256) :
    ((Instr.lookup 123 (.map (some M)) (.int .u8 (o : Int)) true).run Tryz.prog W = .ok (.tuple #[zeroF, .bool false]) W) ∨
    ((Instr.lookup 123 (.map (some M)) (.int .u8 (o : Int)) true).run Tryz.prog W = .ok (.tuple #[fldV o, .bool true]) W ∧ ∀ W' : World, W'.heap[M]? = W.heap[M]? → (Instr.lookup 123 (.map (some M)) (.int .u8 (o : Int)) false).run Tryz.prog W' = .ok (fldV o) W') := by
  obtain ⟨g, h1, h2⟩ := h.map
  have l1 := h1.look ho
  have l2 := fun W' hb => (h1.of_block (W' := W') hb).look1 ho
  rcases h2 o ho with hg | hg
  · rw [hg] at l1
    exact .inl l1
  · rw [hg] at l1 l2
    exact .inr ⟨l1, l2⟩
theorem Nmr.store {W : World} {kb M : Nat} (h : Nmr W kb M) {o : Nat} (ho : o < 256) :
    ∃ W', (Instr.mapUpdate 123 (.map (some M)) (.int .u8 (o : Int)) (fldV o)).run Tryz.prog W = .ok () W' ∧ Nmr W' kb M ∧ But [M] W W' ∧ (Instr.lookup 123 (.map (some M)) (.int .u8 (o : Int)) false).run Tryz.prog W' = .ok (fldV o) W' := by
  have hne := h.ne
  have hbx := h.box
  obtain ⟨g, h1, h2⟩ := h.map
  have hc := cnt_le g 256
  obtain ⟨W', hrun, hm, hb⟩ := h1.store (by unfold maxLen; omega) ho (fldV o)
  have hcnt : (if (g o).isSome then cnt g 256 else cnt g 256 + 1) = cnt (upd g o (some (fldV o))) 256 := by
    rw [cnt_upd]
    rcases h2 o ho with hg | hg <;> simp [hg, ho]
  rw [hcnt] at hm
  have hl := hm.look1 ho
  rw [upd_same] at hl
  refine ⟨W', hrun, ⟨(hb.block kb hbx.lt (by simpa using hne)).trans hbx, _, hm, fun i hi => ?_⟩, hb, hl⟩
  by_cases e : i = o
  · subst e; rw [upd_same]; exact .inr rfl
  · rw [upd_ne e]; exact h2 i hi

/-- The fields stored into a block of four. -/
structure Put4 (W : World) (B o : Nat) (W' : World) : Prop where
  eq : W' = (((W.setCell ⟨B, 0, none⟩ (.bool (fldA o))).setCell ⟨B, 1, none⟩ (.bool (fldB o))).setCell ⟨B, 2, none⟩ (.bool (fldC o))).setCell ⟨B, 3, none⟩ (.bool (fldK o))
  q0 : W'.cell? ⟨B, 0, none⟩ = some (.bool (fldA o))
  q1 : W'.cell? ⟨B, 1, none⟩ = some (.bool (fldB o))
  q2 : W'.cell? ⟨B, 2, none⟩ = some (.bool (fldC o))
  q3 : W'.cell? ⟨B, 3, none⟩ = some (.bool (fldK o))
  but : But [B] W W'
theorem put4 {W : World} {B : Nat} {a b c d : Value} (h : Blk W B 99 #[a, b, c, d]) (o : Nat) : Put4 W B o ((((W.setCell ⟨B, 0, none⟩ (.bool (fldA o))).setCell ⟨B, 1, none⟩ (.bool (fldB o))).setCell ⟨B, 2, none⟩ (.bool (fldC o))).setCell ⟨B, 3, none⟩ (.bool (fldK o))) := by
  have k5 := (((h.set 0 (.bool (fldA o))).set 1 (.bool (fldB o))).set 2 (.bool (fldC o))).set 3 (.bool (fldK o))
  exact ⟨rfl, k5.cell (k := 0) rfl, k5.cell (k := 1) rfl, k5.cell (k := 2) rfl, k5.cell (k := 3) rfl, ((((But.refl [B] W).set (p := ⟨B, 0, none⟩) (.inl (by simp)) _).set (p := ⟨B, 1, none⟩) (.inl (by simp)) _).set (p := ⟨B, 2, none⟩) (.inl (by simp)) _).set (p := ⟨B, 3, none⟩) (.inl (by simp)) _⟩

set_option linter.unusedSimpArgs false in
set_option maxRecDepth 100000 in
set_option maxHeartbeats 1600000 in
theorem named_op (o kb M : Nat) (ho : o < 256) (w : World) (h : Nmr w kb M) :
    Calls Tryz.prog 75 #[.int .u8 (o : Int), .pointer (some ⟨kb, 0, none⟩)] w fun e w' => e = .returned (fldV o) ∧ But [M] w w' ∧ Nmr w' kb M := by
  obtain ⟨l1, l2⟩ := h.lt
  have hb1 : Below w.heap.size w (w.alloc (.cells #[.bool false, .bool false, .bool false, .bool false] 99)) := (Below.refl _ w).alloc (Nat.le_refl _) _
  have h1 := h.later hb1 l1 l2
  have k1 := blk_new w 99 #[.bool false, .bool false, .bool false, .bool false]
  have c1 := h1.cell
  rcases h1.look ho with r1 | ⟨r1, r2⟩
  · obtain ⟨W2, hW2⟩ : ∃ W2, W2 = (w.alloc (.cells #[.bool false, .bool false, .bool false, .bool false] 99)).alloc (.cells #[.bool false, .bool false, .bool false, .bool false] 99) := ⟨_, rfl⟩
    have hb2 : Below w.heap.size w W2 := by rw [hW2]; exact below2 w _ _
    have h2 := h.later hb2 l1 l2
    have c2 := h2.cell
    have k2 : Blk W2 w.heap.size 99 #[.bool false, .bool false, .bool false, .bool false] := by rw [hW2]; exact k1.alloc _
    unfold zeroF at r1
    go_enter Tryz.func75, Tryz.ntmps75
    go_wp2_with fail
    rw [← hW2]
    clear hW2 r1 c1 k1
    refine wp_region_pan (R := fun _ _ => False) (fun _ _ _ _ h => h.elim) ?_
    refine wp_region_held_drew (S := fun w' => w'.cell? ⟨kb, 0, none⟩ = some (.map (some M))) (by kernel_rfl) c2 (fun hHeld => ?_)
    refine wpAnyH_take (i := 0) (v := .map (some M)) rfl (by kernel_rfl) (by kernel_rfl) (by kernel_rfl) (fun _ _ _ h => h) (Or.inl ⟨by rfl, ?_⟩) hHeld ?_
    · intro w' hSw
      go_simp
    try simp only [Act.put, List.setIfInBounds_toArray, List.set_cons_zero, List.set_cons_succ]
    refine wpAnyH_take (i := 1) (v := .int .u8 (o : Int)) rfl (by kernel_rfl) (by kernel_rfl) (by kernel_rfl) (fun _ _ _ h => h) (Or.inl ⟨by rfl, ?_⟩) hHeld ?_
    · intro w' hSw
      go_simp
    try simp only [Act.put, List.setIfInBounds_toArray, List.set_cons_zero, List.set_cons_succ]
    refine wpAnyH_take (i := 2) (v := .int .u8 (o : Int)) rfl (by kernel_rfl) (by kernel_rfl) (by kernel_rfl) (fun _ _ _ h => h) (Or.inl ⟨by rfl, ?_⟩) hHeld ?_
    · intro w' hSw
      go_simp
    try simp only [Act.put, List.setIfInBounds_toArray, List.set_cons_zero, List.set_cons_succ]
    refine wpAnyH_ready (rs := [3]) (by kernel_rfl) (by simp) ?_
    refine AllReadyH.cons rfl (fun K hKK => ?_) AllReadyH.nil
    go_simp
    refine (namedBy_any o ho _).mono ?_
    rintro e w3 ⟨rfl, hb3⟩
    refine hKK.out _ _ (keepB hb3 hHeld) (fun hHeld => ?_)
    clear hKK K
    try simp only [Act.put, List.setIfInBounds_toArray, List.set_cons_zero, List.set_cons_succ]
    have B3 := below_next hb2.drew hb3 (Nat.le_refl _)
    have h3 := h.later B3 l1 l2
    have k3 := keepK hb3 k2.drew
    obtain ⟨w4, hrun, h4, hb4, r4⟩ := h3.store ho
    have k4 : Blk w4 w.heap.size 99 #[.bool false, .bool false, .bool false, .bool false] := (hb4.block _ k3.lt (by simp; omega)).trans k3
    refine wpAnyH_ready (rs := [4]) (by kernel_rfl) (by simp) ?_
    refine AllReadyH.cons rfl (fun K hKK => ?_) AllReadyH.nil
    go_simp
    refine hKK.out _ _ h4.cell (fun _ => ?_)
    clear hKK K hrun
    refine wpAnyH_done (by kernel_rfl) ?_ _
    simp only [PanOnly, Act.put, List.setIfInBounds_toArray, List.set_cons_zero, List.set_cons_succ]
    have c4 := h4.cell
    have hbt4 : But [M] w w4 := (But.of_below B3 [M]).trans hb4 (fun x hx _ => hx)
    have t0 := k4.cell (k := 0) rfl
    have t1 := k4.cell (k := 1) rfl
    have t2 := k4.cell (k := 2) rfl
    have t3 := k4.cell (k := 3) rfl
    have g0 := k4.frozen 0
    have g1 := k4.frozen 1
    have g2 := k4.frozen 2
    have g3 := k4.frozen 3
    have hp := put4 k4 o
    have q0 := hp.q0
    have q1 := hp.q1
    have q2 := hp.q2
    have q3 := hp.q3
    have hbt : But [M] w ((((w4.setCell ⟨w.heap.size, 0, none⟩ (.bool (fldA o))).setCell ⟨w.heap.size, 1, none⟩ (.bool (fldB o))).setCell ⟨w.heap.size, 2, none⟩ (.bool (fldC o))).setCell ⟨w.heap.size, 3, none⟩ (.bool (fldK o))) := hbt4.own hp.but (by simp)
    have hn : Nmr ((((w4.setCell ⟨w.heap.size, 0, none⟩ (.bool (fldA o))).setCell ⟨w.heap.size, 1, none⟩ (.bool (fldB o))).setCell ⟨w.heap.size, 2, none⟩ (.bool (fldC o))).setCell ⟨w.heap.size, 3, none⟩ (.bool (fldK o))) kb M := h4.later (hp.but.below (n := w.heap.size) hbt4.size (by simp)) l1 l2
    clear hp k4 hHeld hb4 hbt4 h3 h4
    unfold fldV at r4
    go_wp2_with fail
    refine bodyPost_ret (v := fldV o) (by simp [results, Tryz.f75, go_sem, q0, q1, q2, q3, fldV]) rfl ⟨rfl, hbt, hn⟩
  · obtain ⟨W2, hW2⟩ : ∃ W2, W2 = (w.alloc (.cells #[.bool false, .bool false, .bool false, .bool false] 99)).alloc (.cells #[.bool (fldA o), .bool (fldB o), .bool (fldC o), .bool (fldK o)] 99) := ⟨_, rfl⟩
    have hb2 : Below w.heap.size w W2 := by rw [hW2]; exact below2 w _ _
    have h2 := h.later hb2 l1 l2
    have c2 := h2.cell
    have r3 := r2 W2 ((hb2.block M l2).trans (hb1.block M l2).symm)
    have k2 : Blk W2 w.heap.size 99 #[.bool false, .bool false, .bool false, .bool false] := by rw [hW2]; exact k1.alloc _
    clear r2
    unfold fldV at r1 r3
    go_enter Tryz.func75, Tryz.ntmps75
    go_wp2_with fail
    rw [← hW2, r3]
    clear hW2 r1 r3 c1 k1
    have t0 := k2.cell (k := 0) rfl
    have t1 := k2.cell (k := 1) rfl
    have t2 := k2.cell (k := 2) rfl
    have t3 := k2.cell (k := 3) rfl
    have g0 := k2.frozen 0
    have g1 := k2.frozen 1
    have g2 := k2.frozen 2
    have g3 := k2.frozen 3
    have hp := put4 k2 o
    have q0 := hp.q0
    have q1 := hp.q1
    have q2 := hp.q2
    have q3 := hp.q3
    have hbt : But [] w ((((W2.setCell ⟨w.heap.size, 0, none⟩ (.bool (fldA o))).setCell ⟨w.heap.size, 1, none⟩ (.bool (fldB o))).setCell ⟨w.heap.size, 2, none⟩ (.bool (fldC o))).setCell ⟨w.heap.size, 3, none⟩ (.bool (fldK o))) := (But.of_below hb2 []).own hp.but (by simp)
    have hn := h.later (hbt.below (Nat.le_refl _) (by simp)) l1 l2
    clear hp k2
    simp only [Result.andThen]
    rw [Oper.upon_value]
    go_wp2_with fail
    refine bodyPost_ret (v := fldV o) (by simp [results, Tryz.f75, go_sem, q0, q1, q2, q3, fldV]) rfl ⟨rfl, hbt.mono (by simp), hn⟩
end Go.Proofs.YtakgcienodigpaaGreat
