/-
  The walk of pool.List: a loop over the iterator, up to a label.
-/
import Derived.Test.YtmllalmdaobboaaPIter
namespace Go.Proofs.Ytmllalmdaobboaa
open Go.RowKit Go.Shelf

attribute [local go_sem] Oper.semAt_some

theorem boxed_abides {β : Type} (B : Nat) (t : TypeId) (f : β → Value) (m : Nat) : OwnFrom m (fun (s : β) W => Boxed W B t (f s)) :=
  Own.from (fun sx A W' row hs hg hr => hs.kept hg (fun e' => by obtain ⟨o, ho, hc⟩ := hr _ e'.symm; rw [show A.heap[B]? = _ from hs] at ho; cases ho; cases hc)) m

theorem infoInt : (Try.prog.info? 3).map (fun i => (i.zero, i.size, i.bytes)) = some (some (.int .i64 0), 1, 8) := by kernel_rfl
theorem owns_slice {w : World} {base : Nat} {e : TypeId} {size : Nat} {v : Value} {k : Nat} {xs : List Value} (h : w.ownsRow base e size v k xs) : ∃ a n c, v = .slice a n c := by
  rcases h.2 with ⟨rfl, _⟩ | ⟨g, cap, _, rfl, _⟩
  · exact ⟨_, _, _, rfl⟩
  · exact ⟨_, _, _, rfl⟩
def I64N (xs : List Nat) : List Value := xs.map fun (x : Nat) => Value.int .i64 (x : Int)
theorem I64N_snoc (xs : List Nat) (x : Nat) : I64N (xs ++ [x]) = I64N xs ++ [.int .i64 (x : Int)] := by simp [I64N]
theorem I64N_len (xs : List Nat) : (I64N xs).length = xs.length := by simp [I64N]

theorem keepP_append {W w1 : World} {n₀ B : Nat} {v v' : Value} {k : Nat} {xs : List Value} {tmp : Obj} (hrow : W.ownsRow n₀ 3 1 v k xs) (hg : (W.alloc tmp).grownBy w1 v.ownBlock) {u : Value} (hb : Boxed w1 B 41 u) : KeepP W (w1.setCell ⟨B, 0, none⟩ v') := by
  refine ((KeepP.grown (World.grownBy_alloc W tmp none) (fun _ _ _ _ e => by cases e)).trans (KeepP.grown hg fun k' cs t z e hk => ?_)).trans (KeepP.grown (grownBy_setCell' w1 B v') fun k' cs t z e hk => ?_)
  · rcases (hrow.alloc tmp).2 with ⟨rfl, _⟩ | ⟨g, cap, cur, rfl, _, hgb, _⟩
    · simp [Value.ownBlock] at e
    · obtain rfl : g = k' := by simpa [Value.ownBlock] using e
      rw [hgb] at hk; cases hk; decide
  · cases e
    rw [show w1.heap[B]? = _ from hb] at hk; cases hk; decide

theorem owns_low {W : World} {a b : Nat} (hab : b ≤ a) {e : TypeId} {size : Nat} {v : Value} {k : Nat} {xs : List Value} (h : W.ownsRow a e size v k xs) : W.ownsRow b e size v k xs :=
  ⟨h.1, h.2.imp id fun ⟨g, c, d, e1, e2, r⟩ => ⟨g, c, d, e1, Nat.le_trans hab e2, r⟩⟩
theorem owns_ne {W : World} {a M : Nat} (hM : M < a) {e : TypeId} {size : Nat} {v : Value} {k : Nat} {xs : List Value} (h : W.ownsRow a e size v k xs) : some M ≠ v.ownBlock := fun e1 => by have := (h.lt M e1.symm).1; omega
/-- A row grows that lies above two boxes; the first one is set to it. -/
theorem appended2 {W w1 : World} {n₀ B M : Nat} {t e tm : TypeId} {v v' u : Value} {k m : Nat} {xs ys : List Value} {tmp : Obj} (hv : Boxed W B t v) (hM : Boxed W M tm u) (hte : t ≠ e) (hrow : W.ownsRow n₀ e 1 v k xs) (hn : n₀ ≤ W.heap.size) (hB : B < n₀) (hMn : M < n₀) (hBM : M ≠ B)
    (hown' : w1.ownsRow n₀ e 1 v' m ys) (hgrow : (W.alloc tmp).grownBy w1 v.ownBlock) :
    Boxed w1 B t v ∧ Boxed w1 M tm u ∧ Boxed (w1.setCell ⟨B, 0, none⟩ v') B t v' ∧ Boxed (w1.setCell ⟨B, 0, none⟩ v') M tm u ∧ (w1.setCell ⟨B, 0, none⟩ v').ownsRow n₀ e 1 v' m ys ∧ KeepsOthers W (w1.setCell ⟨B, 0, none⟩ v') ∧ Below B W (w1.setCell ⟨B, 0, none⟩ v') := by
  obtain ⟨h1, h2, _, h4, h5⟩ := hv.appended hte (owns_low (Nat.le_of_lt hB) hrow) (by omega) (Nat.le_refl B) (owns_low (Nat.le_of_lt hB) hown') hgrow
  have h6 : Boxed w1 M tm u := (hM.alloc tmp).kept hgrow (owns_ne hMn hrow)
  exact ⟨h1, h6, h2, h6.kept (grownBy_setCell' w1 B v') (by simpa using hBM), hown'.kept (grownBy_setCell' w1 B v') (.inr (owns_ne hB hown').symm), h4, h5⟩

theorem list_end (w W : World) (D : Nat) (va : Option Addr) (vn vc : Nat) (xs ys : List Nat) (HY : Hid (xs = ys)) (hD : w.heap.size < D) (t0 t1 t3 t4 t5 t6 t7 t8 t9 t10 t11 t12 t13 t14 t15 t16 t17 t18 : Value)
    (hv : Boxed W w.heap.size 41 (.slice va vn vc)) (hrow : W.ownsRow (w.heap.size + 2) 3 1 (.slice va vn vc) xs.length (I64N xs)) (hB : Below w.heap.size w W) (hK : W.heap[D]? = some (.deferred (some []))) :
    bodyPostM Fence.wide 4 Try.prog Try.f21 (fun e w' => ∃ v, e = .returned v ∧ w'.ownsRow w.heap.size 3 1 v ys.length (I64N ys) ∧ Below w.heap.size w w') .ret
      { tmps := #[t0, t1, .pointer (some ⟨w.heap.size, 0, none⟩), t3, t4, t5, t6, t7, t8, t9, t10, t11, t12, t13, t14, t15, t16, t17, t18], defers := [{ target := Target.collected D, args := #[] }] } (W.setCell ⟨w.heap.size, 0, none⟩ (.slice va vn vc)) := by
  have hK' := (KeepsOthers.setCell W ⟨w.heap.size, 0, none⟩ (.slice va vn vc)).same D _ hK rfl
  have hv2 := hv.set (.slice va vn vc)
  have hrow2 := hrow.kept (grownBy_setCell' W w.heap.size (.slice va vn vc)) (.inr (owns_ne (by omega) hrow).symm)
  have gB := hB.setCell (p := ⟨w.heap.size, 0, none⟩) (Nat.le_refl _) (.slice va vn vc)
  generalize W.setCell ⟨w.heap.size, 0, none⟩ (.slice va vn vc) = W1 at hK' hv2 hrow2 gB ⊢
  refine ⟨by simp, .inl ⟨_, _, rfl, run_takeDeferred hK', ?_⟩⟩
  have hc5 := cell_kept hv2.cell (grownBy_putObj' _ D (.deferred none)) (fun r e => by cases e; exact ⟨_, hK', rfl⟩)
  refine ⟨.slice va vn vc, ?_, _, rfl, ?_, gB.trans (belowK_b (w := w) (Nat.le_refl _) _ D _ _ (by omega) hK' rfl rfl)⟩
  · simp [results, Try.f21, go_sem, hc5]
  · rw [← HY.out]; exact owns_low (by omega) (ownsRow_putObj hrow2 _ hK' rfl)

set_option maxRecDepth 100000 in
set_option maxHeartbeats 1000000 in
theorem list_of (p : Option Addr) (ys : List Nat) (w : World) (hR : IterOf p ys w)
    (hlen : ∀ W : World, Below w.heap.size w W → Calls Try.prog 18 #[.pointer p] W fun e w' => e = .returned (.int .i64 (ys.length : Int)) ∧ w' = W) :
    Calls Try.prog 21 #[.pointer p] w fun e w' => ∃ v, e = .returned v ∧ w'.ownsRow w.heap.size 3 1 v ys.length (I64N ys) ∧ Below w.heap.size w w' := by
  obtain ⟨i0, hi, hz0, hz1, hz2⟩ := info_parts infoInt
  refine (callsIn_wide (n := 4)).1 ?_
  refine callsIn_of_wp_marks Try.func21 rfl trivial ?_ rfl
  simp only [Try.ntmps21, List.size_toArray, List.length_cons, List.length_nil, Nat.reduceAdd, Nat.reduceSub, Array.replicate_succ, Array.replicate_zero, List.push_toArray, List.append_toArray, List.nil_append, List.cons_append]
  have hb1 : Below w.heap.size w (w.alloc (.cells #[.slice none 0 0] 41)) := (Below.refl _ w).alloc (Nat.le_refl _) _
  have hcall := hlen _ hb1
  clear hlen
  gi_wp2
  refine wpIn_wide.2 ?_
  go_step3
  go_wp2_with fail
  refine hcall.mono ?_
  rintro e w' ⟨rfl, rfl⟩
  go_wp2_with fail
  go_step3
  go_wp2_with fail
  refine (taken_any p _).mono ?_
  rintro e w' ⟨rfl, rfl⟩
  go_wp2_with fail
  have bO := Boxed.new w 41 (.slice none 0 0)
  have bM := Boxed.new (w.alloc (.cells #[.slice none 0 0] 41)) 3 (.int .i64 (ys.length : Int))
  have bN := Boxed.new ((w.alloc (.cells #[.slice none 0 0] 41)).alloc (.cells #[.int .i64 (ys.length : Int)] 3)) 24 (.pointer p)
  simp only [World.size_alloc] at bM bN
  have hB0 : Below w.heap.size w (((w.alloc (.cells #[.slice none 0 0] 41)).alloc (.cells #[.int .i64 (ys.length : Int)] 3)).alloc (.cells #[.pointer p] 24)) := (hb1.alloc (by simp) _).alloc (by simp; omega) _
  clear hb1 hcall
  refine (wpIn_wide (n := 4)).1 ?_
  refine wpIn_rangeFunc_ownG rfl (by omega) (gf := 26) (lb := #[.pointer (some ⟨w.heap.size + 1 + 1, 0, none⟩)]) rfl trivial (enters_of Try.func26 (by kernel_rfl) rfl)
    (hR _ (w.heap.size + 1 + 1) hB0 bN) (fun h k => KeepP.trans h k) (fun W l o o' _ hl ho _ => KeepP.putObj W l o o' hl ho) (Below.refl _ _) (fun _ => rfl)
    (fun pre W => (∃ v, Boxed W w.heap.size 41 v ∧ W.ownsRow (w.heap.size + 2) 3 1 v pre.length (I64N pre) ∧ True) ∧ Boxed W (w.heap.size + 1) 3 (.int .i64 (ys.length : Int)) ∧ Below w.heap.size w W)
    (fun c pre W => ((∃ v, Boxed W w.heap.size 41 v ∧ W.ownsRow (w.heap.size + 2) 3 1 v pre.length (I64N pre) ∧ True) ∧ Boxed W (w.heap.size + 1) 3 (.int .i64 (ys.length : Int)) ∧ Below w.heap.size w W) ∧ c = .exit 0 ∧ pre.length = ys.length)
    (OwnFrom.and (Own.from (holdsRow_own (w.heap.size + 2) w.heap.size 41 3 1 (fun pre : List Nat => pre.length) (fun pre => I64N pre) (fun _ _ => True)) _) (OwnFrom.and (boxed_abides _ _ (fun _ => _) _) (ownFrom_below (Nat.le_refl _) (by simp; omega))))
    (fun c => OwnFrom.and (OwnFrom.and (Own.from (holdsRow_own (w.heap.size + 2) w.heap.size 41 3 1 (fun pre : List Nat => pre.length) (fun pre => I64N pre) (fun _ _ => True)) _) (OwnFrom.and (boxed_abides _ _ (fun _ => _) _) (ownFrom_below (Nat.le_refl _) (by simp; omega)))) (fun _ _ _ _ h _ _ => h))
    ⟨⟨_, (bO.alloc _).alloc _, World.ownsRow_nil _ _ _ _, trivial⟩, bM.alloc _, hB0⟩
    (fun x => { tmps := #[.pointer p, undef, .pointer (some ⟨w.heap.size, 0, none⟩), .pointer (some ⟨w.heap.size + 1, 0, none⟩), .int .i64 (x : Int), .pointer p, .int .i64 (ys.length : Int), .pointer p, .func (.func 26) #[] #[.pointer (some ⟨w.heap.size + 1 + 1, 0, none⟩)], .int .i64 (x : Int), undef, undef, undef, undef, undef, undef, undef, undef, undef], defers := [] }) ?assign ?body ?done ?stop
  case assign =>
    intro l x W K hK
    gi_wp2
    simpa using hK
  case body =>
    rintro l pre x W ⟨⟨v, hv, hrow, -⟩, hM, hB⟩ hlt
    have hc := hv.cell
    have hcM := hM.cell
    by_cases hl : pre.length + 1 = ys.length
    · have ht : ((pre.length : Int) + 1 == (ys.length : Int)) = true := by simp; omega
      have HL := Lib.hid hl
      clear hl
      gi_wp2_with (gi_at_builtin; refine wpListIn_append_own _ rfl _ _ 41 rfl (w.heap.size + 2) 3 i0 (.int .i64 0) 1 8 Try.underlying41 hi hz0 hz1 hz2 rfl (by decide) _ _ _ rfl (hrow.alloc _) ⟨W.heap.size, 0, none⟩ 1 1 [.int .i64 (x : Int)] rfl rfl (cell_one_new _ _ _) (by simp [Value.oneCell']) (by unfold maxLen; omega) (by omega) (by have := hM.lt; simp; omega) ?_; intro v' w1 hown' hgrow _; obtain ⟨g', cap', rfl⟩ := ownsRow_succ hown'; obtain ⟨hv1, hM1, hv2, hM2, hr2, hk2, hb2⟩ := appended2 hv hM (by decide) hrow (by have := hM.lt; omega) (by omega) (by omega) (by omega) hown' hgrow; have hc1 := hv1.cell; have hf1 := hv1.frozen; have hcM1 := hM1.cell; have hkr := keepP_append (v' := .slice (some ⟨g', 0, none⟩) (pre.length + 1) cap') hrow hgrow hv1)
      exact ⟨hk2.from _, ⟨⟨_, hv2, by rw [I64N_snoc]; simpa using hr2, trivial⟩, hM2, hB.trans hb2⟩, rfl, by simpa using HL.out⟩
    · have ht : ((pre.length : Int) + 1 == (ys.length : Int)) = false := by simp; omega
      gi_wp2_with (gi_at_builtin; refine wpListIn_append_own _ rfl _ _ 41 rfl (w.heap.size + 2) 3 i0 (.int .i64 0) 1 8 Try.underlying41 hi hz0 hz1 hz2 rfl (by decide) _ _ _ rfl (hrow.alloc _) ⟨W.heap.size, 0, none⟩ 1 1 [.int .i64 (x : Int)] rfl rfl (cell_one_new _ _ _) (by simp [Value.oneCell']) (by unfold maxLen; omega) (by omega) (by have := hM.lt; simp; omega) ?_; intro v' w1 hown' hgrow _; obtain ⟨g', cap', rfl⟩ := ownsRow_succ hown'; obtain ⟨hv1, hM1, hv2, hM2, hr2, hk2, hb2⟩ := appended2 hv hM (by decide) hrow (by have := hM.lt; omega) (by omega) (by omega) (by omega) hown' hgrow; have hc1 := hv1.cell; have hf1 := hv1.frozen; have hcM1 := hM1.cell; have hkr := keepP_append (v' := .slice (some ⟨g', 0, none⟩) (pre.length + 1) cap') hrow hgrow hv1)
      exact ⟨hk2.from _, hkr, ⟨_, hv2, by rw [I64N_snoc]; simpa using hr2, trivial⟩, hM2, hB.trans hb2⟩
  case done =>
    rintro D xs W hD hxs ⟨⟨v, hv, hrow, -⟩, hM, hB⟩ hK
    have HY : Hid (xs = ys) := Lib.hid hxs
    clear hxs
    obtain ⟨va, vn, vc, rfl⟩ := owns_slice hrow
    have hc := hv.cell
    have hf := hv.frozen
    go_wp2_with fail
    rw [Exit.noGoto_ret]
    exact list_end w W D va vn vc xs ys HY (by simp at hD; omega) _ _ _ _ _ _ _ _ _ _ _ _ _ _ _ _ _ _ hv hrow hB hK
  case stop =>
    rintro D c pre W hD hpre ⟨⟨⟨v, hv, hrow, -⟩, hM, hB⟩, rfl, hl⟩ hK
    have HY : Hid (pre = ys) := Lib.hid (List.IsPrefix.eq_of_length hpre hl)
    clear hpre hl
    obtain ⟨va, vn, vc, rfl⟩ := owns_slice hrow
    have hc := hv.cell
    have hf := hv.frozen
    gi_wp2
    go_wp2_with fail
    rw [Exit.noGoto_ret]
    exact list_end w W D va vn vc pre ys HY (by simp at hD; omega) _ _ _ _ _ _ _ _ _ _ _ _ _ _ _ _ _ _ hv hrow hB hK

theorem pt_list {B V cap : Nat} {T : List (Option Sud)} {F : List Nat} (w : World) (h : PoolAt w B V cap T F) :
    Calls Try.prog 21 #[.pointer (some ⟨B, 0, none⟩)] w fun e w' => ∃ v, e = .returned v ∧ w'.ownsRow w.heap.size 3 1 v (idx T).length (I64N (idx T)) ∧ Below w.heap.size w w' :=
  list_of _ _ w (iter_pool h) fun W hW => by
    have := pt_len W (h.below hW)
    rwa [← idx_len] at this
theorem plist_nil (w : World) :
    Calls Try.prog 21 #[.pointer none] w fun e w' => ∃ a c, e = .returned (.slice a 0 c) ∧ Below w.heap.size w w' :=
  (list_of _ [] w (iter_none w) fun W _ => plen_nil W).mono fun _ _ ⟨v, h1, h2, h3⟩ => by
    rcases h2.2 with ⟨rfl, _⟩ | ⟨g, cap, cur, rfl, _⟩
    · exact ⟨_, _, h1, h3⟩
    · exact ⟨_, _, h1, h3⟩
end Go.Proofs.Ytmllalmdaobboaa
