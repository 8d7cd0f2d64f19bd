/-
  The walks of slices.Contains of ints, task.Hold.
-/
import Derived.Deep.RegionLaw
import Derived.Test.YtamkmmpockmpfaaTkDo
namespace Go.Proofs.Ytamkmmpockmpfaa
open Go.RowKit

theorem contains_any (v : Value) (xs : List Int) (k : Int) (w : World) (hr : Od.RowI w v xs) (hl : xs.length ≤ 1024) :
    Calls Try.prog 28 #[v, .int .i64 k] w fun e w' => e = .returned (.bool (decide (k ∈ xs))) ∧ w' = w := by
  have hi := Od.index_any v xs k w hr hl
  obtain ⟨a, c, rfl⟩ := hr.slice
  have HV : Hid ((∃ p : Nat, Od.atV xs k = (p : Int) ∧ k ∈ xs) ∨ (Od.atV xs k = -1 ∧ k ∉ xs)) := Lib.hid (by
    by_cases hk : k ∈ xs
    · obtain ⟨p, _, _, h3, _⟩ := Od.atV_is hk
      exact .inl ⟨p, h3, hk⟩
    · exact .inr ⟨Od.atV_not hk, hk⟩)
  clear hr
  rcases HV.out with ⟨p, e1, e2⟩ | ⟨e1, e2⟩
  · rw [e1] at hi
    have H2 := Lib.hid e2
    have p0 : (0 : Int) ≤ (p : Int) := by omega
    clear HV e1 e2
    go_enter Try.func28, Try.ntmps28
    go_wp2_with fail
    refine hi.mono ?_
    rintro e w1 ⟨rfl, rfl⟩
    clear hi
    go_wp2_with fail
    go_ret
    exact ⟨by rw [decide_eq_true H2.out]; rfl, rfl⟩
  · rw [e1] at hi
    have H2 := Lib.hid e2
    clear HV e1 e2
    go_enter Try.func28, Try.ntmps28
    go_wp2_with fail
    refine hi.mono ?_
    rintro e w1 ⟨rfl, rfl⟩
    clear hi
    go_wp2_with fail
    go_ret
    exact ⟨by rw [decide_eq_false H2.out]; rfl, rfl⟩

/-- append(l, x) of ints, as one step of a region that draws. -/
theorem step_app_int {ops : Array Oper} {E : Prop} {w : World} {o : Oper} {a : Act} {K : Act → World → Prop} {Q : Exit → Act → World → Prop} (s x : Operand) (hg : o.guard = none) (ho : o.op = .call { callee := .builtin .append, args := #[s, x], argTypes := #[22, 22] })
    {v : Value} {n : Nat} {xs : List Value} (hs : a.eval s = v) (hown : w.ownsRow 0 3 1 v n xs) {ad : Addr} (hx : a.eval x = .slice (some ad) 1 1) {y : Int} (hc : w.cell? ad = some (.int .i64 y)) (hn : n ≤ 1000000)
    (h : ∀ v' w', w'.ownsRow 0 3 1 v' (n + 1) (xs ++ [.int .i64 y]) → w.grownBy w' v.ownBlock → (v'.ownBlock = v.ownBlock ∨ v'.ownBlock = some w.heap.size) → K (a.put o.dst v') w') : if Region.wanted o (yielded ops a.tmps) = true then Oper.wp Try.prog o a w K Q else E := by
  have hw : Region.wanted o (yielded ops a.tmps) = true := by simp [Region.wanted, hg]
  rw [if_pos hw]
  obtain ⟨i, hi, hz0, hz1, hz2⟩ := info_parts Od.infoInt
  obtain ⟨v', w', hr, h2, h3, _, h5⟩ := run_append_own_at (P := Try.prog) w 0 22 o.type 3 i (.int .i64 0) 1 8 Try.underlying22 hi hz0 hz1 hz2 rfl (by decide) v n xs hown ad 1 1 [.int .i64 y] rfl
    (fun j u hj => by
      have : j = 0 := by have := (List.getElem?_eq_some_iff.1 hj).1; simpa using this
      subst this
      simp only [List.getElem?_cons_zero, Option.some.injEq] at hj
      subst hj
      have e0 : ad.add 0 = ad := by simp [Addr.add]
      rw [e0]; exact hc) (by intro u hu; simp only [List.mem_singleton] at hu; subst hu; rfl) (by unfold maxLen; omega) (by omega) (Nat.zero_le _)
  unfold Oper.wp execOp
  simp only [ho, resolve, invoke, builtin, Sem.run_bind, Sem.run_pure, Result.andThen_ok, List.map_toArray, List.map_cons, List.map_nil, hs, hx, hr]
  exact h v' w' h2 h3 h5

theorem hold1_have {a : Ta} {k : Tk} {x : Nat} (slot : Int) (w : World) (h : TkAt w a k) (hx : Boxed w x 3 (.int .i64 slot)) (hl : k.sl.length ≤ 1024) (hin : slot ∈ k.sl) :
    Calls Try.prog 27 #[.pointer (some ⟨a.B, 0, none⟩), .pointer (some ⟨x, 0, none⟩)] w fun e w' => e = .returned (.int .i64 9) ∧ But [] w w' := by
  obtain ⟨-, -, c12, -⟩ := tk_cells h.blk
  have cx := hx.cell
  have hr : Od.RowI w a.S k.sl := Od.RowI.of_owns h.slots
  have hq : ∀ m, Calls Try.prog 28 #[a.S, .int .i64 slot] (w.drewN m) fun e w' => e = .returned (.bool true) ∧ w' = w.drewN m := fun m => by
    have := contains_any a.S k.sl slot (w.drewN m) (hr.below (below_drewN (Below.refl _ _) m)) hl
    rwa [decide_eq_true hin] at this
  clear h hx hin hr
  go_enter Try.func27, Try.ntmps27
  go_wp2_with fail
  go_quiet (first | (go_at_call 28; with_reducible exact Calls.quiet_of_same (hq _)))
  clear hq
  go_wp2_with fail
  go_ret
  exact ⟨rfl, (But.refl [] w).drewN nq⟩

theorem But.of_grown' {w w' : World} {r : Option Nat} (h : w.grownBy w' r) : But r.toList w w' := by
  cases r with
  | none => exact But.of_none h _
  | some b => exact But.of_some h (by simp)
theorem cell_one (W : World) (v : Value) (t : TypeId) : (W.alloc (.cells #[v] t)).cell? ⟨W.heap.size, 0, none⟩ = some v := (blk_new W t #[v]).cell rfl
theorem hold_blk {w W w5 : World} {a : Ta} {k : Tk} {o : Obj} (h : TkAt w a k) (hb : But [] w W) (hg : (W.alloc o).grownBy w5 a.S.ownBlock) : Blk w5 a.B 67 (tkA k.st k.f k.used a.S a.M) := by
  have hq : But a.S.ownBlock.toList w w5 := ((hb.mono (by simp)).alloc _).next (But.of_grown' hg)
  exact (hq.block _ h.blk.lt (fun hx => (h.sep.2.2 a.B (by simpa using hx)).1 rfl)).trans h.blk
/-- What Hold leaves. -/
theorem hold_end {w W w5 : World} {a : Ta} {k : Tk} {o : Obj} {v : Value} {slot : Int} (h : TkAt w a k) (hb : But [] w W) (hg : (W.alloc o).grownBy w5 a.S.ownBlock)
    (hown : w5.ownsRow 0 3 1 v (k.sl.length + 1) (Od.I64 k.sl ++ [.int .i64 slot])) (hat : v.ownBlock = a.S.ownBlock ∨ v.ownBlock = some (W.alloc o).heap.size) :
    TkAt (w5.setCell ⟨a.B, 12, none⟩ v) { a with S := v } { k with sl := k.sl ++ [slot] } ∧ But (a.B :: a.S.ownBlock.toList) w (w5.setCell ⟨a.B, 12, none⟩ v) ∧ ∀ g, v.ownBlock = some g → a.S.ownBlock = some g ∨ w.heap.size ≤ g := by
  obtain ⟨h1, h2, h3⟩ := h.sep
  have hB := hold_blk h hb hg
  have hq : But (a.B :: a.S.ownBlock.toList) w w5 := (((hb.mono (by simp)).alloc _).next (But.of_grown' hg)).mono (fun x hx => List.mem_cons_of_mem _ hx)
  have hf := hq.set (p := ⟨a.B, 12, none⟩) (.inl (by simp)) v
  have hn : ∀ x, x ≠ a.B → (∀ g, a.S.ownBlock = some g → g ≠ x) → x ∉ a.B :: a.S.ownBlock.toList := fun x q1 q2 hx => by
    rcases List.mem_cons.1 hx with e | hx
    · exact q1 e
    · exact q2 x (by simpa using hx) rfl
  refine ⟨⟨hB.set 12 v, ?_, h.map.but hf (hn _ (Ne.symm h1) fun g hg e => (h3 g hg).2.1 e), h.len, fun j q l hj hl => (h.ords j q l hj hl).but (toOd hf) ?_, h.nd⟩, hf, fun g hg' => ?_⟩
  · have := owns_beside hown hB (by decide) v (k := 12)
    simpa [Od.I64] using this
  · have hm := List.mem_of_getElem? hj
    exact hn q (h2 q hm).1 fun g hg e => (h3 g hg).2.2 (e ▸ hm)
  · rcases hat with q | q
    · exact .inl (q ▸ hg')
    · rw [q] at hg'
      simp only [World.size_alloc, Option.some.injEq] at hg'
      exact .inr (by have := hb.size; omega)

set_option maxHeartbeats 1600000 in
theorem hold1_room {a : Ta} {k : Tk} {x : Nat} (slot : Int) (w : World) (h : TkAt w a k) (hx : Boxed w x 3 (.int .i64 slot)) (hl : k.sl.length ≤ 1024) (hin : slot ∉ k.sl) :
    Calls Try.prog 27 #[.pointer (some ⟨a.B, 0, none⟩), .pointer (some ⟨x, 0, none⟩)] w fun e w' => e = .returned (.int .i64 0) ∧ ∃ v, TkAt w' { a with S := v } { k with sl := k.sl ++ [slot] } ∧ But (a.B :: a.S.ownBlock.toList) w w' ∧ ∀ g, v.ownBlock = some g → a.S.ownBlock = some g ∨ w.heap.size ≤ g := by
  obtain ⟨sa, sc, hS⟩ := owns_slice h.slots
  obtain ⟨-, c12, -⟩ := (tk_cells h.blk).2
  have cx := hx.cell
  have hr : Od.RowI w a.S k.sl := Od.RowI.of_owns h.slots
  have hq : ∀ m, Calls Try.prog 28 #[a.S, .int .i64 slot] (w.drewN m) fun e w' => e = .returned (.bool false) ∧ w' = w.drewN m := fun m => by
    have := contains_any a.S k.sl slot (w.drewN m) (hr.below (below_drewN (Below.refl _ _) m)) hl
    rwa [decide_eq_false hin] at this
  have hrow := h.slots
  rw [hS] at hq c12 hrow
  have H := Lib.hid h
  have HS := Lib.hid hS
  clear h hx hin hr hS
  go_enter Try.func27, Try.ntmps27
  go_wp2_with fail
  go_quiet (first | (go_at_call 28; with_reducible exact Calls.quiet_of_same (hq _)))
  clear hq
  have hb0 : But [] w (w.drewN (nq + 1)) := (But.refl [] w).drewN _
  have hrow : (w.drewN (nq + 1)).ownsRow 0 3 1 (.slice sa k.sl.length sc) k.sl.length (Od.I64 k.sl) := hrow
  have ka : ∀ o, ((w.drewN (nq + 1)).alloc o).cell? ⟨a.B, 12, none⟩ = some (.slice sa k.sl.length sc) := fun o => ((But.refl [] (w.drewN (nq + 1))).alloc o).cell c12 (by simp)
  go_wp2_with fail
  go_region_law (refine step_app_int (.tmp 14) (.tmp 16) rfl rfl rfl (hrow.alloc _) rfl (cell_one _ _ _) (by omega) ?_
                 intro v5 w5 hown hg hat
                 obtain ⟨gR, capR, rfl⟩ := ownsRow_succ hown
                 have hx := hold_blk H.out hb0 (by rw [HS.out]; exact hg)
                 have x3 := hx.cell (k := 12) rfl
                 have f3 := hx.frozen 12)
  all_goals
    obtain ⟨q1, q2, q3⟩ := hold_end H.out hb0 (by rw [HS.out]; exact hg) hown (by rw [HS.out]; exact hat)
    have Q1 := Lib.hid q1
    have Q2 := Lib.hid q2
    have Q3 := Lib.hid q3
    clear q1 q2 q3 hown hg hat hx ka hb0 hrow c12 cx
    go_wp2_with fail
    go_ret
    exact ⟨rfl, _, Q1.out, Q2.out, Q3.out⟩

theorem hold_of (t : Value) (i slot z : Int) (R : World → Prop) (w : World)
    (hq : Calls Try.prog 25 #[t, .int .i64 i, .func (.func 27) #[] #[.pointer (some ⟨w.heap.size, 0, none⟩)]] (w.alloc (.cells #[.int .i64 slot] 3)) fun e w' => e = .returned (.int .i64 z) ∧ R w') :
    Calls Try.prog 13 #[t, .int .i64 i, .int .i64 slot] w fun e w' => e = .returned (.int .i64 z) ∧ R w' := by
  go_enter Try.func13, Try.ntmps13
  go_wp2_with fail
  refine hq.mono ?_
  rintro e w1 ⟨rfl, hR⟩
  clear hq
  go_wp2_with fail
  go_ret
  exact ⟨rfl, hR⟩
theorem hold_have {A : Ad} {s : Tb} {i : Nat} {a : Ta} {k : Tk} (slot : Int) (w : World) (h : Tab w A s) (ha : A.ks[i]? = some a) (hk : s.ts[i]? = some k) (hl : k.sl.length ≤ 1024) (hin : slot ∈ k.sl) :
    Calls Try.prog 13 #[.pointer (some ⟨A.T, 0, none⟩), .int .i64 (i : Int), .int .i64 slot] w fun e w' => e = .returned (.int .i64 9) ∧ But [] w w' := by
  have b0 := Boxed.new w 3 (.int .i64 slot)
  have g : But [] w (w.alloc (.cells #[.int .i64 slot] 3)) := (But.refl _ _).alloc _
  refine hold_of _ _ _ _ _ w (ask_in 27 [.pointer (some ⟨w.heap.size, 0, none⟩)] _ _ _ (h.fresh g) ha (enters_of Try.func27 (by kernel_rfl) rfl) ?_)
  refine (hold1_have slot _ ((h.fresh g).each i a k ha hk) b0 hl hin).mono ?_
  rintro e w' ⟨rfl, q⟩
  exact ⟨rfl, g.next q⟩
theorem hold_room {A : Ad} {s : Tb} {i : Nat} {a : Ta} {k : Tk} (slot : Int) (w : World) (h : Tab w A s) (ha : A.ks[i]? = some a) (hk : s.ts[i]? = some k) (hl : k.sl.length ≤ 1024) (hin : slot ∉ k.sl) :
    Calls Try.prog 13 #[.pointer (some ⟨A.T, 0, none⟩), .int .i64 (i : Int), .int .i64 slot] w fun e w' => e = .returned (.int .i64 0) ∧ ∃ v, Tab w' { A with ks := A.ks.set i { a with S := v } } { s with ts := s.ts.set i { k with sl := k.sl ++ [slot] } } ∧ Turn w w' A { A with ks := A.ks.set i { a with S := v } } := by
  have b0 := Boxed.new w 3 (.int .i64 slot)
  have g : But [] w (w.alloc (.cells #[.int .i64 slot] 3)) := (But.refl _ _).alloc _
  refine hold_of _ _ _ _ _ w (ask_in 27 [.pointer (some ⟨w.heap.size, 0, none⟩)] _ _ _ (h.fresh g) ha (enters_of Try.func27 (by kernel_rfl) rfl) ?_)
  refine (hold1_room slot _ ((h.fresh g).each i a k ha hk) b0 hl hin).mono ?_
  rintro e w' ⟨rfl, v, q1, q2, q3⟩
  have hT := (h.fresh g).turn ha hk q2 (fun x hx => by
    rcases List.mem_cons.1 hx with rfl | hx
    · exact a.foot_B
    · exact Ta.foot_S (by simpa using hx)) q1 rfl (fun x hx => by
    simp only [Ta.foot, List.mem_cons, List.mem_append, Option.mem_toList] at hx ⊢
    rcases hx with e | e | e | e
    · exact .inl (.inl e)
    · exact .inl (.inr (.inl e))
    · exact .inl (.inr (.inr (.inl e)))
    · rcases q3 x e with q | q
      · exact .inl (.inr (.inr (.inr q)))
      · exact .inr q)
  exact ⟨rfl, v, hT.1, (Turn.refl g).trans hT.2⟩
end Go.Proofs.Ytamkmmpockmpfaa
