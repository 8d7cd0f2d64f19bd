/-
  ModelMoves: its walks, part 25: DStand DTurn DHead DWhere DServe.
-/
import Derived.Test.YtdijhgaaeifbfaaGreatQ00
import Derived.Test.YtdijhgaaeifbfaaGreatQ23
import Derived.Test.YtdijhgaaeifbfaaGreatQ24
set_option maxRecDepth 100000
set_option maxHeartbeats 12800000
namespace Go.Proofs.YtdijhgaaeifbfaaGreat.Mdl
open Go.RowKit
open Mch (grown_below below1 below_nx owns_slice' boxed_below)
def standDefer (E : Nat) : List Deferred := [{ target := Target.fn (.func 34) #[.pointer (some ⟨E, 0, none⟩)], args := #[] }]
theorem stand_dies (w w1 : World) (T : Array Value) (k x0 : Int) (f : Fra) (h4 : T[4]?.getD undef = .pointer (some ⟨w.heap.size, 0, none⟩)) (h5 : T[5]?.getD undef = .pointer (some ⟨w.heap.size + 1, 0, none⟩))
    (hB : Below w.heap.size w w1) (hF : FrAt w1 w.heap.size f) (hE : Boxed w1 (w.heap.size + 1) 28 (.int .i64 x0)) :
    bodyPostD Tryz.prog Tryz.f12 (fun e w' => e = .returned (.tuple #[fraV f, .int .i64 k]) /\ Below w.heap.size w w') (.panic [{ v := .iface 71 (.agg #[.int .i64 k]), recovered := false }]) { tmps := T, defers := standDefer (w.heap.size + 1) } w1 := by
  refine leaves_cons (f := 34) (args := #[.pointer (some ⟨w.heap.size + 1, 0, none⟩)]) (by simp) (by simp [go_sem]) ?_
  refine (stand_caught (w.heap.size + 1) k [] w1 x0 hE).mono ?_
  rintro e' u' w'' ⟨rfl, rfl, hE', hbt⟩
  have q := hE'.cell
  obtain ⟨c0, c1, c2, c3, c4, c5, c6, c7, c8, c9⟩ := fra_cells (but_on hF hbt (by simp))
  have hbb : Below w.heap.size w w'' := hB.trans (hbt.below hB.size (by simp))
  simp [Leaves, settle, results, Tryz.f12, go_sem, h4, h5, q, c0, c1, c2, c3, c4, c5, c6, c7, c8, c9, hbb]
theorem stand_ends (w w1 : World) (T : Array Value) (k : Int) (f : Fra) (h4 : T[4]?.getD undef = .pointer (some ⟨w.heap.size, 0, none⟩)) (h5 : T[5]?.getD undef = .pointer (some ⟨w.heap.size + 1, 0, none⟩))
    (hB : Below w.heap.size w w1) (hF : FrAt w1 w.heap.size f) (hE : Boxed w1 (w.heap.size + 1) 28 (.int .i64 k)) :
    bodyPostD Tryz.prog Tryz.f12 (fun e w' => e = .returned (.tuple #[fraV f, .int .i64 k]) /\ Below w.heap.size w w') .ret { tmps := T, defers := standDefer (w.heap.size + 1) } w1 := by
  refine leaves_cons (f := 34) (args := #[.pointer (some ⟨w.heap.size + 1, 0, none⟩)]) (by simp) (by simp [go_sem]) ?_
  refine (stand_idle (w.heap.size + 1) w1).mono ?_
  rintro e' u' w'' ⟨rfl, rfl, hbt⟩
  have q := (boxed_below hE hbt).cell
  obtain ⟨c0, c1, c2, c3, c4, c5, c6, c7, c8, c9⟩ := fra_cells (hF.later hbt hF.lt)
  have hbb : Below w.heap.size w w'' := below_next hB hbt (Nat.le_refl _)
  simp [Leaves, settle, results, Tryz.f12, go_sem, h4, h5, q, c0, c1, c2, c3, c4, c5, c6, c7, c8, c9, hbb]
theorem stand_none {o : Nat -> Nat} {B : Nat} {M : Mod} (t : Int) (w : World) (h : Md w o B M) (hl : M.T.length <= 1000) (hn : ∀ x, M.task t = some x -> x.s ≠ 1) :
    Calls Tryz.prog 12 #[ptrV B, .int .i64 t] w fun e w' => e = .returned (.tuple #[fraV Fra.zero, .int .i64 3]) /\ Below w.heap.size w w' := by
  obtain ⟨w2, hw2⟩ : ∃ w2, w2 = (w.alloc (.cells (fraA Fra.zero) 46)).alloc (.cells #[.int .i64 0] 28) := ⟨_, rfl⟩
  have hB2 : Below w.heap.size w w2 := by rw [hw2]; exact below2 w _ _
  have hF2 : FrAt w2 w.heap.size Fra.zero := by rw [hw2]; exact (blk_new w _ _).alloc _
  have hE2 : Boxed w2 (w.heap.size + 1) 28 (.int .i64 0) := by
    have h1 := Boxed.new (w.alloc (.cells (fraA Fra.zero) 46)) 28 (.int .i64 0)
    rw [World.size_alloc] at h1
    rw [hw2]; exact h1
  have htk := task_any t w2 (h.below hB2) hl
  obtain ⟨y, hy⟩ : ∃ y, y = (M.task t).getD Pla.zero := ⟨_, rfl⟩
  obtain ⟨b, hb⟩ : ∃ b, b = (M.task t).isSome := ⟨_, rfl⟩
  have hys : b = true -> y.s ≠ 1 := fun e => by
    cases hx : M.task t with
    | none => rw [hb, hx] at e; cases e
    | some x => rw [hy, hx]; exact hn x hx
  rw [<- hy, <- hb] at htk
  have hmf : ∀ (fn : Fn) (first cap : Array Value) (w : World), (Instr.makeFunc fn first cap).run Tryz.prog w = .ok (.func fn first cap) w := fun _ _ _ _ => rfl
  clear hy hb h hn
  go_enter_defers Tryz.func12, Tryz.ntmps12
  go_wp2_with fail
  rw [show (#[.int .i64 0, .int .i64 0, .int .i64 0, .int .i64 0, .int .i64 0, .int .i64 0, .int .i64 0, .int .i64 0, .int .i64 0, .int .i64 0] : Array Value) = fraA Fra.zero from rfl, <- hw2]
  clear hw2
  refine (mneed_ok 1 w2).mono ?_
  rintro e w2 ⟨rfl, rfl⟩
  go_wp2_with fail
  refine htk.mono ?_
  rintro e w3 ⟨rfl, hb3⟩
  obtain ⟨w4, hw4⟩ : ∃ w4, w4 = w3.alloc (.cells (plaA y) 52) := ⟨_, rfl⟩
  have hb4 : Below w2.heap.size w2 w4 := by rw [hw4]; exact Mch.Below.al hb3 hb3.size _
  have hX : PlAt w4 w3.heap.size y := by rw [hw4]; exact blk_new w3 _ _
  have c0 := (pla_cells hX).1
  have hF4 := hF2.later hb4 hF2.lt
  have hE4 := boxed_below hE2 hb4
  have hB4 := below_nx hB2 hb4 (Nat.le_refl _)
  have hwe : w4 = w3.alloc (.cells #[.int .u8 (y.s : Int), .int .i64 y.f.c, .int .i64 y.f.p, .int .i64 y.f.r0, .int .i64 y.f.r1, .int .i64 y.f.r2, .int .i64 y.f.r3, .int .i64 y.f.r4, .int .i64 y.f.r5, .int .i64 y.f.r6, .int .i64 y.f.r7] 52) := hw4
  rw [hw4] at c0
  have HW := Lib.hid hw4
  clear hw4 hwe htk hF2 hE2 hb3 hb4 hX
  cases b with
  | true =>
    have hn1 : ((y.s : Int) == 1) = false := by have := hys rfl; simp; omega
    clear hys
    go_wp2_with fail
    rw [<- HW.out]
    refine (mneed_bad 3 w4).mono ?_
    rintro e w4 ⟨rfl, rfl⟩
    go_wp2_with fail
    exact stand_dies w _ _ 3 0 Fra.zero rfl rfl hB4 hF4 hE4
  | false =>
    clear hys
    go_wp2_with fail
    rw [<- HW.out]
    refine (mneed_bad 3 w4).mono ?_
    rintro e w4 ⟨rfl, rfl⟩
    go_wp2_with fail
    exact stand_dies w _ _ 3 0 Fra.zero rfl rfl hB4 hF4 hE4
theorem stand_runs {o : Nat -> Nat} {B : Nat} {M : Mod} (t : Int) (w : World) (h : Md w o B M) (hl : M.T.length <= 1000) (hm : checkW M.p = none) (hs : Small M.p) {y : Pla} (hy : M.task t = some y) (h1 : y.s = 1) {g : Fra} {q k : Int} (hr : runT M.p y.f 65536 = (g, q, k)) :
    Calls Tryz.prog 12 #[ptrV B, .int .i64 t] w fun e w' => e = .returned (.tuple #[fraV g, .int .i64 k]) /\ Below w.heap.size w w' := by
  obtain ⟨w2, hw2⟩ : ∃ w2, w2 = (w.alloc (.cells (fraA Fra.zero) 46)).alloc (.cells #[.int .i64 0] 28) := ⟨_, rfl⟩
  have hB2 : Below w.heap.size w w2 := by rw [hw2]; exact below2 w _ _
  have hF2 : FrAt w2 w.heap.size Fra.zero := by rw [hw2]; exact (blk_new w _ _).alloc _
  have hE2 : Boxed w2 (w.heap.size + 1) 28 (.int .i64 0) := by
    have h1 := Boxed.new (w.alloc (.cells (fraA Fra.zero) 46)) 28 (.int .i64 0)
    rw [World.size_alloc] at h1
    rw [hw2]; exact h1
  have htk := task_any t w2 (h.below hB2) hl
  rw [hy] at htk
  simp only [Option.getD_some, Option.isSome_some] at htk
  have hn1 : ((y.s : Int) == 1) = true := by rw [h1]; rfl
  have HR := Lib.hid hr
  have hmf : ∀ (fn : Fn) (first cap : Array Value) (w : World), (Instr.makeFunc fn first cap).run Tryz.prog w = .ok (.func fn first cap) w := fun _ _ _ _ => rfl
  clear hy hr h1
  go_enter_defers Tryz.func12, Tryz.ntmps12
  go_wp2_with fail
  rw [show (#[.int .i64 0, .int .i64 0, .int .i64 0, .int .i64 0, .int .i64 0, .int .i64 0, .int .i64 0, .int .i64 0, .int .i64 0, .int .i64 0] : Array Value) = fraA Fra.zero from rfl, <- hw2]
  clear hw2
  refine (mneed_ok 1 w2).mono ?_
  rintro e w2 ⟨rfl, rfl⟩
  go_wp2_with fail
  refine htk.mono ?_
  rintro e w3 ⟨rfl, hb3⟩
  obtain ⟨w4, hw4⟩ : ∃ w4, w4 = w3.alloc (.cells (plaA y) 52) := ⟨_, rfl⟩
  have hb4 : Below w2.heap.size w2 w4 := by rw [hw4]; exact Mch.Below.al hb3 hb3.size _
  have hX : PlAt w4 w3.heap.size y := by rw [hw4]; exact blk_new w3 _ _
  have c0 := (pla_cells hX).1
  have hF4 := hF2.later hb4 hF2.lt
  have hE4 := boxed_below hE2 hb4
  have hB4 := below_nx hB2 hb4 (Nat.le_refl _)
  obtain ⟨lo, hi, v1, v2, v3, vT, vC, Cs, hM⟩ := h.below hB4
  rw [hw4] at c0
  have HW := Lib.hid hw4
  clear hw4 htk hF2 hE2 hb3 hb4 h
  go_wp2_with fail
  rw [<- HW.out] at c0 ⊢
  clear HW
  refine (mneed_ok 3 w4).mono ?_
  rintro e w4 ⟨rfl, rfl⟩
  have m0 := hM.p1
  have m1 := hM.p2
  have m2 := hM.p3
  obtain ⟨x0, x1, x2, x3, x4, x5, x6, x7, x8, x9, x10⟩ := pla_cells hX
  have hrun := run_any w4.drew hM.drew.prog hs hm y.f 65536
  rw [HR.out] at hrun
  have hkF : ∀ W, Below w4.drew.heap.size w4.drew W -> FrAt W w.heap.size Fra.zero := fun W hb => Blk.later (show Blk w4.drew w.heap.size _ _ from hF4) hb hF4.lt

  have d0 : w4.drew.cell? ⟨B, 0, none⟩ = _ := m0
  have d1 : w4.drew.cell? ⟨B, 1, none⟩ = _ := m1
  have d2 : w4.drew.cell? ⟨B, 2, none⟩ = _ := m2
  have y1 : w4.drew.cell? ⟨w3.heap.size, 1, none⟩ = _ := x1
  have y2 : w4.drew.cell? ⟨w3.heap.size, 2, none⟩ = _ := x2
  have y3 : w4.drew.cell? ⟨w3.heap.size, 3, none⟩ = _ := x3
  have y4 : w4.drew.cell? ⟨w3.heap.size, 4, none⟩ = _ := x4
  have y5 : w4.drew.cell? ⟨w3.heap.size, 5, none⟩ = _ := x5
  have y6 : w4.drew.cell? ⟨w3.heap.size, 6, none⟩ = _ := x6
  have y7 : w4.drew.cell? ⟨w3.heap.size, 7, none⟩ = _ := x7
  have y8 : w4.drew.cell? ⟨w3.heap.size, 8, none⟩ = _ := x8
  have y9 : w4.drew.cell? ⟨w3.heap.size, 9, none⟩ = _ := x9
  have y10 : w4.drew.cell? ⟨w3.heap.size, 10, none⟩ = _ := x10
  go_wp2_with fail
  go_cut [4, 5, 8, 9] from 27 to 37 (fun fv ev nv kv W => fv = .pointer (some ⟨w.heap.size, 0, none⟩) /\ ev = .pointer (some ⟨w.heap.size + 1, 0, none⟩) /\ kv = .int .i64 k /\ FrAt W w.heap.size g /\ Boxed W (w.heap.size + 1) 28 (.int .i64 0) /\ Below w.heap.size w W)
  case first =>
    refine Mch.wp_onlyN ?_
    go_region_with (go_at_call 35; with_reducible refine hrun.mono ?_; rintro e w5 ⟨rfl, hb5⟩; have hF5 := hkF w5 hb5; obtain ⟨z0, z1, z2, z3, z4, z5, z6, z7, z8, z9⟩ := fra_cells hF5; have zf := hF5.frozen)
    all_goals simp only [Mch.onlyN]
    all_goals go_wp2_with fail
    all_goals go_meet
    all_goals obtain ⟨E1, E2⟩ := sto10 hF5 (.int .i64 g.c) (.int .i64 g.p) (.int .i64 g.r0) (.int .i64 g.r1) (.int .i64 g.r2) (.int .i64 g.r3) (.int .i64 g.r4) (.int .i64 g.r5) (.int .i64 g.r6) (.int .i64 g.r7)
    all_goals have hE5 : Boxed w5 (w.heap.size + 1) 28 (.int .i64 0) := boxed_below (show Boxed w4.drew (w.heap.size + 1) _ _ from hE4) hb5
    all_goals have hB5 : Below w.heap.size w w5 := hB4.drew.trans (hb5.mono (show w.heap.size <= w4.heap.size from hB4.size))
    all_goals exact ⟨rfl, rfl, rfl, E1, E2.boxed hE5 (by simp), hB5.trans (E2.below hB5.size (by simp))⟩
  case rest =>
    obtain ⟨rfl, rfl, rfl, hF, hE, hB⟩ := hcut
    clear hrun hkF HR hM hX m0 m1 m2 x0 x1 x2 x3 x4 x5 x6 x7 x8 x9 x10 d0 d1 d2 y1 y2 y3 y4 y5 y6 y7 y8 y9 y10 c0
    by_cases hk : k = 0
    · subst hk
      obtain ⟨z0, z1, z2, z3, z4, z5, z6, z7, z8, z9⟩ := fra_cells hF
      have zf := hF.frozen
      have ec := hE.cell
      have ef := hE.frozen
      obtain ⟨E1, E2⟩ := sto10 hF (.int .i64 g.c) (.int .i64 g.p) (.int .i64 g.r0) (.int .i64 g.r1) (.int .i64 g.r2) (.int .i64 g.r3) (.int .i64 g.r4) (.int .i64 g.r5) (.int .i64 g.r6) (.int .i64 g.r7)
      have hE2 := (E2.boxed hE (by simp)).set (.int .i64 0)
      have hF2 := E1.beside (p := ⟨w.heap.size + 1, 0, none⟩) (by simp) (.int .i64 0)
      have hB2' := (hB.trans (E2.below hB.size (by simp))).setCell (p := ⟨w.heap.size + 1, 0, none⟩) (by simp) (.int .i64 0)
      go_wp2_with fail
      refine (mneed_ok 0 wc).mono ?_
      rintro e wc ⟨rfl, rfl⟩
      go_wp2_with fail
      exact stand_ends w _ _ 0 g rfl rfl hB2' hF2 hE2
    · have hk' : (k == 0) = false := by simpa using hk
      clear hk
      go_wp2_with fail
      refine (mneed_bad k wc).mono ?_
      rintro e wc ⟨rfl, rfl⟩
      go_wp2_with fail
      exact stand_dies w wc _ k 0 g rfl rfl hB hF hE
theorem stand_any {o : Nat -> Nat} {B : Nat} {M : Mod} (t : Int) (w : World) (h : Md w o B M) (hl : M.T.length <= 1000) (hm : checkW M.p = none) (hs : Small M.p) :
    Calls Tryz.prog 12 #[ptrV B, .int .i64 t] w fun e w' => e = .returned (.tuple #[fraV (M.stand t).1, .int .i64 (M.stand t).2]) /\ Below w.heap.size w w' := by
  unfold Mod.stand
  cases hy : M.task t with
  | none => exact stand_none t w h hl (fun x hx => by rw [hy] at hx; cases hx)
  | some y =>
    by_cases h1 : y.s = 1
    · simp only [h1, if_true]
      exact stand_runs t w h hl hm hs hy h1 rfl
    · simp only [h1, if_false]
      exact stand_none t w h hl (fun x hx => by rw [hy] at hx; cases hx; exact h1)
open Go.RowKit
open Mch (Chn Frm Fw Fl)
theorem owns_set {W : World} {b : Nat} {e : TypeId} {s n : Nat} {v : Value} {xs : List Value} {g : Nat} (h : W.ownsRow b e s v n xs) (hv : v.ownBlock = some g) (k : Nat) (u : Value) :
    (W.setCell ⟨g, k, none⟩ u).ownsRow b e s v n (xs.set k u) := by
  obtain ⟨hl, h⟩ := h
  refine ⟨by rw [List.length_set]; exact hl, ?_⟩
  rcases h with ⟨rfl, _⟩ | ⟨g', cap, cur, rfl, hg, hb, h1, h2, h3, h4⟩
  · simp [Value.ownBlock] at hv
  · obtain rfl : g' = g := by simpa [Value.ownBlock] using hv
    refine .inr ⟨g', cap, cur.setIfInBounds k u, rfl, hg, heap_set_same u hb, h1, h2, by simpa using h3, ?_⟩
    rw [<- h4, Array.toList_setIfInBounds, List.take_set]
def putFrom (W : World) (g : Nat) : Nat -> List Value -> World
  | _, [] => W
  | k, c :: cs => putFrom (W.setCell ⟨g, k, none⟩ c) g (k + 1) cs
def setFrom {β : Type} : List β -> Nat -> List β -> List β
  | xs, _, [] => xs
  | xs, k, c :: cs => setFrom (xs.set k c) (k + 1) cs
theorem setFrom_eq {β : Type} (cs : List β) : ∀ (xs : List β) (k : Nat), k + cs.length <= xs.length -> setFrom xs k cs = xs.take k ++ cs ++ xs.drop (k + cs.length) := by
  induction cs with
  | nil => intro xs k _; simp [setFrom]
  | cons c cs ih =>
    intro xs k h
    rw [List.length_cons] at h
    rw [setFrom, ih _ _ (by rw [List.length_set]; omega), List.length_cons]
    have h1 : (xs.set k c).take (k + 1) = xs.take k ++ [c] := by
      rw [List.take_add_one, List.getElem?_set_self (by omega), List.take_set_of_le (Nat.le_refl _)]; rfl
    have h2 : (xs.set k c).drop (k + 1 + cs.length) = xs.drop (k + (cs.length + 1)) := by
      rw [List.drop_set_of_lt (by omega)]; congr 1; omega
    rw [h1, h2]
    simp
theorem owns_putFrom {b : Nat} {e : TypeId} {s n : Nat} {v : Value} {g : Nat} (hv : v.ownBlock = some g) (cs : List Value) : ∀ {W : World} {xs : List Value} (k : Nat), W.ownsRow b e s v n xs ->
    (putFrom W g k cs).ownsRow b e s v n (setFrom xs k cs) := by
  induction cs with
  | nil => intro W xs k h; exact h
  | cons c cs ih => intro W xs k h; exact ih _ (owns_set h hv k c)
theorem putFrom_frm {g : Nat} {F : Nat -> Prop} (hF : F g) (cs : List Value) : ∀ (W : World) (k : Nat), Frm F W (putFrom W g k cs) := by
  induction cs with
  | nil => intro W k; exact Frm.refl _ _
  | cons c cs ih => intro W k; exact Mch.Frm.trans_new (Mch.Frm.set (p := ⟨g, k, none⟩) W c hF) (ih _ _) (fun i hi => .inl hi)
theorem flat_set {α : Type} (f : α -> List Value) (n : Nat) (hf : ∀ x, (f x).length = n) (x : α) : ∀ (l : List α) (i : Nat), i < l.length -> (l.set i x).flatMap f = setFrom (l.flatMap f) (i * n) (f x) := by
  intro l i hi
  rw [setFrom_eq _ _ _ (by rw [flat_len f n hf, hf]; have := Nat.mul_le_mul_right n hi; rw [Nat.succ_mul] at this; exact this)]
  induction l generalizing i with
  | nil => simp at hi
  | cons y t ih =>
    cases i with
    | zero =>
      simp only [List.set_cons_zero, List.flatMap_cons, Nat.zero_mul, List.take_zero, List.nil_append, Nat.zero_add]
      rw [List.drop_append_of_le_length (by rw [hf, hf]; exact Nat.le_refl _), List.drop_of_length_le (by rw [hf, hf]; exact Nat.le_refl _), List.nil_append]
    | succ i =>
      have hi' : i < t.length := by simpa using hi
      simp only [List.set_cons_succ, List.flatMap_cons]
      have e1 : (f y ++ List.flatMap f t).take ((i + 1) * n) = f y ++ (List.flatMap f t).take (i * n) := by
        rw [List.take_append, List.take_of_length_le (by rw [hf, Nat.succ_mul]; omega), hf, Nat.succ_mul, Nat.add_sub_cancel]
      have e2 : (f y ++ List.flatMap f t).drop ((i + 1) * n + (f x).length) = (List.flatMap f t).drop (i * n + (f x).length) := by
        rw [List.drop_append, List.drop_of_length_le (by rw [hf, hf, Nat.succ_mul]; omega), hf, hf, Nat.succ_mul, List.nil_append]
        congr 1; omega
      rw [ih i hi', e1, e2]
      simp
open Go.RowKit
open Mch (Chn Frm Fw Fl)
section
variable {W W' : World} {o : Nat -> Nat} {B lo hi : Nat} {v1 v2 v3 vT vC : Value} {Cs : List Nat} {M : Mod}
theorem MdAt.tasked (h : MdAt W o B lo hi v1 v2 v3 vT vC Cs M) {i : Nat} (hi' : i < M.T.length) (x : Pla) {g : Nat} (hv : vT.ownBlock = some g) :
    MdAt (putFrom W g (i * 11) x.cellsL) o B lo hi v1 v2 v3 vT vC Cs { M with T := M.T.set i x } /\ Frm (fun k => o k = 3) W (putFrom W g (i * 11) x.cellsL) := by
  have hF : Frm (fun k => o k = 3) W (putFrom W g (i * 11) x.cellsL) := putFrom_frm (F := fun k => o k = 3) (h.town g hv) _ _ _
  refine ⟨?_, hF⟩
  exact {
    head := (hF.block B h.head.lt (by rw [h.hown]; omega)).trans h.head
    hown := h.hown
    prog := keep_prog h.prog hF (fun k h1 h2 => by rw [h.pown k h1 h2]; omega)
    pown := h.pown
    tasks := by
      have := owns_putFrom hv x.cellsL (i * 11) h.tasks
      unfold flatP at this
      rw [<- flat_set Pla.cellsL 11 pla_len x M.T i hi'] at this
      simpa [flatP] using this
    town := h.town
    chans := keep_row h.chans hF (fun g' e => by rw [h.cown g' e]; omega)
    cown := h.cown
    len := h.len
    chs := fun j C c hC hc => keep_chn (h.chs j C c hC hc) hF (fun k hk => by rw [hk]; omega)
    low := fun k hk => Nat.lt_of_lt_of_le (h.low k hk) hF.size }
theorem MdAt.of_head (h : MdAt W o B lo hi v1 v2 v3 vT vC Cs M) {M' : Mod} (hF : Frm (fun k => o k = 1) W W') (hh : Blk W' B 84 (mdCells v1 v2 v3 vT vC M')) (hp : M'.p = M.p) (hT : M'.T = M.T) (hC : M'.C = M.C) :
    MdAt W' o B lo hi v1 v2 v3 vT vC Cs M' where
  head := hh
  hown := h.hown
  prog := by rw [hp]; exact keep_prog h.prog hF (fun k h1 h2 => by rw [h.pown k h1 h2]; omega)
  pown := h.pown
  tasks := by rw [hT]; exact keep_row h.tasks hF (fun g' e => by rw [h.town g' e]; omega)
  town := h.town
  chans := keep_row h.chans hF (fun g' e => by rw [h.cown g' e]; omega)
  cown := h.cown
  len := by rw [hC]; exact h.len
  chs := fun j C c hCj hc => keep_chn (h.chs j C c hCj (by rw [<- hC]; exact hc)) hF (fun k hk => by rw [hk]; omega)
  low := fun k hk => Nat.lt_of_lt_of_le (h.low k hk) hF.size
theorem MdAt.blamed (h : MdAt W o B lo hi v1 v2 v3 vT vC Cs M) (t e : Int) :
    MdAt ((W.setCell ⟨B, 12, none⟩ (.int .i64 t)).setCell ⟨B, 13, none⟩ (.int .i64 e)) o B lo hi v1 v2 v3 vT vC Cs { M with who := t, e := e } /\ Frm (fun k => o k = 1) W ((W.setCell ⟨B, 12, none⟩ (.int .i64 t)).setCell ⟨B, 13, none⟩ (.int .i64 e)) := by
  have hF : Frm (fun k => o k = 1) W ((W.setCell ⟨B, 12, none⟩ (.int .i64 t)).setCell ⟨B, 13, none⟩ (.int .i64 e)) :=
    Mch.Frm.trans_new (Mch.Frm.set (p := ⟨B, 12, none⟩) W _ h.hown) (Mch.Frm.set (F := fun k => o k = 1) (p := ⟨B, 13, none⟩) _ _ h.hown) (fun i hi => .inl hi)
  exact ⟨h.of_head hF (by have := (h.head.set 12 (.int .i64 t)).set 13 (.int .i64 e); simpa [mdCells] using this) rfl rfl rfl, hF⟩
theorem MdAt.closer (h : MdAt W o B lo hi v1 v2 v3 vT vC Cs M) {i : Nat} (hi' : i < 6) (t : Int) :
    MdAt (W.setCell ⟨B, 6 + i, none⟩ (.int .i64 t)) o B lo hi v1 v2 v3 vT vC Cs { M with K := fun j => if j = i then t else M.K j } /\ Frm (fun k => o k = 1) W (W.setCell ⟨B, 6 + i, none⟩ (.int .i64 t)) := by
  have hF : Frm (fun k => o k = 1) W (W.setCell ⟨B, 6 + i, none⟩ (.int .i64 t)) := Mch.Frm.set (p := ⟨B, 6 + i, none⟩) W _ h.hown
  refine ⟨h.of_head hF ?_ rfl rfl rfl, hF⟩
  have := h.head.set (6 + i) (.int .i64 t)
  have e : i = 0 \/ i = 1 \/ i = 2 \/ i = 3 \/ i = 4 \/ i = 5 := by omega
  rcases e with rfl | rfl | rfl | rfl | rfl | rfl <;> simpa [mdCells] using this
end
open Go.RowKit
open Mch (below1 below_nx owns_slice' boxed_below)
theorem where_any {o : Nat -> Nat} {B : Nat} {M : Mod} (t : Int) (w : World) (h : Md w o B M) (hl : M.T.length <= 1000) (hm : checkW M.p = none) (hs : Small M.p) (ht : 0 <= t /\ t < (M.T.length : Int)) :
    Calls Tryz.prog 115 #[ptrV B, .int .i64 t] w fun e w' => e = .returned (fraV (M.where_ t)) /\ Below w.heap.size w w' := by
  obtain ⟨w1, hw1⟩ : ∃ w1, w1 = w.alloc (.cells #[.int .i64 0, .int .i64 0, .int .i64 0, .int .i64 0, .int .i64 0, .int .i64 0, .int .i64 0, .int .i64 0, .int .i64 0, .int .i64 0] 46) := ⟨_, rfl⟩
  have hB1 : Below w.heap.size w w1 := by rw [hw1]; exact below1 w _
  have hZ1 : Blk w1 w.heap.size 46 #[.int .i64 0, .int .i64 0, .int .i64 0, .int .i64 0, .int .i64 0, .int .i64 0, .int .i64 0, .int .i64 0, .int .i64 0, .int .i64 0] := by rw [hw1]; exact blk_new w _ _
  have hst := stand_any t w1 (h.below hB1) hl hm hs
  obtain ⟨f, hf⟩ : ∃ f, f = (M.stand t).1 := ⟨_, rfl⟩
  obtain ⟨k, hk⟩ : ∃ k, k = (M.stand t).2 := ⟨_, rfl⟩
  rw [<- hf, <- hk] at hst
  obtain ⟨i, rfl⟩ : ∃ i : Nat, t = (i : Int) := ⟨t.toNat, by omega⟩
  obtain ⟨y, hy⟩ : ∃ y, M.T[i]? = some y := ⟨_, List.getElem?_eq_getElem (by omega)⟩
  have hW : M.where_ (i : Int) = if k = 0 then f else y.f := by
    unfold Mod.where_
    rw [<- hf, <- hk, Int.toNat_natCast, hy]; rfl
  rw [hW]
  obtain ⟨Rf, hRf⟩ : ∃ Rf, Rf = if k = 0 then f else y.f := ⟨_, rfl⟩
  rw [<- hRf]
  have HR := Lib.hid hRf
  clear hRf
  have q0 : (0 : Int) <= (i : Int) := by omega
  have q1 : (i : Int) < (M.T.length : Int) := ht.2
  clear hf hk hW ht
  go_enter Tryz.func115, Tryz.ntmps115
  go_upto_region 1 with fail
  rw [<- hw1]
  clear hw1
  go_wp2_with fail
  refine hst.mono ?_
  clear hst
  rintro e w2 ⟨rfl, hb2⟩
  have hB2 := below_nx hB1 hb2 (Nat.le_refl _)
  have hZ2 := Blk.later hZ1 hb2 hZ1.lt
  go_upto_region 2 with fail
  obtain ⟨w3, hw3⟩ : ∃ w3, w3 = w2.alloc (.cells (fraA f) 46) := ⟨_, rfl⟩
  have hB3 : Below w.heap.size w w3 := by rw [hw3]; exact Mch.Below.al hB2 hB2.size _
  have hZ3 : Blk w3 w.heap.size 46 #[.int .i64 0, .int .i64 0, .int .i64 0, .int .i64 0, .int .i64 0, .int .i64 0, .int .i64 0, .int .i64 0, .int .i64 0, .int .i64 0] := by rw [hw3]; exact Blk.alloc hZ2 _
  have hF3 : FrAt w3 w2.heap.size f := by rw [hw3]; exact blk_new w2 _ _
  rw [<- hw3]
  clear hw3 hZ1 hZ2 hb2 hB1
  by_cases hk : k = 0
  · subst hk
    obtain ⟨y0, y1, y2, y3, y4, y5, y6, y7, y8, y9⟩ := fra_cells hF3
    have HR' := HR.out
    rw [if_pos rfl] at HR'
    have HR2 := Lib.hid HR'
    clear hy HR HR'
    go_wp2_with (refine wpList_put rfl _ _ _ rfl w.heap.size (fraA f) rfl rfl hZ3 szFra rfl (by simp [Value.oneCell']) ?_; intro w5 E1 E2; go_frame)
    rw [HR2.out]
    exact bodyPost_ret (v := fraV f) (results_cell_row rfl _ _ w.heap.size 46 _ (0, 0) _ rfl E1 Tryz.underlying46 rfl szFra) rfl ⟨rfl, hB3.trans (E2.below hB3.size (by simp))⟩
  · have hk' : (k == 0) = false := by simpa using hk
    have HR' := HR.out
    rw [if_neg hk] at HR'
    have HR2 := Lib.hid HR'
    clear HR HR'
    obtain ⟨lo, hi, v1, v2, v3, vT, vC, Cs, h3⟩ := h.below hB3
    obtain ⟨g, cap, rfl, hc⟩ := h3.place hy
    have tk := h3.tk
    have hd : Blk w3.drew w.heap.size 46 #[.int .i64 0, .int .i64 0, .int .i64 0, .int .i64 0, .int .i64 0, .int .i64 0, .int .i64 0, .int .i64 0, .int .i64 0, .int .i64 0] := hZ3
    have p1 : w3.cell? ⟨g, i * 11 + 1, none⟩ = some (.int .i64 y.f.c) := hc 1 _ rfl
    have p2 : w3.cell? ⟨g, i * 11 + 1 + 1, none⟩ = some (.int .i64 y.f.p) := hc 2 _ rfl

    have p3 : w3.cell? ⟨g, i * 11 + 1 + 2, none⟩ = some (.int .i64 y.f.r0) := hc 3 _ rfl
    have p4 : w3.cell? ⟨g, i * 11 + 1 + 3, none⟩ = some (.int .i64 y.f.r1) := hc 4 _ rfl
    have p5 : w3.cell? ⟨g, i * 11 + 1 + 4, none⟩ = some (.int .i64 y.f.r2) := hc 5 _ rfl
    have p6 : w3.cell? ⟨g, i * 11 + 1 + 5, none⟩ = some (.int .i64 y.f.r3) := hc 6 _ rfl
    have p7 : w3.cell? ⟨g, i * 11 + 1 + 6, none⟩ = some (.int .i64 y.f.r4) := hc 7 _ rfl
    have p8 : w3.cell? ⟨g, i * 11 + 1 + 7, none⟩ = some (.int .i64 y.f.r5) := hc 8 _ rfl
    have p9 : w3.cell? ⟨g, i * 11 + 1 + 8, none⟩ = some (.int .i64 y.f.r6) := hc 9 _ rfl
    have p10 : w3.cell? ⟨g, i * 11 + 1 + 9, none⟩ = some (.int .i64 y.f.r7) := hc 10 _ rfl
    clear hk hc h3 hy
    go_wp2_with (refine wpList_put rfl _ _ _ rfl w.heap.size (fraA y.f) rfl rfl hZ3 szFra rfl (by simp [Value.oneCell']) ?_; intro w5 E1 E2; go_frame)
    rw [HR2.out]
    exact bodyPost_ret (v := fraV y.f) (results_cell_row rfl _ _ w.heap.size 46 _ (0, 0) _ rfl E1 Tryz.underlying46 rfl szFra) rfl ⟨rfl, hB3.trans (E2.below hB3.size (by simp))⟩
open Go.RowKit
open Mch (Wt Gt whatK putL Chn Frm Fw Fl sel likeW)
theorem serve_any {F : Nat -> Prop} {C : Nat} (c : Cha) (s : Bool) (val : Int) (w : World) (h : Chn w F C c.m c.cl c.buf c.S c.R) (hlS : c.S.length <= 1000) (hlR : c.R.length <= 1000) :
    Calls Tryz.prog 109 #[.pointer (some ⟨C, 0, none⟩), .bool s, .int .i64 val] w fun e w' => e = .returned (.tuple #[Gt.val (c.got s val), .int .i64 (c.gotE s)]) /\
      Chn w' (Fw F w) C (c.serve s val).m (c.serve s val).cl (c.serve s val).buf (c.serve s val).S (c.serve s val).R /\ Frm F w w' := by
  obtain ⟨m, cl, buf, S, R⟩ := c
  simp only at h hlS hlR
  cases s with
  | true =>
    cases cl with
    | true =>
      have hw : whatK true m buf S R true = 1 := by simp [whatK, Mch.toSendK]
      have := Mch.serve_none true val w h hlS hlR 1 hw (.inl rfl)
      simpa [Cha.got, Cha.gotE, Cha.serve, Cha.what, hw] using this
    | false =>
      cases R with
      | cons x r =>
        have hw : whatK false m buf S (x :: r) true = 2 := by simp [whatK, Mch.toSendK]
        have := Mch.serve_hand val w h hlS hlR rfl
        simpa [Cha.got, Cha.gotE, Cha.serve, Cha.what, hw, headW] using this
      | nil =>
        by_cases hlt : buf.length < m
        · have hw : whatK false m buf S [] true = 3 := by simp [whatK, Mch.toSendK, hlt]
          have := Mch.serve_put val w h hlS hlR rfl hlt
          simpa [Cha.got, Cha.gotE, Cha.serve, Cha.what, hw, headW] using this
        · have hw : whatK false m buf S [] true = 6 := by simp [whatK, Mch.toSendK, hlt]
          have := Mch.serve_none true val w h hlS hlR 6 hw (.inr rfl)
          simpa [Cha.got, Cha.gotE, Cha.serve, Cha.what, hw] using this
  | false =>
    cases S with
    | cons x r =>
      by_cases hm : m = 0
      · have hw : whatK cl m buf (x :: r) R false = 2 := by simp [whatK, Mch.toRecvK, hm]
        have := Mch.serve_fetch val w h hlS hlR hm
        simpa [Cha.got, Cha.gotE, Cha.serve, Cha.what, hw, headW] using this
      · have hw : whatK cl m buf (x :: r) R false = 4 := by simp [whatK, Mch.toRecvK, hm]
        have := Mch.serve_refill val w h hlS hlR hm (y := buf.head?.getD 0) rfl
        simpa [Cha.got, Cha.gotE, Cha.serve, Cha.what, hw, headW] using this
    | nil =>
      cases buf with
      | cons y b =>
        have hw : whatK cl m (y :: b) [] R false = 3 := by simp [whatK, Mch.toRecvK]
        have := Mch.serve_get val w h hlS hlR (by simp) (y := y) rfl
        simpa [Cha.got, Cha.gotE, Cha.serve, Cha.what, hw, headW] using this
      | nil =>
        cases cl with
        | true =>
          have hw : whatK true m [] [] R false = 5 := by simp [whatK, Mch.toRecvK]
          have := Mch.serve_zero val w h hlS hlR rfl rfl
          simpa [Cha.got, Cha.gotE, Cha.serve, Cha.what, hw, headW] using this
        | false =>
          have hw : whatK false m [] [] R false = 6 := by simp [whatK, Mch.toRecvK]
          have := Mch.serve_none false val w h hlS hlR 6 hw (.inr rfl)
          simpa [Cha.got, Cha.gotE, Cha.serve, Cha.what, hw] using this
theorem likeB_iff (x : Wt) (l : List Wt) : (∃ y ∈ l, likeW x y = true) ↔ l.any (likeB x) = true := by
  simp [likeW, likeB, List.any_eq_true]
theorem await_any {F : Nat -> Prop} {C : Nat} (c : Cha) (s : Bool) (x : Wt) (w : World) (h : Chn w F C c.m c.cl c.buf c.S c.R) (hl : (sel s c.S c.R).length <= 900) :
    Calls Tryz.prog 114 #[.pointer (some ⟨C, 0, none⟩), .bool s, x.val] w fun e w' => ∃ v, e = .returned (.int .i64 v) /\
      Chn w' (Fw F w) C (c.wait s x).m (c.wait s x).cl (c.wait s x).buf (c.wait s x).S (c.wait s x).R /\ Frm F w w' := by
  by_cases hy : ∃ y ∈ sel s c.S c.R, likeW x y = true
  · refine (Mch.wait_have s x w h hy hl).mono ?_
    rintro e w' ⟨rfl, h1, h2⟩
    refine ⟨9, rfl, ?_, h2⟩
    rw [likeB_iff] at hy
    cases s <;> simp [sel] at hy <;> simpa [Cha.wait, waitL, hy] using h1
  · have hno : ∀ y ∈ sel s c.S c.R, likeW x y = false := fun y hm => by
      cases e : likeW x y with
      | false => rfl
      | true => exact absurd ⟨y, hm, e⟩ hy
    refine (Mch.wait_any s x w h hno hl).mono ?_
    rintro e w' ⟨rfl, h1, h2⟩
    refine ⟨0, rfl, ?_, h2⟩
    rw [likeB_iff] at hy
    have hy' := Bool.eq_false_iff.2 hy
    cases s
    · have e : c.wait false x = { c with R := c.R ++ [x] } := by simp only [Cha.wait, waitL, show c.R.any (likeB x) = false from hy']; rfl
      rw [e]; exact h1
    · have e : c.wait true x = { c with S := c.S ++ [x] } := by simp only [Cha.wait, waitL, show c.S.any (likeB x) = false from hy']; rfl
      rw [e]; exact h1
end Go.Proofs.YtdijhgaaeifbfaaGreat.Mdl
