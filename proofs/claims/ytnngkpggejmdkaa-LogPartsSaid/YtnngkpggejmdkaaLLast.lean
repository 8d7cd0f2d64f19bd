/-
  The walk of Last.
-/
import Derived.Test.YtnngkpggejmdkaaLBack
namespace Go.Proofs.Ytnngkpggejmdkaa
open Go.RowKit Go.Shelf

attribute [local go_sem] Oper.semAt_some

theorem zero_new (W : World) : EnAt (W.alloc (.cells #[.int .i64 0, .int .u8 0, .int .i64 0, .int .i64 0, .int .i64 0, .int .i64 0, .int .i64 0, .int .i64 0, .int .i64 0, .int .i64 0, .bool false, .int .i64 0, .int .u64 0] 31)) W.heap.size En.zero := enAt_new W En.zero
theorem boxed_abides {β : Type} (B : Nat) (t : TypeId) (f : β → Value) (m : Nat) : OwnFrom m (fun (s : β) W => Boxed W B t (f s)) :=
  Own.from (fun sx A W' row hs hg hr => hs.kept hg (fun e' => by obtain ⟨o, ho, hc⟩ := hr _ e'.symm; rw [show A.heap[B]? = _ from hs] at ho; cases ho; cases hc)) m

/-- What Last has found: place, entry, whether. -/
structure Found (W : World) (n : Nat) (i : Int) (x : En) (b : Bool) : Prop where
  at_ : Boxed W n 3 (.int .i64 i)
  it : EnAt W (n + 1) x
  is : Boxed W (n + 1 + 1) 4 (.bool b)
theorem Found.below {W W' : World} {n : Nat} {i : Int} {x : En} {b : Bool} (h : Found W n i x b) (hb : Below W.heap.size W W') : Found W' n i x b :=
  ⟨(But.of_below hb []).boxed h.at_ (by simp), h.it.but (But.of_below hb []) (by simp), (But.of_below hb []).boxed h.is (by simp)⟩
/-- Another one is stored. -/
theorem Found.set {W : World} {n : Nat} {i : Int} {x : En} {b : Bool} (h : Found W n i x b) (j : Int) (y : En) (c : Bool) :
    Found ((put13 (W.setCell ⟨n, 0, none⟩ (.int .i64 j)) (n + 1) y).setCell ⟨n + 1 + 1, 0, none⟩ (.bool c)) n j y c := by
  have g1 : But [n] W (W.setCell ⟨n, 0, none⟩ (.int .i64 j)) := (But.refl _ _).set (p := ⟨n, 0, none⟩) (by simp) _
  have g2 := but_put13 (W.setCell ⟨n, 0, none⟩ (.int .i64 j)) (n + 1) y
  have g3 : But [n + 1 + 1] (put13 (W.setCell ⟨n, 0, none⟩ (.int .i64 j)) (n + 1) y) ((put13 (W.setCell ⟨n, 0, none⟩ (.int .i64 j)) (n + 1) y).setCell ⟨n + 1 + 1, 0, none⟩ (.bool c)) := (But.refl _ _).set (p := ⟨n + 1 + 1, 0, none⟩) (by simp) _
  exact ⟨g3.boxed (g2.boxed (h.at_.set _) (by simp)) (by simp; omega), (EnAt.put13 (h.it.but g1 (by simp)) y).but g3 (by simp), (g2.boxed (g1.boxed h.is (by simp; omega)) (by simp)).set _⟩
theorem found_below {W : World} {m n : Nat} {w0 : World} (hb : Below m w0 W) (hm : m ≤ n) (j : Int) (y : En) (c : Bool) : Below m w0 ((put13 (W.setCell ⟨n, 0, none⟩ (.int .i64 j)) (n + 1) y).setCell ⟨n + 1 + 1, 0, none⟩ (.bool c)) := by
  unfold put13
  refine Below.setCell (p := ⟨n + 1 + 1, 0, none⟩) ?_ (by show m ≤ n + 1 + 1; omega) _
  iterate 13 refine Below.setCell ?_ (by show m ≤ n + 1; omega) _
  exact hb.setCell (p := ⟨n, 0, none⟩) hm _
theorem found_others (W : World) (n : Nat) (j : Int) (y : En) (c : Bool) : KeepsOthers W ((put13 (W.setCell ⟨n, 0, none⟩ (.int .i64 j)) (n + 1) y).setCell ⟨n + 1 + 1, 0, none⟩ (.bool c)) := by
  unfold put13
  iterate 14 refine KeepsOthers.trans ?_ (KeepsOthers.setCell _ _ _)
  exact KeepsOthers.setCell _ _ _

theorem last_end (F0 : Value) (w W : World) (D : Nat) (hD : w.heap.size + 1 + 1 + 1 ≤ D) (i : Int) (x : En) (b : Bool) (t0 t1 t2 t3 t7 t8 t9 t10 t11 t12 t13 t14 t15 t16 t17 t18 t19 t20 t21 t22 t23 t24 t25 t26 t27 : Value)
    (hF : Found W w.heap.size i x b) (hB : Below w.heap.size w W) (hK : W.heap[D]? = some (.deferred (some [])))
    (W' : World) (hW' : W' = ((put13 (W.setCell ⟨w.heap.size, 0, none⟩ (.int .i64 i)) (w.heap.size + 1) x).setCell ⟨w.heap.size + 1 + 1, 0, none⟩ (.bool b)).drew)
    (HE : Hid (Value.tuple #[.int .i64 i, .agg #[.int .i64 x.a, .int .u8 (x.k : Int), .int .i64 x.w, .int .i64 x.t, .int .i64 x.p, .int .i64 x.c, .int .i64 x.b, .int .i64 x.q, .int .i64 x.v, .int .i64 x.u, .bool x.o, .int .i64 x.e, .int .u64 (x.s : Int)], .bool b] = F0)) :
    bodyPostM Fence.wide 4 Try.prog Try.f22 (fun e w' => e = .returned F0 ∧ Below w.heap.size w w') .ret
      { tmps := #[t0, t1, t2, t3, .pointer (some ⟨w.heap.size, 0, none⟩), .pointer (some ⟨w.heap.size + 1, 0, none⟩), .pointer (some ⟨w.heap.size + 1 + 1, 0, none⟩), t7, t8, t9, t10, t11, t12, t13, t14, t15, t16, t17, t18, t19, t20, t21, t22, t23, t24, t25, t26, t27], defers := [{ target := Target.collected D, args := #[] }] } W' := by
  subst hW'
  have hF2 := hF.set i x b
  have hB2 := found_below hB (Nat.le_refl _) i x b
  have hK2 := (found_others W w.heap.size i x b).same D _ hK rfl
  obtain ⟨W2, hW2⟩ : ∃ W2, W2 = ((put13 (W.setCell ⟨w.heap.size, 0, none⟩ (.int .i64 i)) (w.heap.size + 1) x).setCell ⟨w.heap.size + 1 + 1, 0, none⟩ (.bool b)) := ⟨_, rfl⟩
  rw [← hW2] at hF2 hB2 hK2 ⊢
  have hF3 : Found W2.drew w.heap.size i x b := hF2.below (Below.refl _ _).drew
  have hB3 : Below w.heap.size w W2.drew := hB2.drew
  have hK3 : W2.drew.heap[D]? = some (.deferred (some [])) := hK2
  clear hW2 hF2 hB2 hK2
  generalize W2.drew = W1 at hF3 hB3 hK3 ⊢
  refine ⟨by simp, .inl ⟨_, _, rfl, run_takeDeferred hK3, ?_⟩⟩
  have hg := grownBy_putObj' W1 D (.deferred none)
  have hr : ∀ r, some D = some r → ∃ o, W1.heap[r]? = some o ∧ o.isCells = false := fun r e => by cases e; exact ⟨_, hK3, rfl⟩
  have a0 := cell_kept hF3.at_.cell hg hr
  have a1 := cell_kept hF3.is.cell hg hr
  have c0 := cell_kept hF3.it.c0 hg hr
  have c1 := cell_kept hF3.it.c1 hg hr
  have c2 := cell_kept hF3.it.c2 hg hr
  have c3 := cell_kept hF3.it.c3 hg hr
  have c4 := cell_kept hF3.it.c4 hg hr
  have c5 := cell_kept hF3.it.c5 hg hr
  have c6 := cell_kept hF3.it.c6 hg hr
  have c7 := cell_kept hF3.it.c7 hg hr
  have c8 := cell_kept hF3.it.c8 hg hr
  have c9 := cell_kept hF3.it.c9 hg hr
  have c10 := cell_kept hF3.it.c10 hg hr
  have c11 := cell_kept hF3.it.c11 hg hr
  have c12 := cell_kept hF3.it.c12 hg hr
  refine ⟨.tuple #[.int .i64 i, .agg #[.int .i64 x.a, .int .u8 (x.k : Int), .int .i64 x.w, .int .i64 x.t, .int .i64 x.p, .int .i64 x.c, .int .i64 x.b, .int .i64 x.q, .int .i64 x.v, .int .i64 x.u, .bool x.o, .int .i64 x.e, .int .u64 (x.s : Int)], .bool b], ?_, by rw [HE.out], hB3.trans (belowK_b (w := w) (Nat.le_refl _) _ D _ _ (by omega) hK3 rfl rfl)⟩
  simp [results, Try.f22, go_sem, a0, a1, c0, c1, c2, c3, c4, c5, c6, c7, c8, c9, c10, c11, c12]

theorem found_abides {β : Type} (n : Nat) (f : β → Int) (g : β → En) (b : Bool) (m : Nat) : OwnFrom m (fun (s : β) W => Found W n (f s) (g s) b) := fun s W W' row hs hg hr =>
  ⟨boxed_abides n _ (fun s => .int .i64 (f s)) m s W W' row hs.at_ hg hr, enAt_abides (n + 1) g m s W W' row hs.it hg hr, boxed_abides (n + 1 + 1) _ (fun _ : β => .bool b) m s W W' row hs.is hg hr⟩
/-- What lies there ahead of the loop. -/
structure Ahead (w W : World) (F : Value) : Prop where
  found : Found W w.heap.size (-1) En.zero false
  fn : Boxed W (w.heap.size + 1 + 1 + 1) 49 F
  below : Below w.heap.size w W
theorem ahead_new (w : World) (F : Value) : Ahead w ((((w.alloc (.cells #[.int .i64 (-1)] 3)).alloc (.cells #[.int .i64 0, .int .u8 0, .int .i64 0, .int .i64 0, .int .i64 0, .int .i64 0, .int .i64 0, .int .i64 0, .int .i64 0, .int .i64 0, .bool false, .int .i64 0, .int .u64 0] 31)).alloc (.cells #[.bool false] 4)).alloc (.cells #[F] 49)) F := by
  have b0 := Boxed.new w 3 (.int .i64 (-1))
  have b1 := zero_new (w.alloc (.cells #[.int .i64 (-1)] 3))
  have b2 := Boxed.new ((w.alloc (.cells #[.int .i64 (-1)] 3)).alloc (.cells #[.int .i64 0, .int .u8 0, .int .i64 0, .int .i64 0, .int .i64 0, .int .i64 0, .int .i64 0, .int .i64 0, .int .i64 0, .int .i64 0, .bool false, .int .i64 0, .int .u64 0] 31)) 4 (.bool false)
  have b3 := Boxed.new (((w.alloc (.cells #[.int .i64 (-1)] 3)).alloc (.cells #[.int .i64 0, .int .u8 0, .int .i64 0, .int .i64 0, .int .i64 0, .int .i64 0, .int .i64 0, .int .i64 0, .int .i64 0, .int .i64 0, .bool false, .int .i64 0, .int .u64 0] 31)).alloc (.cells #[.bool false] 4)) 49 F
  simp only [World.size_alloc] at b1 b2 b3
  exact ⟨⟨((b0.alloc _).alloc _).alloc _, (b1.alloc _).alloc _, b2.alloc _⟩, b3, Below.al (Below.al (below2 w _ _) (by simp; omega) _) (by simp; omega) _⟩

set_option maxRecDepth 100000 in
set_option maxHeartbeats 2000000 in
theorem last_none {b B : Nat} {lv : Value} {xs : List En} (w : World) (hL : LogAt w b B lv xs) (hl : xs.length ≤ 1000) (hx : ∀ x ∈ xs, x.ok) :
    Calls Try.prog 22 #[.pointer (some ⟨B, 0, none⟩), (.slice none 0 0)] w fun e w' => e = .returned (.tuple #[.int .i64 (lastV allE xs).1, .agg #[.int .i64 (lastV allE xs).2.1.a, .int .u8 ((lastV allE xs).2.1.k : Int), .int .i64 (lastV allE xs).2.1.w, .int .i64 (lastV allE xs).2.1.t, .int .i64 (lastV allE xs).2.1.p, .int .i64 (lastV allE xs).2.1.c, .int .i64 (lastV allE xs).2.1.b, .int .i64 (lastV allE xs).2.1.q, .int .i64 (lastV allE xs).2.1.v, .int .i64 (lastV allE xs).2.1.u, .bool (lastV allE xs).2.1.o, .int .i64 (lastV allE xs).2.1.e, .int .u64 ((lastV allE xs).2.1.s : Int)], .bool (lastV allE xs).2.2]) ∧ Below w.heap.size w w' := by
  obtain ⟨la, lc, rfl⟩ := hL.entries.slice
  obtain ⟨F0, hF0⟩ : ∃ F0, F0 = Value.tuple #[.int .i64 (lastV allE xs).1, .agg #[.int .i64 (lastV allE xs).2.1.a, .int .u8 ((lastV allE xs).2.1.k : Int), .int .i64 (lastV allE xs).2.1.w, .int .i64 (lastV allE xs).2.1.t, .int .i64 (lastV allE xs).2.1.p, .int .i64 (lastV allE xs).2.1.c, .int .i64 (lastV allE xs).2.1.b, .int .i64 (lastV allE xs).2.1.q, .int .i64 (lastV allE xs).2.1.v, .int .i64 (lastV allE xs).2.1.u, .bool (lastV allE xs).2.1.o, .int .i64 (lastV allE xs).2.1.e, .int .u64 ((lastV allE xs).2.1.s : Int)], .bool (lastV allE xs).2.2] := ⟨_, rfl⟩
  rw [← hF0]
  refine (callsIn_wide (n := 4)).1 ?_
  refine callsIn_of_wp_marks Try.func22 rfl trivial ?_ rfl
  simp only [Try.ntmps22, List.size_toArray, List.length_cons, List.length_nil, Nat.reduceAdd, Nat.reduceSub, Array.replicate_succ, Array.replicate_zero, List.push_toArray, List.append_toArray, List.nil_append, List.cons_append]
  gi_wp2
  refine wpIn_wide.2 ?_
  go_step3
  go_wp2_with fail
  obtain ⟨w4, hw4⟩ : ∃ w4, w4 = (((w.alloc (.cells #[.int .i64 (-1)] 3)).alloc (.cells #[.int .i64 0, .int .u8 0, .int .i64 0, .int .i64 0, .int .i64 0, .int .i64 0, .int .i64 0, .int .i64 0, .int .i64 0, .int .i64 0, .bool false, .int .i64 0, .int .u64 0] 31)).alloc (.cells #[.bool false] 4)).alloc (.cells #[.func (.func 24) #[] #[]] 49) := ⟨_, rfl⟩
  have hA : Ahead w w4 (.func (.func 24) #[] #[]) := by rw [hw4]; exact ahead_new w _
  rw [← hw4]
  clear hw4
  have hM4 := meant_every w4
  have hL4 := hL.below hA.below
  go_step3
  go_wp2_with fail
  refine (held_any w4 hL4).mono ?_
  rintro e w5 ⟨rfl, rfl⟩
  go_wp2_with fail
  refine (backward_any la xs.length lc _).mono ?_
  rintro e w6 ⟨rfl, rfl⟩
  have bS := Boxed.new w5 22 (.slice la xs.length lc)
  obtain ⟨w6, hw6⟩ : ∃ w6, w6 = w5.alloc (.cells #[.slice la xs.length lc] 22) := ⟨_, rfl⟩
  have hb6 : Below w5.heap.size w5 w6 := by rw [hw6]; exact below1 w5 _
  rw [← hw6] at bS
  go_wp2_with fail
  rw [← hw6]
  clear hw6
  have hL6 := hL4.below hb6
  have hM6 := meant_later hM4 hb6
  have hFd6 := hA.found.below hb6
  have hFn6 := (But.of_below hb6 []).boxed hA.fn (by simp)
  have hB6 := below_nx hA.below hb6 (Nat.le_refl _)
  have hsz : w.heap.size + 1 + 1 < w6.heap.size := hFd6.is.lt
  refine (wpIn_wide (n := 4)).1 ?_
  refine wpIn_rangeFunc_ownH rfl (by omega) (gf := 43) (lb := #[.pointer (some ⟨w5.heap.size, 0, none⟩)]) rfl trivial (enters_of Try.func43 (by kernel_rfl) rfl)
    (back_stops bS hL6 hl (Below.refl _ _)) (fun h k => KeepT.trans h k) (fun W l o o' hl ho hc hw => KeepT.putObj (Nat.le_refl _) W l o o' hl ho hc hw) (Below.refl _ _) (fun _ => rfl)
    (fun pre W => Below w6.heap.size w6 W ∧ Hid (∀ p ∈ pre, allE xs[p] = false))
    (fun c pre W => (∃ p : Fin xs.length, Found W w.heap.size (p.val : Int) xs[p] true ∧ Hid (∃ q, pre = q ++ [p] ∧ (∀ p ∈ q, allE xs[p] = false) ∧ allE xs[p] = true)) ∧ Below w.heap.size w W ∧ c = .exit 0)
    (OwnFrom.and (ownFrom_below (Nat.le_refl _) (Nat.le_refl _)) (fun _ _ _ _ h _ _ => h))
    (fun c => OwnFrom.and (fun s W W' row hs hg hr => by obtain ⟨p, h1, h2⟩ := hs; exact ⟨p, found_abides w.heap.size (fun _ : Unit => (p.val : Int)) (fun _ => xs[p]) true _ () W W' row h1 hg hr, h2⟩) (OwnFrom.and (ownFrom_below (Nat.le_refl _) hB6.size) (fun _ _ _ _ h _ _ => h)))
    ⟨Below.refl _ _, Lib.hid (fun p hp => by cases hp)⟩
    (fun p a' W => ∃ X, a' = { tmps := #[.pointer (some ⟨B, 0, none⟩), (.slice none 0 0), undef, undef, .pointer (some ⟨w.heap.size, 0, none⟩), .pointer (some ⟨w.heap.size + 1, 0, none⟩), .pointer (some ⟨w.heap.size + 1 + 1, 0, none⟩), .pointer (some ⟨w.heap.size + 1 + 1 + 1, 0, none⟩), (.int .i64 (p.val : Int)), (.pointer (some ⟨X, 0, none⟩)), .slice none 0 0, .int .i64 0, .bool false, undef, undef, .pointer (some ⟨B, 0, none⟩), .slice la xs.length lc, .func (.func 43) #[] #[.pointer (some ⟨w5.heap.size, 0, none⟩)], (.int .i64 (p.val : Int)), (xs[p]).val, undef, undef, undef, undef, undef, undef, undef, undef], defers := [] } ∧ EnAt W X xs[p] ∧ w6.heap.size ≤ X) ?abides ?assign ?body ?done ?stop
  case abides =>
    intro x a' s W W' row hs hg hr
    obtain ⟨X, h1, h2, h3⟩ := hs
    exact ⟨X, h1, enAt_abides X (fun _ : Unit => xs[x]) _ () W W' row h2 hg hr, h3⟩
  case assign =>
    rintro l pre p W K ⟨hB, HN⟩ hK
    unfold backEnc
    obtain ⟨x, hxp⟩ : ∃ x, x = xs[p] := ⟨_, rfl⟩
    rw [← hxp] at hK ⊢
    unfold En.val at hK ⊢
    clear hxp
    gi_wp2
    exact hK _ _ ((KeepsOthers.alloc W _).from _) (KeepT.fresh (below1 W _) hB.size) ⟨Below.al hB hB.size _, HN⟩ ⟨_, rfl, enAt_new W x, hB.size⟩
  case body =>
    rintro l pre p a' W hl2 hr ⟨hB, HN⟩ ⟨X, rfl, hX, hXl⟩ hlt
    have hxok := hx xs[p] (List.getElem_mem p.isLt)
    obtain ⟨x, hxp⟩ : ∃ x, x = xs[p] := ⟨_, rfl⟩
    rw [← hxp] at hX hxok ⊢
    have hcl := hM6.call W x hB hxok
    have hen := hM6.enter
    have hF := hFd6.below hB
    have hFn := (But.of_below hB []).boxed hFn6 (by simp)
    have hfc := hFn.cell
    have c0 := hX.c0
    have c1 := hX.c1
    have c2 := hX.c2
    have c3 := hX.c3
    have c4 := hX.c4
    have c5 := hX.c5
    have c6 := hX.c6
    have c7 := hX.c7
    have c8 := hX.c8
    have c9 := hX.c9
    have c10 := hX.c10
    have c11 := hX.c11
    have c12 := hX.c12
    have HX := Lib.hid hxp
    have hge : 1 ≤ 4 - 1 - 1 := by decide
    clear hxp
    obtain ⟨r, hrP⟩ : ∃ r : Bool, r = allE x := ⟨_, rfl⟩
    rw [← hrP] at hcl
    unfold En.val at hcl ⊢
    have HRP := Lib.hid hrP
    clear hrP
    cases r with
    | false =>
      gi_wp2_with (refine ⟨trivial, ?_⟩; gi_at_call 24; refine (CallsIn.inRound l (callsIn_wide.2 hcl)).mono ?_; rintro e W2 ⟨rfl, hb2⟩)
      have hg2 := grown_below hb2
      refine ⟨KeepsFrom.of_grownBy hg2 (fun _ e => by cases e), KeepT.fresh hb2 hB.size, below_nx hB hb2 (Nat.le_refl _), Lib.hid ?_⟩
      intro y hy
      rcases List.mem_append.1 hy with hy | hy
      · exact HN.out y hy
      · rw [List.mem_singleton.1 hy, ← HX.out, ← HRP.out]
    | true =>
      gi_wp2_with (refine ⟨trivial, ?_⟩; gi_at_call 24; refine (CallsIn.inRound l (callsIn_wide.2 hcl)).mono ?_; rintro e W2 ⟨rfl, hb2⟩)
      have hF2 := hF.below hb2
      have hX2 := hX.but (But.of_below hb2 []) (by simp)
      have hn0 : X ≠ w.heap.size := by omega
      have hn1 : X ≠ w.heap.size + 1 := by omega
      have hn2 : X ≠ w.heap.size + 1 + 1 := by omega
      have hg2 := grown_below hb2
      have hK2 : KeepsFrom w6.heap.size W W2 := KeepsFrom.of_grownBy hg2 (fun _ e => by cases e)
      have hB2 := below_nx (below_nx hB6 hB (Nat.le_refl _)) hb2 (Nat.le_refl _)
      have d0 := hX2.c0
      have d1 := hX2.c1
      have d2 := hX2.c2
      have d3 := hX2.c3
      have d4 := hX2.c4
      have d5 := hX2.c5
      have d6 := hX2.c6
      have d7 := hX2.c7
      have d8 := hX2.c8
      have d9 := hX2.c9
      have d10 := hX2.c10
      have d11 := hX2.c11
      have d12 := hX2.c12
      have z0 := hF2.it.c0
      have y0 := hF2.it.frozen 0
      have z1 := hF2.it.c1
      have y1 := hF2.it.frozen 1
      have z2 := hF2.it.c2
      have y2 := hF2.it.frozen 2
      have z3 := hF2.it.c3
      have y3 := hF2.it.frozen 3
      have z4 := hF2.it.c4
      have y4 := hF2.it.frozen 4
      have z5 := hF2.it.c5
      have y5 := hF2.it.frozen 5
      have z6 := hF2.it.c6
      have y6 := hF2.it.frozen 6
      have z7 := hF2.it.c7
      have y7 := hF2.it.frozen 7
      have z8 := hF2.it.c8
      have y8 := hF2.it.frozen 8
      have z9 := hF2.it.c9
      have y9 := hF2.it.frozen 9
      have z10 := hF2.it.c10
      have y10 := hF2.it.frozen 10
      have z11 := hF2.it.c11
      have y11 := hF2.it.frozen 11
      have z12 := hF2.it.c12
      have y12 := hF2.it.frozen 12
      have k0 := hF2.at_.cell
      have k1 := hF2.at_.frozen
      have k2 := hF2.is.cell
      have k3 := hF2.is.frozen
      clear c0 c1 c2 c3 c4 c5 c6 c7 c8 c9 c10 c11 c12 hfc hcl hen
      gi_region
      all_goals gi_wp2
      all_goals exact ⟨hK2.trans (((found_others W2 w.heap.size (p.val : Int) x true).trans (KeepsOthers.drew _)).from _), ⟨p, by rw [← HX.out]; exact (hF2.set _ _ _).below (Below.refl _ _).drew, Lib.hid ⟨pre, rfl, HN.out, by rw [← HX.out, ← HRP.out]⟩⟩, (found_below hB2 (Nat.le_refl _) _ _ _).drew, rfl⟩
  case done =>
    rintro D ys W hD hys ⟨hB, HN⟩ hK
    have HE : Hid (Value.tuple #[.int .i64 (-1), .agg #[.int .i64 En.zero.a, .int .u8 (En.zero.k : Int), .int .i64 En.zero.w, .int .i64 En.zero.t, .int .i64 En.zero.p, .int .i64 En.zero.c, .int .i64 En.zero.b, .int .i64 En.zero.q, .int .i64 En.zero.v, .int .i64 En.zero.u, .bool En.zero.o, .int .i64 En.zero.e, .int .u64 (En.zero.s : Int)], .bool false] = F0) := Lib.hid (by
      rw [hF0, last_none_of (P := allE) (xs := xs) (by rw [← show ys = backF xs from hys]; exact HN.out)])
    clear hys HN hF0
    have hF := hFd6.below hB
    have hBw := below_nx hB6 hB (Nat.le_refl _)
    generalize En.zero = ez at hF HE
    have k0 := hF.at_.cell
    have k1 := hF.at_.frozen
    have k2 := hF.is.cell
    have k3 := hF.is.frozen
    have z0 := hF.it.c0
    have y0 := hF.it.frozen 0
    have z1 := hF.it.c1
    have y1 := hF.it.frozen 1
    have z2 := hF.it.c2
    have y2 := hF.it.frozen 2
    have z3 := hF.it.c3
    have y3 := hF.it.frozen 3
    have z4 := hF.it.c4
    have y4 := hF.it.frozen 4
    have z5 := hF.it.c5
    have y5 := hF.it.frozen 5
    have z6 := hF.it.c6
    have y6 := hF.it.frozen 6
    have z7 := hF.it.c7
    have y7 := hF.it.frozen 7
    have z8 := hF.it.c8
    have y8 := hF.it.frozen 8
    have z9 := hF.it.c9
    have y9 := hF.it.frozen 9
    have z10 := hF.it.c10
    have y10 := hF.it.frozen 10
    have z11 := hF.it.c11
    have y11 := hF.it.frozen 11
    have z12 := hF.it.c12
    have y12 := hF.it.frozen 12
    have hDl : w.heap.size + 1 + 1 + 1 ≤ D := by omega
    go_wp2_with fail
    go_region
    go_wp2_with fail
    rw [Exit.noGoto_ret]
    exact last_end F0 w W D hDl (-1) ez false _ _ _ _ _ _ _ _ _ _ _ _ _ _ _ _ _ _ _ _ _ _ _ _ _ hF hBw hK _ rfl HE
  case stop =>
    rintro D c pre W hD hpre ⟨⟨p, hF, HQ⟩, hB, rfl⟩ hK
    have HE : Hid (Value.tuple #[.int .i64 (p.val : Int), .agg #[.int .i64 xs[p].a, .int .u8 (xs[p].k : Int), .int .i64 xs[p].w, .int .i64 xs[p].t, .int .i64 xs[p].p, .int .i64 xs[p].c, .int .i64 xs[p].b, .int .i64 xs[p].q, .int .i64 xs[p].v, .int .i64 xs[p].u, .bool xs[p].o, .int .i64 xs[p].e, .int .u64 (xs[p].s : Int)], .bool true] = F0) := Lib.hid (by
      obtain ⟨q, h1, h2, h3⟩ := HQ.out
      rw [hF0, last_found (P := allE) (by rw [← h1]; exact hpre) h2 h3])
    clear hpre HQ hF0
    generalize xs[p] = xp at hF HE
    generalize (p.val : Int) = ip at hF HE
    have k0 := hF.at_.cell
    have k1 := hF.at_.frozen
    have k2 := hF.is.cell
    have k3 := hF.is.frozen
    have z0 := hF.it.c0
    have y0 := hF.it.frozen 0
    have z1 := hF.it.c1
    have y1 := hF.it.frozen 1
    have z2 := hF.it.c2
    have y2 := hF.it.frozen 2
    have z3 := hF.it.c3
    have y3 := hF.it.frozen 3
    have z4 := hF.it.c4
    have y4 := hF.it.frozen 4
    have z5 := hF.it.c5
    have y5 := hF.it.frozen 5
    have z6 := hF.it.c6
    have y6 := hF.it.frozen 6
    have z7 := hF.it.c7
    have y7 := hF.it.frozen 7
    have z8 := hF.it.c8
    have y8 := hF.it.frozen 8
    have z9 := hF.it.c9
    have y9 := hF.it.frozen 9
    have z10 := hF.it.c10
    have y10 := hF.it.frozen 10
    have z11 := hF.it.c11
    have y11 := hF.it.frozen 11
    have z12 := hF.it.c12
    have y12 := hF.it.frozen 12
    have hDl : w.heap.size + 1 + 1 + 1 ≤ D := by omega
    gi_wp2
    go_wp2_with fail
    go_region
    go_wp2_with fail
    rw [Exit.noGoto_ret]
    exact last_end F0 w W D hDl ip xp true _ _ _ _ _ _ _ _ _ _ _ _ _ _ _ _ _ _ _ _ _ _ _ _ _ hF hB hK _ rfl HE

end Go.Proofs.Ytnngkpggejmdkaa
