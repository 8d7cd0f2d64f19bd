/-
  The walk of Last, where some kinds are told.
-/
import Derived.Test.YtnngkpggejmdkaaLLast
namespace Go.Proofs.Ytnngkpggejmdkaa
open Go.RowKit Go.Shelf

attribute [local go_sem] Oper.semAt_some

theorem KRow.later {W W' : World} {v : Value} {ks : List Nat} (h : KRow W v ks) (hb : Below W.heap.size W W') : KRow W' v ks := by
  obtain ⟨a, c, h1, h2⟩ := h
  refine ⟨a, c, h1, ?_⟩
  rcases h2 with h2 | ⟨b, off, h3, h4, h5⟩
  · exact .inl h2
  · exact .inr ⟨b, off, h3, Nat.lt_of_lt_of_le h4 hb.size, fun j k hk => (hb.cell (p := ⟨b, off + j, none⟩) h4).trans (h5 j k hk)⟩
theorem ahead_zero (w : World) (F : Value) : Found ((((w.alloc (.cells #[.int .i64 0] 3)).alloc (.cells #[.int .i64 0, .int .u8 0, .int .i64 0, .int .i64 0, .int .i64 0, .int .i64 0, .int .i64 0, .int .i64 0, .int .i64 0, .int .i64 0, .bool false, .int .i64 0, .int .u64 0] 31)).alloc (.cells #[.bool false] 4)).alloc (.cells #[F] 49)) w.heap.size 0 En.zero false ∧
    Boxed ((((w.alloc (.cells #[.int .i64 0] 3)).alloc (.cells #[.int .i64 0, .int .u8 0, .int .i64 0, .int .i64 0, .int .i64 0, .int .i64 0, .int .i64 0, .int .i64 0, .int .i64 0, .int .i64 0, .bool false, .int .i64 0, .int .u64 0] 31)).alloc (.cells #[.bool false] 4)).alloc (.cells #[F] 49)) (w.heap.size + 1 + 1 + 1) 49 F ∧
    Below w.heap.size w ((((w.alloc (.cells #[.int .i64 0] 3)).alloc (.cells #[.int .i64 0, .int .u8 0, .int .i64 0, .int .i64 0, .int .i64 0, .int .i64 0, .int .i64 0, .int .i64 0, .int .i64 0, .int .i64 0, .bool false, .int .i64 0, .int .u64 0] 31)).alloc (.cells #[.bool false] 4)).alloc (.cells #[F] 49)) := by
  have b0 := Boxed.new w 3 (.int .i64 0)
  have b1 := zero_new (w.alloc (.cells #[.int .i64 0] 3))
  have b2 := Boxed.new ((w.alloc (.cells #[.int .i64 0] 3)).alloc (.cells #[.int .i64 0, .int .u8 0, .int .i64 0, .int .i64 0, .int .i64 0, .int .i64 0, .int .i64 0, .int .i64 0, .int .i64 0, .int .i64 0, .bool false, .int .i64 0, .int .u64 0] 31)) 4 (.bool false)
  have b3 := Boxed.new (((w.alloc (.cells #[.int .i64 0] 3)).alloc (.cells #[.int .i64 0, .int .u8 0, .int .i64 0, .int .i64 0, .int .i64 0, .int .i64 0, .int .i64 0, .int .i64 0, .int .i64 0, .int .i64 0, .bool false, .int .i64 0, .int .u64 0] 31)).alloc (.cells #[.bool false] 4)) 49 F
  simp only [World.size_alloc] at b1 b2 b3
  exact ⟨⟨((b0.alloc _).alloc _).alloc _, (b1.alloc _).alloc _, b2.alloc _⟩, b3, Below.al (Below.al (below2 w _ _) (by simp; omega) _) (by simp; omega) _⟩
theorem ahead_set {w W : World} {F : Value} {i : Int} (hF : Found W w.heap.size i En.zero false) (hG : Boxed W (w.heap.size + 1 + 1 + 1) 49 F) (hB : Below w.heap.size w W) (F' : Value) :
    Ahead w ((W.setCell ⟨w.heap.size + 1 + 1 + 1, 0, none⟩ F').setCell ⟨w.heap.size, 0, none⟩ (.int .i64 (-1))) F' := by
  have g1 : But [w.heap.size + 1 + 1 + 1] W (W.setCell ⟨w.heap.size + 1 + 1 + 1, 0, none⟩ F') := (But.refl _ _).set (p := ⟨w.heap.size + 1 + 1 + 1, 0, none⟩) (by simp) _
  have g2 : But [w.heap.size] (W.setCell ⟨w.heap.size + 1 + 1 + 1, 0, none⟩ F') ((W.setCell ⟨w.heap.size + 1 + 1 + 1, 0, none⟩ F').setCell ⟨w.heap.size, 0, none⟩ (.int .i64 (-1))) := (But.refl _ _).set (p := ⟨w.heap.size, 0, none⟩) (by simp) _
  refine ⟨⟨(g1.boxed hF.at_ (by simp; omega)).set _, (hF.it.but g1 (by simp)).but g2 (by simp), g2.boxed (g1.boxed hF.is (by simp)) (by simp; omega)⟩, g2.boxed (hG.set _) (by simp; omega), (hB.setCell (p := ⟨w.heap.size + 1 + 1 + 1, 0, none⟩) (by show w.heap.size ≤ w.heap.size + 1 + 1 + 1; omega) _).setCell (p := ⟨w.heap.size, 0, none⟩) (Nat.le_refl _) _⟩
theorem told_set {W : World} {n m : Nat} {ks : List Nat} (hT : Told W n ks) (hn : m + 1 + 1 + 1 < n) (F' : Value) : Told ((W.setCell ⟨m + 1 + 1 + 1, 0, none⟩ F').setCell ⟨m, 0, none⟩ (.int .i64 (-1))) n ks := by
  have hl := hT.lt
  obtain ⟨cs, h1, h2⟩ := hT
  have g1 : But [m + 1 + 1 + 1, m] W ((W.setCell ⟨m + 1 + 1 + 1, 0, none⟩ F').setCell ⟨m, 0, none⟩ (.int .i64 (-1))) := ((But.refl _ _).set (p := ⟨m + 1 + 1 + 1, 0, none⟩) (by simp) _).set (p := ⟨m, 0, none⟩) (by simp) _
  exact ⟨cs, (g1.block n hl (by simp; omega)).trans h1, h2⟩

set_option maxRecDepth 100000 in
set_option maxHeartbeats 2000000 in
theorem last_kinds {b B : Nat} {lv : Value} {xs : List En} {ra : Option Addr} {rc : Nat} {ks : List Nat} (w : World) (hr : KRow w (.slice ra ks.length rc) ks) (hk : ∀ k ∈ ks, k < 256) (hkl : ks.length ≤ 1000) (hk0 : 0 < ks.length) (hL : LogAt w b B lv xs) (hl : xs.length ≤ 1000) (hx : ∀ x ∈ xs, x.ok) :
    Calls Try.prog 22 #[.pointer (some ⟨B, 0, none⟩), (.slice ra ks.length rc)] w fun e w' => e = .returned (.tuple #[.int .i64 (lastV (isKind ks) xs).1, .agg #[.int .i64 (lastV (isKind ks) xs).2.1.a, .int .u8 ((lastV (isKind ks) xs).2.1.k : Int), .int .i64 (lastV (isKind ks) xs).2.1.w, .int .i64 (lastV (isKind ks) xs).2.1.t, .int .i64 (lastV (isKind ks) xs).2.1.p, .int .i64 (lastV (isKind ks) xs).2.1.c, .int .i64 (lastV (isKind ks) xs).2.1.b, .int .i64 (lastV (isKind ks) xs).2.1.q, .int .i64 (lastV (isKind ks) xs).2.1.v, .int .i64 (lastV (isKind ks) xs).2.1.u, .bool (lastV (isKind ks) xs).2.1.o, .int .i64 (lastV (isKind ks) xs).2.1.e, .int .u64 ((lastV (isKind ks) xs).2.1.s : Int)], .bool (lastV (isKind ks) xs).2.2]) ∧ Below w.heap.size w w' := by
  obtain ⟨la, lc, rfl⟩ := hL.entries.slice
  obtain ⟨F0, hF0⟩ : ∃ F0, F0 = Value.tuple #[.int .i64 (lastV (isKind ks) xs).1, .agg #[.int .i64 (lastV (isKind ks) xs).2.1.a, .int .u8 ((lastV (isKind ks) xs).2.1.k : Int), .int .i64 (lastV (isKind ks) xs).2.1.w, .int .i64 (lastV (isKind ks) xs).2.1.t, .int .i64 (lastV (isKind ks) xs).2.1.p, .int .i64 (lastV (isKind ks) xs).2.1.c, .int .i64 (lastV (isKind ks) xs).2.1.b, .int .i64 (lastV (isKind ks) xs).2.1.q, .int .i64 (lastV (isKind ks) xs).2.1.v, .int .i64 (lastV (isKind ks) xs).2.1.u, .bool (lastV (isKind ks) xs).2.1.o, .int .i64 (lastV (isKind ks) xs).2.1.e, .int .u64 ((lastV (isKind ks) xs).2.1.s : Int)], .bool (lastV (isKind ks) xs).2.2] := ⟨_, rfl⟩
  rw [← hF0]
  refine (callsIn_wide (n := 4)).1 ?_
  refine callsIn_of_wp_marks Try.func22 rfl trivial ?_ rfl
  simp only [Try.ntmps22, List.size_toArray, List.length_cons, List.length_nil, Nat.reduceAdd, Nat.reduceSub, Array.replicate_succ, Array.replicate_zero, List.push_toArray, List.append_toArray, List.nil_append, List.cons_append]
  gi_wp2
  refine wpIn_wide.2 ?_
  go_step3
  have hkp : (0 : Int) < (ks.length : Int) := by omega
  obtain ⟨w2, hw2⟩ : ∃ w2, w2 = (((w.alloc (.cells #[.int .i64 0] 3)).alloc (.cells #[.int .i64 0, .int .u8 0, .int .i64 0, .int .i64 0, .int .i64 0, .int .i64 0, .int .i64 0, .int .i64 0, .int .i64 0, .int .i64 0, .bool false, .int .i64 0, .int .u64 0] 31)).alloc (.cells #[.bool false] 4)).alloc (.cells #[.func (.func 24) #[] #[]] 49) := ⟨_, rfl⟩
  have hA0 := ahead_zero w (.func (.func 24) #[] #[])
  rw [← hw2] at hA0
  obtain ⟨hF2, hG2, hB2⟩ := hA0
  have hr2 := hr.later hB2
  have hcall := ofKinds_any _ ks w2 hr2 hk hkl
  go_wp2_with fail
  rw [← hw2]
  clear hw2
  refine hcall.mono ?_
  clear hcall
  rintro e w3 ⟨rfl, hT3, hb3⟩
  have hF3 := hF2.below hb3
  have hG3 := (But.of_below hb3 []).boxed hG2 (by simp)
  have hB3 := below_nx hB2 hb3 (Nat.le_refl _)
  have hT2l : w.heap.size + 1 + 1 + 1 < w2.heap.size := hG2.lt
  have g1 := hF3.at_.cell
  have g2 := hF3.at_.frozen
  have g3 := hG3.cell
  have g4 := hG3.frozen
  obtain ⟨w4, hw4⟩ : ∃ w4, w4 = (w3.setCell ⟨w.heap.size + 1 + 1 + 1, 0, none⟩ (.func (.func 42) #[] #[.pointer (some ⟨w2.heap.size, 0, none⟩)])).setCell ⟨w.heap.size, 0, none⟩ (.int .i64 (-1)) := ⟨_, rfl⟩
  have hA : Ahead w w4 (.func (.func 42) #[] #[.pointer (some ⟨w2.heap.size, 0, none⟩)]) := by rw [hw4]; exact ahead_set hF3 hG3 hB3 _
  have hM4 : Meant 42 #[.pointer (some ⟨w2.heap.size, 0, none⟩)] (isKind ks) w4 := by rw [hw4]; exact meant_kinds (told_set hT3 hT2l _)
  go_wp2_with fail
  rw [← hw4]
  clear hw4 g1 g2 g3 g4
  have hL4 := hL.below hA.below
  go_step3
  go_wp2_with fail
  refine (held_any w4 hL4).mono ?_
  rintro e w5 ⟨rfl, rfl⟩
  go_wp2_with fail
  refine (backward_any la xs.length lc _).mono ?_
  rintro e w6 ⟨rfl, rfl⟩
  have bS := Boxed.new w5 22 (.slice la xs.length lc)
  obtain ⟨w6, hw6⟩ : ∃ w6, w6 = w5.alloc (.cells #[.slice la xs.length lc] 22) := ⟨_, rfl⟩
  have hb6 : Below w5.heap.size w5 w6 := by rw [hw6]; exact below1 w5 _
  rw [← hw6] at bS
  go_wp2_with fail
  rw [← hw6]
  clear hw6
  have hL6 := hL4.below hb6
  have hM6 := meant_later hM4 hb6
  have hFd6 := hA.found.below hb6
  have hFn6 := (But.of_below hb6 []).boxed hA.fn (by simp)
  have hB6 := below_nx hA.below hb6 (Nat.le_refl _)
  have hsz : w.heap.size + 1 + 1 < w6.heap.size := hFd6.is.lt
  refine (wpIn_wide (n := 4)).1 ?_
  refine wpIn_rangeFunc_ownH rfl (by omega) (gf := 43) (lb := #[.pointer (some ⟨w5.heap.size, 0, none⟩)]) rfl trivial (enters_of Try.func43 (by kernel_rfl) rfl)
    (back_stops bS hL6 hl (Below.refl _ _)) (fun h k => KeepT.trans h k) (fun W l o o' hl ho hc hw => KeepT.putObj (Nat.le_refl _) W l o o' hl ho hc hw) (Below.refl _ _) (fun _ => rfl)
    (fun pre W => Below w6.heap.size w6 W ∧ Hid (∀ p ∈ pre, (isKind ks) xs[p] = false))
    (fun c pre W => (∃ p : Fin xs.length, Found W w.heap.size (p.val : Int) xs[p] true ∧ Hid (∃ q, pre = q ++ [p] ∧ (∀ p ∈ q, (isKind ks) xs[p] = false) ∧ (isKind ks) xs[p] = true)) ∧ Below w.heap.size w W ∧ c = .exit 0)
    (OwnFrom.and (ownFrom_below (Nat.le_refl _) (Nat.le_refl _)) (fun _ _ _ _ h _ _ => h))
    (fun c => OwnFrom.and (fun s W W' row hs hg hr => by obtain ⟨p, h1, h2⟩ := hs; exact ⟨p, found_abides w.heap.size (fun _ : Unit => (p.val : Int)) (fun _ => xs[p]) true _ () W W' row h1 hg hr, h2⟩) (OwnFrom.and (ownFrom_below (Nat.le_refl _) hB6.size) (fun _ _ _ _ h _ _ => h)))
    ⟨Below.refl _ _, Lib.hid (fun p hp => by cases hp)⟩
    (fun p a' W => ∃ X, a' = { tmps := #[.pointer (some ⟨B, 0, none⟩), (.slice ra ks.length rc), undef, undef, .pointer (some ⟨w.heap.size, 0, none⟩), .pointer (some ⟨w.heap.size + 1, 0, none⟩), .pointer (some ⟨w.heap.size + 1 + 1, 0, none⟩), .pointer (some ⟨w.heap.size + 1 + 1 + 1, 0, none⟩), (.int .i64 (p.val : Int)), (.pointer (some ⟨X, 0, none⟩)), .slice ra ks.length rc, .int .i64 (ks.length : Int), .bool true, .slice ra ks.length rc, .func (.func 42) #[] #[.pointer (some ⟨w2.heap.size, 0, none⟩)], .pointer (some ⟨B, 0, none⟩), .slice la xs.length lc, .func (.func 43) #[] #[.pointer (some ⟨w5.heap.size, 0, none⟩)], (.int .i64 (p.val : Int)), (xs[p]).val, undef, undef, undef, undef, undef, undef, undef, undef], defers := [] } ∧ EnAt W X xs[p] ∧ w6.heap.size ≤ X) ?abides ?assign ?body ?done ?stop
  case abides =>
    intro x a' s W W' row hs hg hr
    obtain ⟨X, h1, h2, h3⟩ := hs
    exact ⟨X, h1, enAt_abides X (fun _ : Unit => xs[x]) _ () W W' row h2 hg hr, h3⟩
  case assign =>
    rintro l pre p W K ⟨hB, HN⟩ hK
    unfold backEnc
    obtain ⟨x, hxp⟩ : ∃ x, x = xs[p] := ⟨_, rfl⟩
    rw [← hxp] at hK ⊢
    unfold En.val at hK ⊢
    clear hxp
    gi_wp2
    exact hK _ _ ((KeepsOthers.alloc W _).from _) (KeepT.fresh (below1 W _) hB.size) ⟨Below.al hB hB.size _, HN⟩ ⟨_, rfl, enAt_new W x, hB.size⟩
  case body =>
    rintro l pre p a' W hl2 hr ⟨hB, HN⟩ ⟨X, rfl, hX, hXl⟩ hlt
    have hxok := hx xs[p] (List.getElem_mem p.isLt)
    obtain ⟨x, hxp⟩ : ∃ x, x = xs[p] := ⟨_, rfl⟩
    rw [← hxp] at hX hxok ⊢
    have hcl := hM6.call W x hB hxok
    have hen := hM6.enter
    have hF := hFd6.below hB
    have hFn := (But.of_below hB []).boxed hFn6 (by simp)
    have hfc := hFn.cell
    have c0 := hX.c0
    have c1 := hX.c1
    have c2 := hX.c2
    have c3 := hX.c3
    have c4 := hX.c4
    have c5 := hX.c5
    have c6 := hX.c6
    have c7 := hX.c7
    have c8 := hX.c8
    have c9 := hX.c9
    have c10 := hX.c10
    have c11 := hX.c11
    have c12 := hX.c12
    have HX := Lib.hid hxp
    have hge : 1 ≤ 4 - 1 - 1 := by decide
    clear hxp
    obtain ⟨r, hrP⟩ : ∃ r : Bool, r = (isKind ks) x := ⟨_, rfl⟩
    rw [← hrP] at hcl
    unfold En.val at hcl ⊢
    have HRP := Lib.hid hrP
    clear hrP
    cases r with
    | false =>
      gi_wp2_with (refine ⟨trivial, ?_⟩; gi_at_call 42; refine (CallsIn.inRound l (callsIn_wide.2 hcl)).mono ?_; rintro e W2 ⟨rfl, hb2⟩)
      have hg2 := grown_below hb2
      refine ⟨KeepsFrom.of_grownBy hg2 (fun _ e => by cases e), KeepT.fresh hb2 hB.size, below_nx hB hb2 (Nat.le_refl _), Lib.hid ?_⟩
      intro y hy
      rcases List.mem_append.1 hy with hy | hy
      · exact HN.out y hy
      · rw [List.mem_singleton.1 hy, ← HX.out, ← HRP.out]
    | true =>
      gi_wp2_with (refine ⟨trivial, ?_⟩; gi_at_call 42; refine (CallsIn.inRound l (callsIn_wide.2 hcl)).mono ?_; rintro e W2 ⟨rfl, hb2⟩)
      have hF2 := hF.below hb2
      have hX2 := hX.but (But.of_below hb2 []) (by simp)
      have hn0 : X ≠ w.heap.size := by omega
      have hn1 : X ≠ w.heap.size + 1 := by omega
      have hn2 : X ≠ w.heap.size + 1 + 1 := by omega
      have hg2 := grown_below hb2
      have hK2 : KeepsFrom w6.heap.size W W2 := KeepsFrom.of_grownBy hg2 (fun _ e => by cases e)
      have hB2 := below_nx (below_nx hB6 hB (Nat.le_refl _)) hb2 (Nat.le_refl _)
      have d0 := hX2.c0
      have d1 := hX2.c1
      have d2 := hX2.c2
      have d3 := hX2.c3
      have d4 := hX2.c4
      have d5 := hX2.c5
      have d6 := hX2.c6
      have d7 := hX2.c7
      have d8 := hX2.c8
      have d9 := hX2.c9
      have d10 := hX2.c10
      have d11 := hX2.c11
      have d12 := hX2.c12
      have z0 := hF2.it.c0
      have y0 := hF2.it.frozen 0
      have z1 := hF2.it.c1
      have y1 := hF2.it.frozen 1
      have z2 := hF2.it.c2
      have y2 := hF2.it.frozen 2
      have z3 := hF2.it.c3
      have y3 := hF2.it.frozen 3
      have z4 := hF2.it.c4
      have y4 := hF2.it.frozen 4
      have z5 := hF2.it.c5
      have y5 := hF2.it.frozen 5
      have z6 := hF2.it.c6
      have y6 := hF2.it.frozen 6
      have z7 := hF2.it.c7
      have y7 := hF2.it.frozen 7
      have z8 := hF2.it.c8
      have y8 := hF2.it.frozen 8
      have z9 := hF2.it.c9
      have y9 := hF2.it.frozen 9
      have z10 := hF2.it.c10
      have y10 := hF2.it.frozen 10
      have z11 := hF2.it.c11
      have y11 := hF2.it.frozen 11
      have z12 := hF2.it.c12
      have y12 := hF2.it.frozen 12
      have k0 := hF2.at_.cell
      have k1 := hF2.at_.frozen
      have k2 := hF2.is.cell
      have k3 := hF2.is.frozen
      clear c0 c1 c2 c3 c4 c5 c6 c7 c8 c9 c10 c11 c12 hfc hcl hen
      gi_region
      all_goals gi_wp2
      all_goals exact ⟨hK2.trans (((found_others W2 w.heap.size (p.val : Int) x true).trans (KeepsOthers.drew _)).from _), ⟨p, by rw [← HX.out]; exact (hF2.set _ _ _).below (Below.refl _ _).drew, Lib.hid ⟨pre, rfl, HN.out, by rw [← HX.out, ← HRP.out]⟩⟩, (found_below hB2 (Nat.le_refl _) _ _ _).drew, rfl⟩
  case done =>
    rintro D ys W hD hys ⟨hB, HN⟩ hK
    have HE : Hid (Value.tuple #[.int .i64 (-1), .agg #[.int .i64 En.zero.a, .int .u8 (En.zero.k : Int), .int .i64 En.zero.w, .int .i64 En.zero.t, .int .i64 En.zero.p, .int .i64 En.zero.c, .int .i64 En.zero.b, .int .i64 En.zero.q, .int .i64 En.zero.v, .int .i64 En.zero.u, .bool En.zero.o, .int .i64 En.zero.e, .int .u64 (En.zero.s : Int)], .bool false] = F0) := Lib.hid (by
      rw [hF0, last_none_of (P := (isKind ks)) (xs := xs) (by rw [← show ys = backF xs from hys]; exact HN.out)])
    clear hys HN hF0
    have hF := hFd6.below hB
    have hBw := below_nx hB6 hB (Nat.le_refl _)
    generalize En.zero = ez at hF HE
    have k0 := hF.at_.cell
    have k1 := hF.at_.frozen
    have k2 := hF.is.cell
    have k3 := hF.is.frozen
    have z0 := hF.it.c0
    have y0 := hF.it.frozen 0
    have z1 := hF.it.c1
    have y1 := hF.it.frozen 1
    have z2 := hF.it.c2
    have y2 := hF.it.frozen 2
    have z3 := hF.it.c3
    have y3 := hF.it.frozen 3
    have z4 := hF.it.c4
    have y4 := hF.it.frozen 4
    have z5 := hF.it.c5
    have y5 := hF.it.frozen 5
    have z6 := hF.it.c6
    have y6 := hF.it.frozen 6
    have z7 := hF.it.c7
    have y7 := hF.it.frozen 7
    have z8 := hF.it.c8
    have y8 := hF.it.frozen 8
    have z9 := hF.it.c9
    have y9 := hF.it.frozen 9
    have z10 := hF.it.c10
    have y10 := hF.it.frozen 10
    have z11 := hF.it.c11
    have y11 := hF.it.frozen 11
    have z12 := hF.it.c12
    have y12 := hF.it.frozen 12
    have hDl : w.heap.size + 1 + 1 + 1 ≤ D := by omega
    go_wp2_with fail
    go_region
    go_wp2_with fail
    rw [Exit.noGoto_ret]
    exact last_end F0 w W D hDl (-1) ez false _ _ _ _ _ _ _ _ _ _ _ _ _ _ _ _ _ _ _ _ _ _ _ _ _ hF hBw hK _ rfl HE
  case stop =>
    rintro D c pre W hD hpre ⟨⟨p, hF, HQ⟩, hB, rfl⟩ hK
    have HE : Hid (Value.tuple #[.int .i64 (p.val : Int), .agg #[.int .i64 xs[p].a, .int .u8 (xs[p].k : Int), .int .i64 xs[p].w, .int .i64 xs[p].t, .int .i64 xs[p].p, .int .i64 xs[p].c, .int .i64 xs[p].b, .int .i64 xs[p].q, .int .i64 xs[p].v, .int .i64 xs[p].u, .bool xs[p].o, .int .i64 xs[p].e, .int .u64 (xs[p].s : Int)], .bool true] = F0) := Lib.hid (by
      obtain ⟨q, h1, h2, h3⟩ := HQ.out
      rw [hF0, last_found (P := (isKind ks)) (by rw [← h1]; exact hpre) h2 h3])
    clear hpre HQ hF0
    generalize xs[p] = xp at hF HE
    generalize (p.val : Int) = ip at hF HE
    have k0 := hF.at_.cell
    have k1 := hF.at_.frozen
    have k2 := hF.is.cell
    have k3 := hF.is.frozen
    have z0 := hF.it.c0
    have y0 := hF.it.frozen 0
    have z1 := hF.it.c1
    have y1 := hF.it.frozen 1
    have z2 := hF.it.c2
    have y2 := hF.it.frozen 2
    have z3 := hF.it.c3
    have y3 := hF.it.frozen 3
    have z4 := hF.it.c4
    have y4 := hF.it.frozen 4
    have z5 := hF.it.c5
    have y5 := hF.it.frozen 5
    have z6 := hF.it.c6
    have y6 := hF.it.frozen 6
    have z7 := hF.it.c7
    have y7 := hF.it.frozen 7
    have z8 := hF.it.c8
    have y8 := hF.it.frozen 8
    have z9 := hF.it.c9
    have y9 := hF.it.frozen 9
    have z10 := hF.it.c10
    have y10 := hF.it.frozen 10
    have z11 := hF.it.c11
    have y11 := hF.it.frozen 11
    have z12 := hF.it.c12
    have y12 := hF.it.frozen 12
    have hDl : w.heap.size + 1 + 1 + 1 ≤ D := by omega
    gi_wp2
    go_wp2_with fail
    go_region
    go_wp2_with fail
    rw [Exit.noGoto_ret]
    exact last_end F0 w W D hDl ip xp true _ _ _ _ _ _ _ _ _ _ _ _ _ _ _ _ _ _ _ _ _ _ _ _ _ hF hB hK _ rfl HE

end Go.Proofs.Ytnngkpggejmdkaa
