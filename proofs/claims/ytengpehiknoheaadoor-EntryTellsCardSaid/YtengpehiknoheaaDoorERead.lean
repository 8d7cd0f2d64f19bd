/-
  The walk of read: one entry off bytes.
-/
import Derived.Test.YtengpehiknoheaaDoorEPut
namespace Go.Proofs.YtengpehiknoheaaDoor
open Go.RowKit Go.Shelf Oct

attribute [local go_sem] Oper.semAt_some

/-! ### What is read: pure -/
theorem rowR2 (l : List UInt8) : (∃ u0 u1 r, rowR 2 l = ([u0, u1], r, 0) ∧ u0 < 18446744073709551616 ∧ u1 < 18446744073709551616 ∧ r.length ≤ l.length) ∨ (∃ e, e ≠ 0 ∧ rowR 2 l = ([], [], e)) := by
  show (∃ u0 u1 r, rowG 2 [] l = ([u0, u1], r, 0) ∧ _ ∧ _ ∧ _) ∨ (∃ e, e ≠ 0 ∧ rowG 2 [] l = ([], [], e))
  by_cases h1 : (getR l).2.2 = 0
  · by_cases h2 : (getR (getR l).2.1).2.2 = 0
    · refine .inl ⟨(getR l).1, (getR (getR l).2.1).1, (getR (getR l).2.1).2.1, by simp [rowG, h1, h2], getR_lt _, getR_lt _, ?_⟩
      have a := getR_rest l
      have b := getR_rest (getR l).2.1
      omega
    · exact .inr ⟨_, h2, by simp [rowG, h1, h2]⟩
  · exact .inr ⟨_, h1, by simp [rowG, h1]⟩
theorem getN_rest (n : Nat) (l : List UInt8) : (getN n l).2.1.length ≤ l.length := by
  have h := getR_rest l
  unfold getN
  split <;> exact h
theorem readR_bad {l : List UInt8} (h : headB l = false) : readR l = none := by unfold readR; rw [h]; rfl
theorem readR_ok {l : List UInt8} {u0 u1 : Nat} {r : List UInt8} (h : rowR 2 l = ([u0, u1], r, 0)) (h0 : u0 ≤ 9223372036854775807) (h1 : u1 ≤ 255) :
    readR l = match bodyR (namesOf u1) (En.only u0 u1) r with
      | some p => if known u1 = true then some p else none
      | none => none := by
  have hb : headB l = true := by
    unfold headB
    rw [h]
    simp [h0, h1]
  unfold readR
  rw [if_pos hb]
  unfold headX
  rw [h]
  rfl
theorem bodyR_step {p : Nat} {ns : List Nat} {y : En} {l : List UInt8} (h : (getN p l).2.2 = 0) (hm : mayN p (getN p l).1 = true) : bodyR (p :: ns) y l = bodyR ns (y.put p (getN p l).1) (getN p l).2.1 := by
  rw [bodyR, if_pos ⟨h, hm⟩]
theorem bodyR_bad {p : Nat} {ns : List Nat} {y : En} {l : List UInt8} (h : ¬ ((getN p l).2.2 = 0 ∧ mayN p (getN p l).1 = true)) : bodyR (p :: ns) y l = none := by
  rw [bodyR, if_neg h]

/-! ### What stands in memory -/
structure RSt (w W : World) (x : En) (r : ByteArray) (b : Bool) : Prop where
  x : EnAt W (w.heap.size) x
  r : Boxed W (w.heap.size + 1) 9 (.string r)
  i : Boxed W (w.heap.size + 1 + 1) 4 (.bool b)
  below : Below w.heap.size w W
section
variable {w W W' : World} {x : En} {r : ByteArray} {b : Bool}
theorem RSt.fresh (h : RSt w W x r b) (hb : But [] W W') : RSt w W' x r b :=
  ⟨h.x.but hb (by simp), (hb.block _ (Boxed.lt h.r) (by simp)).trans h.r, (hb.block _ (Boxed.lt h.i) (by simp)).trans h.i, h.below.trans (hb.below h.below.size (by simp))⟩
theorem RSt.setX (h : RSt w W x r b) (z : En) : RSt w (put13 W (w.heap.size) z) z r b := by
  have hb := but_put13 W (w.heap.size) z
  exact ⟨h.x.put13 z, (hb.block _ (Boxed.lt h.r) (by simp)).trans h.r, (hb.block _ (Boxed.lt h.i) (by simp <;> omega)).trans h.i, h.below.trans (hb.below h.below.size (by simp))⟩
theorem RSt.setR (h : RSt w W x r b) (z : ByteArray) : RSt w (W.setCell ⟨w.heap.size + 1, 0, none⟩ (.string z)) x z b := by
  have hb := (But.refl [w.heap.size + 1] W).set (p := ⟨w.heap.size + 1, 0, none⟩) (.inl (by simp)) (.string z)
  exact ⟨h.x.but hb (by simp), Boxed.set _ h.r, (hb.block _ (Boxed.lt h.i) (by simp)).trans h.i, h.below.trans (hb.below h.below.size (by simp))⟩
theorem RSt.setI (h : RSt w W x r b) (z : Bool) : RSt w (W.setCell ⟨w.heap.size + 1 + 1, 0, none⟩ (.bool z)) x r z := by
  have hb := (But.refl [w.heap.size + 1 + 1] W).set (p := ⟨w.heap.size + 1 + 1, 0, none⟩) (.inl (by simp)) (.bool z)
  exact ⟨h.x.but hb (by simp <;> omega), (hb.block _ (Boxed.lt h.r) (by simp)).trans h.r, Boxed.set _ h.i, h.below.trans (hb.below h.below.size (by simp <;> omega))⟩
theorem RSt.lt (h : RSt w W x r b) : w.heap.size + 1 + 1 < W.heap.size := Boxed.lt h.i
end
theorem rst_abides {β : Type} (w : World) (N : Nat) (wd : ByteArray) (m : Nat) (kn : Bool) (R : β → En → List UInt8 → Prop) (b : Nat) (hb : w.heap.size ≤ b) :
    OwnFrom b (fun (s : β) W => (∃ (y : En) (r : List UInt8), RSt w W y ⟨r.toArray⟩ kn ∧ R s y r) ∧ KdAt W N wd m) := fun s A W' row hs hg hr => by
  obtain ⟨⟨y, r, h, hR⟩, hN⟩ := hs
  have hk : ∀ {k : Nat} {cs : Array Value} {t : TypeId} {z : Nat × Nat}, A.heap[k]? = some (.cells cs t z) → W'.heap[k]? = A.heap[k]? := fun h => cells_kept hg (fun r e => (hr r e).2) h
  exact ⟨⟨y, r, ⟨h.x.of_block (hk h.x), (hk h.r).trans h.r, (hk h.i).trans h.i, ownFrom_below (β := Unit) (Nat.le_refl _) hb () A W' row h.below hg hr⟩, hR⟩, Two.of_block hN (hk hN)⟩
theorem rst_abides0 {β : Type} (w : World) (R : β → Prop) (c : Code) (b : Nat) (hb : w.heap.size ≤ b) :
    OwnFrom b (fun (s : β) W => c = .ret ∧ RSt w W En.zero ⟨#[]⟩ false ∧ R s) := fun s A W' row hs hg hr => by
  obtain ⟨h0, h, hR⟩ := hs
  have hk : ∀ {k : Nat} {cs : Array Value} {t : TypeId} {z : Nat × Nat}, A.heap[k]? = some (.cells cs t z) → W'.heap[k]? = A.heap[k]? := fun h => cells_kept hg (fun r e => (hr r e).2) h
  exact ⟨h0, ⟨h.x.of_block (hk h.x), (hk h.r).trans h.r, (hk h.i).trans h.i, ownFrom_below (β := Unit) (Nat.le_refl _) hb () A W' row h.below hg hr⟩, hR⟩
/-- What read answers. -/
def ReadPost (w : World) (s : List UInt8) (e : Ending) (w' : World) : Prop :=
  ∃ (x : En) (r : List UInt8), x.ok ∧ e = .returned (.tuple #[.agg #[.int .i64 x.a, .int .u8 (x.k : Int), .int .i64 x.w, .int .i64 x.t, .int .i64 x.p, .int .i64 x.c, .int .i64 x.b, .int .i64 x.q, .int .i64 x.v, .int .i64 x.u, .bool x.o, .int .i64 x.e, .int .u64 (x.s : Int)], .string ⟨r.toArray⟩, .bool (readR s).isSome]) ∧ (∀ p, readR s = some p → x = p.1 ∧ r = p.2) ∧ Below w.heap.size w w'
theorem read_cells {w W : World} {x : En} {r : ByteArray} {b : Bool} (T : Array Value) (hG : RSt w W x r b) (h4 : T[4]?.getD undef = .pointer (some ⟨w.heap.size, 0, none⟩)) (h5 : T[5]?.getD undef = .pointer (some ⟨w.heap.size + 1, 0, none⟩)) (h6 : T[6]?.getD undef = .pointer (some ⟨w.heap.size + 1 + 1, 0, none⟩)) :
    (results Tryd.f32 T).run Tryd.prog W = .ok (.tuple #[.agg #[.int .i64 x.a, .int .u8 (x.k : Int), .int .i64 x.w, .int .i64 x.t, .int .i64 x.p, .int .i64 x.c, .int .i64 x.b, .int .i64 x.q, .int .i64 x.v, .int .i64 x.u, .bool x.o, .int .i64 x.e, .int .u64 (x.s : Int)], .string r, .bool b]) W := by
  have x0 := hG.x.c0; have x1 := hG.x.c1; have x2 := hG.x.c2; have x3 := hG.x.c3; have x4 := hG.x.c4; have x5 := hG.x.c5; have x6 := hG.x.c6; have x7 := hG.x.c7; have x8 := hG.x.c8; have x9 := hG.x.c9; have x10 := hG.x.c10; have x11 := hG.x.c11; have x12 := hG.x.c12
  have c1 := Boxed.cell hG.r
  have c2 := Boxed.cell hG.i
  simp [results, Tryd.f32, go_sem, h4, h5, h6, c1, c2, x0, x1, x2, x3, x4, x5, x6, x7, x8, x9, x10, x11, x12]
theorem read_end (w W : World) (D : Nat) (T : Array Value) (s : List UInt8) (x : En) (r : List UInt8) (b : Bool) (hx : x.ok) (h4 : T[4]?.getD undef = .pointer (some ⟨w.heap.size, 0, none⟩)) (h5 : T[5]?.getD undef = .pointer (some ⟨w.heap.size + 1, 0, none⟩)) (h6 : T[6]?.getD undef = .pointer (some ⟨w.heap.size + 1 + 1, 0, none⟩))
    (hb : (readR s).isSome = b) (hp : ∀ p, readR s = some p → x = p.1 ∧ r = p.2) (hG : RSt w W x ⟨r.toArray⟩ b) (hw : w.heap.size ≤ D) (hK : W.heap[D]? = some (.deferred (some []))) :
    bodyPostM Fence.wide 4 Tryd.prog Tryd.f32 (ReadPost w s) .ret { tmps := T, defers := [{ target := Target.collected D, args := #[] }] } W := by
  refine ⟨by simp, .inl ⟨_, _, rfl, run_takeDeferred hK, ?_⟩⟩
  have hne : ∀ {k : Nat} {cs : Array Value} {t : TypeId} {z : Nat × Nat}, W.heap[k]? = some (.cells cs t z) → (W.putObj D (.deferred none)).heap[k]? = W.heap[k]? := fun h => (grownBy_putObj' W D (.deferred none)).block _ (Array.getElem?_eq_some_iff.1 h).1 (fun e => by
    obtain rfl := Option.some.inj e
    rw [hK] at h
    cases h)
  have hbl : Below w.heap.size W (W.putObj D (.deferred none)) := (Below.refl _ W).grown (grownBy_putObj' W D _) hG.below.size (fun k e => by cases e; exact hw)
  have hG' : RSt w (W.putObj D (.deferred none)) x ⟨r.toArray⟩ b := ⟨hG.x.of_block (hne hG.x), (hne hG.r).trans hG.r, (hne hG.i).trans hG.i, hG.below.trans hbl⟩
  exact ⟨_, read_cells T hG' h4 h5 h6, x, r, hx, by rw [hb], hp, hG'.below⟩

set_option maxRecDepth 100000 in
set_option maxHeartbeats 12800000 in
theorem read_any (M : Nat) (s : List UInt8) (w : World) (hM : KMap w M kindsL) (hs : s.length ≤ 100000) :
    Calls Tryd.prog 32 #[.map (some M), .string ⟨s.toArray⟩] w (ReadPost w s) := by
  obtain ⟨w3, hw3⟩ : ∃ w3, w3 = ((w.alloc (.cells #[.int .i64 0, .int .u8 0, .int .i64 0, .int .i64 0, .int .i64 0, .int .i64 0, .int .i64 0, .int .i64 0, .int .i64 0, .int .i64 0, .bool false, .int .i64 0, .int .u64 0] 26)).alloc (.cells #[.string ⟨#[]⟩] 9)).alloc (.cells #[.bool false] 4) := ⟨_, rfl⟩
  have hG3 : RSt w w3 En.zero ⟨#[]⟩ false := by
    obtain ⟨W1, h1⟩ : ∃ W1, W1 = w.alloc (.cells #[.int .i64 0, .int .u8 0, .int .i64 0, .int .i64 0, .int .i64 0, .int .i64 0, .int .i64 0, .int .i64 0, .int .i64 0, .int .i64 0, .bool false, .int .i64 0, .int .u64 0] 26) := ⟨_, rfl⟩
    obtain ⟨W2, h2⟩ : ∃ W2, W2 = W1.alloc (.cells #[.string ⟨#[]⟩] 9) := ⟨_, rfl⟩
    have e3 : w3 = W2.alloc (.cells #[.bool false] 4) := by rw [hw3, h2, h1]
    have b1 : But [] w W1 := by rw [h1]; exact (But.refl [] w).alloc _
    have b2 : But [] W1 W2 := by rw [h2]; exact (But.refl [] W1).alloc _
    have b3 : But [] W2 w3 := by rw [e3]; exact (But.refl [] W2).alloc _
    have s1 : W1.heap.size = w.heap.size + 1 := by rw [h1]; simp
    have s2 : W2.heap.size = w.heap.size + 1 + 1 := by rw [h2]; simp [s1]
    have x1 : EnAt W1 w.heap.size En.zero := by rw [h1]; exact enAt_new w En.zero
    have x2 : Boxed W2 (w.heap.size + 1) 9 (.string ⟨#[]⟩) := by rw [← s1, h2]; exact Boxed.new W1 _ _
    have x3 : Boxed w3 (w.heap.size + 1 + 1) 4 (.bool false) := by rw [← s2, e3]; exact Boxed.new W2 _ _
    exact ⟨x1.but (b2.next b3) (by simp), (b3.block _ (Boxed.lt x2) (by simp)).trans x2, x3, ((b1.next b2).next b3).below (Nat.le_refl _) (by simp)⟩
  have hMw : KMap w3 M kindsL := hM.fresh (But.of_below (by rw [hw3]; exact Below.al (below2 w _ _) (by simp; omega) _) [])
  have hgr := getRow_any ⟨s.toArray⟩ 2 w3 (by rw [size_l]; omega) (by omega) (by omega)
  rw [data_l] at hgr
  have hz0 : En.zero.ok := En.ok_only i64_zero (by omega)
  obtain ⟨ss, hss⟩ : ∃ ss : ByteArray, ss = ⟨s.toArray⟩ := ⟨_, rfl⟩
  rw [← hss] at hgr ⊢
  clear hss hM
  refine (callsIn_wide (n := 4)).1 ?_
  refine callsIn_of_wp_marks Tryd.func32 rfl trivial ?_ rfl
  simp only [Tryd.ntmps32, List.size_toArray, List.length_cons, List.length_nil, Nat.reduceAdd, Nat.reduceSub, Array.replicate_succ, Array.replicate_zero, List.push_toArray, List.append_toArray, List.nil_append, List.cons_append]
  refine wpIn_wide.2 ?_
  go_wp2_with fail
  rw [← hw3]
  clear hw3
  rcases rowR2 s with ⟨u0, u1, rr, hq, hu0, hu1, hrl⟩ | ⟨er, her, hq⟩
  · rw [hq] at hgr
    refine hgr.mono ?_
    rintro e w4 ⟨v4, rfl, hown, hb4⟩
    have hG4 := hG3.fresh (But.of_below hb4 [])
    have hM4 := hMw.fresh (But.of_below hb4 [])
    obtain ⟨g, cap, rfl, hg⟩ : ∃ g cap, v4 = .slice (some ⟨g, 0, none⟩) 2 cap ∧ w3.heap.size ≤ g := by
      rcases hown.2 with ⟨_, h⟩ | ⟨g, cap, cur, h, hg, _⟩
      · simp at h
      · exact ⟨g, cap, h, hg⟩
    have hc0 : w4.cell? ⟨g, 0, none⟩ = some (.int .u64 (u0 : Int)) := by simpa [U64] using hown.cellAt 0 (by simp)
    have hc1 : w4.cell? ⟨g, 1, none⟩ = some (.int .u64 (u1 : Int)) := by simpa [U64] using hown.cellAt 1 (by simp)
    have hl3 := hG3.lt
    obtain ⟨rs, hrs⟩ : ∃ rs : ByteArray, rs = ⟨rr.toArray⟩ := ⟨_, rfl⟩
    have hbs := (But.refl [w.heap.size + 1] w4).set (p := ⟨w.heap.size + 1, 0, none⟩) (.inl (by simp)) (.string rs)
    have hd0 := hbs.cell hc0 (by simp; omega)
    have hd1 := hbs.cell hc1 (by simp; omega)
    have i0 := Boxed.frozen hG4.r
    have i1 := Boxed.cell hG4.r
    have hG5 := hG4.setR rs
    have hM5 : KMap (w4.setCell ⟨w.heap.size + 1, 0, none⟩ (.string rs)) M kindsL := hM4.but hbs (by
      simp
      rintro rfl
      obtain ⟨es, cl, hm⟩ := hM4.is
      rw [show w4.heap[_]? = _ from hG4.r] at hm
      cases hm)
    have z0 := hG5.x.c0; have z1 := hG5.x.c1; have z2 := hG5.x.c2; have z3 := hG5.x.c3; have z4 := hG5.x.c4; have z5 := hG5.x.c5; have z6 := hG5.x.c6; have z7 := hG5.x.c7; have z8 := hG5.x.c8; have z9 := hG5.x.c9; have z10 := hG5.x.c10; have z11 := hG5.x.c11; have z12 := hG5.x.c12; have zf := hG5.x.frozen
    have i2 := Boxed.frozen hG5.i
    have i3 := Boxed.cell hG5.i
    have i4 := Boxed.frozen hG5.r
    have i5 := Boxed.cell hG5.r
    simp only
    rw [← hrs]
    have HRS := Lib.hid hrs
    clear hgr hown hrs hM4
    by_cases h0 : u0 ≤ 9223372036854775807
    · have h0' : ¬ (9223372036854775807 : Int) < (u0 : Int) := by omega
      by_cases h1 : u1 ≤ 255
      · have h1' : ¬ (255 : Int) < (u1 : Int) := by omega
        have hRead := Lib.hid (readR_ok hq h0 h1)
        have q0 : IntKind.i64.wrap (u0 : Int) = (u0 : Int) := by rw [IntKind.wrap_i64]; omega
        have q1 : IntKind.u8.wrap (u1 : Int) = (u1 : Int) := by rw [IntKind.wrap_u8]; omega
        have hG6 := (hG5.setX (En.only u0 u1))
        have hM6 : KMap (put13 (w4.setCell ⟨w.heap.size + 1, 0, none⟩ (.string rs)) (w.heap.size) (En.only u0 u1)) M kindsL := hM5.but (but_put13 _ _ _) (by
          simp
          rintro rfl
          obtain ⟨es, cl, hm⟩ := hM5.is
          rw [show (w4.setCell ⟨w.heap.size + 1, 0, none⟩ (.string rs)).heap[_]? = _ from hG5.x] at hm
          cases hm)
        have hX0 : (En.only (u0 : Int) u1).ok := En.ok_only (by unfold I64b; omega) (by omega)
        obtain ⟨w6, hw6⟩ : ∃ w6, w6 = (((((((((((((((w4.setCell ⟨w.heap.size + 1, 0, none⟩ (.string rs)).setCell ⟨w.heap.size, 0, none⟩ (.int .i64 (u0 : Int))).setCell ⟨w.heap.size, 1, none⟩ (.int .u8 (u1 : Int))).setCell ⟨w.heap.size, 2, none⟩ (.int .i64 0)).setCell ⟨w.heap.size, 3, none⟩ (.int .i64 0)).setCell ⟨w.heap.size, 4, none⟩ (.int .i64 0)).setCell ⟨w.heap.size, 5, none⟩ (.int .i64 0)).setCell ⟨w.heap.size, 6, none⟩ (.int .i64 0)).setCell ⟨w.heap.size, 7, none⟩ (.int .i64 0)).setCell ⟨w.heap.size, 8, none⟩ (.int .i64 0)).setCell ⟨w.heap.size, 9, none⟩ (.int .i64 0)).setCell ⟨w.heap.size, 10, none⟩ (.bool false)).setCell ⟨w.heap.size, 11, none⟩ (.int .i64 0)).setCell ⟨w.heap.size, 12, none⟩ (.int .u64 0))).drew := ⟨_, rfl⟩
        have hG7 : RSt w w6 (En.only u0 u1) rs false := by rw [hw6]; exact hG6.fresh ((But.refl [] _).drew)
        have hM7 : KMap w6 M kindsL := by rw [hw6]; exact hM6.fresh ((But.refl [] _).drew)
        clear hq hM5 hMw hG3 hG4 hb4 hG6 hM6
        go_wp2_with fail
        go_region
        rw [← hw6]
        clear hw6 hc0 hc1 hd0 hd1 i0 i1 i2 i3 i4 i5 hbs z0 z1 z2 z3 z4 z5 z6 z7 z8 z9 z10 z11 z12 hG5 zf
        obtain ⟨wd, hwd⟩ : ∃ wd : ByteArray, wd = ⟨(wordL u1).toArray⟩ := ⟨_, rfl⟩
        obtain ⟨m, hm⟩ : ∃ m, m = maskN u1 := ⟨_, rfl⟩
        have hm64 : m < 18446744073709551616 := by have := maskN_lt u1; omega
        have HN : Hid ((nsTo 13 m).map (·.val) = namesOf u1) := Lib.hid (by rw [hm]; exact nsOf_map u1)
        have hkv : kinV u1 = .agg #[.string wd, .int .u64 (m : Int)] := by rw [hwd, hm]; rfl
        have hl7 := hM7.look (o := u1) (by omega)
        rw [hkv] at hl7
        obtain ⟨kn, hkn⟩ : ∃ kn, kn = known u1 := ⟨_, rfl⟩
        rw [← hkn] at hl7
        have HKN := Lib.hid hkn
        clear hkv hwd hm hM7 hkn
        have k1 := hG7.x.c1
        simp only [En.only] at k1
        have f7 := Boxed.frozen hG7.i
        have c7 := Boxed.cell hG7.i
        have hl6 := hG7.lt
        have hG8 := hG7.setI kn
        obtain ⟨w7, hw7⟩ : ∃ w7, w7 = w6.setCell ⟨w.heap.size + 1 + 1, 0, none⟩ (.bool kn) := ⟨_, rfl⟩
        have hsz7 : w7.heap.size = w6.heap.size := by rw [hw7]; simp [World.setCell]
        rw [← hw7] at hG8
        obtain ⟨w8, hw8⟩ : ∃ w8, w8 = w7.alloc (.cells #[.string wd, .int .u64 (m : Int)] 44) := ⟨_, rfl⟩
        have hb8 : But [] w7 w8 := by rw [hw8]; exact (But.refl [] w7).alloc _
        have hK8 : KdAt w8 w6.heap.size wd m := by rw [hw8, ← hsz7]; exact two_new w7 _ _ _
        have hG9 := hG8.fresh hb8
        have k9 := Two.c0 hK8
        have k91 := Two.c1 hK8
        have hnm := named_any wd m w8
        rw [hw8, hw7] at hnm k9 k91
        go_wp2_with fail
        refine hnm.mono ?_
        rw [← hw7, ← hw8]
        rintro e w10 ⟨rfl, hw10⟩
        have hb10 : But [] w8 w10 := by rw [hw10]; exact (But.refl [] _).alloc _
        have hN10 : KdAt w10 w8.heap.size wd m := by rw [hw10]; exact two_new w8 _ _ _
        have hG10 := hG9.fresh hb10
        have hNl := KdAt.lt hN10
        have hl8 := hG9.lt
        have HW := Lib.hid hw8
        have HW7 := Lib.hid hw7
        clear hnm hw10 hG9 hK8 k9 k91 f7 c7 hw8 hw7 hG8 hG7 hb8 hb10 k1 hl7
        go_wp2_with fail
        have hsub : ∀ (k : Nat), k ≤ w.heap.size + 1 + 1 → k < w10.heap.size := fun k hk => by omega
        refine (wpIn_wide (n := 4)).1 ?_
        refine wpIn_rangeFunc_ownG rfl (by omega) (gf := 42) (lb := #[.pointer (some ⟨w8.heap.size, 0, none⟩)]) rfl trivial (enters_of Tryd.func42 (by kernel_rfl) rfl)
          (iter_named hm64 hN10) (fun h k => KeepK.trans h k) (fun W l o o' hl ho hc _ => keepK_putObj W l o o' (by omega) ho hc) (Below.refl _ _) (fun _ => rfl)
          (fun ps W => (∃ (y : En) (r : List UInt8), RSt w W y ⟨r.toArray⟩ kn ∧ y.ok ∧ r.length ≤ 100000 ∧ ∀ tail, bodyR (ps.map (·.val) ++ tail) (En.only u0 u1) rr = bodyR tail y r) ∧ KdAt W w8.heap.size wd m)
          (fun c ps W => c = .ret ∧ RSt w W En.zero ⟨#[]⟩ false ∧ ∀ tail, bodyR (ps.map (·.val) ++ tail) (En.only u0 u1) rr = none)
          (rst_abides w w8.heap.size wd m kn (fun (ps : List (Fin 13)) (y : En) (r : List UInt8) => y.ok ∧ r.length ≤ 100000 ∧ ∀ tail, bodyR (ps.map (·.val) ++ tail) (En.only u0 u1) rr = bodyR tail y r) _ (by omega))
          (fun c => rst_abides0 w (fun ps : List (Fin 13) => ∀ tail, bodyR (ps.map (·.val) ++ tail) (En.only u0 u1) rr = none) c _ (by omega))
          ⟨⟨_, rr, by rw [← HRS.out]; exact hG10, hX0, by omega, fun _ => rfl⟩, hN10⟩ ?a1 ?assign ?body ?done ?stop
        case assign =>
          intro l p W K hK
          gi_wp2
          exact hK
        case body =>
          rintro lp ps p W ⟨⟨y, r, hG, hy, hr, hT⟩, hN⟩ hlt2
          have he := eget_any p.val r p.isLt (by unfold maxLen; omega) W
          obtain ⟨v, r', e, hg⟩ : ∃ v r' e, getN p.val r = (v, r', e) := ⟨_, _, _, rfl⟩
          have hvb : I64b v := by have := getN_b p.val r; rw [hg] at this; exact this
          have hrl' : r'.length ≤ r.length := by have := getN_rest p.val r; rw [hg] at this; exact this
          unfold GetNV at he
          rw [hg] at he
          simp only at he
          obtain ⟨rs0, hrs0⟩ : ∃ rs0 : ByteArray, rs0 = ⟨r.toArray⟩ := ⟨_, rfl⟩
          obtain ⟨rs1, hrs1⟩ : ∃ rs1 : ByteArray, rs1 = ⟨r'.toArray⟩ := ⟨_, rfl⟩
          rw [← hrs0, ← hrs1] at he
          rw [← hrs0] at hG
          have HG := Lib.hid hg
          have HR1 := Lib.hid hrs1
          have HT := Lib.hid hT
          have HY := Lib.hid hy
          have c5 := Boxed.cell hG.r
          have hGl := hG.lt
          have hm := fun W => may_any p.val v p.isLt W
          have hmu : mayN p.val v = mayN p.val v := rfl
          obtain ⟨u, hu⟩ : ∃ u, u = mayN p.val v := ⟨_, rfl⟩
          rw [← hu] at hm
          have HU := Lib.hid hu
          clear hg hrs0 hrs1 hT hu hmu hy
          have hret : ∀ W6, But [] W W6 → e ≠ 0 ∨ u = false → ownPostG w10.heap.size (KeepK w8.heap.size) (fun ps W => (∃ (y : En) (r : List UInt8), RSt w W y ⟨r.toArray⟩ kn ∧ y.ok ∧ r.length ≤ 100000 ∧ ∀ tail, bodyR (ps.map (·.val) ++ tail) (En.only u0 u1) rr = bodyR tail y r) ∧ KdAt W w8.heap.size wd m)
              (fun c ps W => c = .ret ∧ RSt w W En.zero ⟨#[]⟩ false ∧ ∀ tail, bodyR (ps.map (·.val) ++ tail) (En.only u0 u1) rr = none) (ps ++ [p]) W .ret { tmps := #[], defers := [] } (((put13 W6 (w.heap.size) En.zero).setCell ⟨w.heap.size + 1, 0, none⟩ (.string ⟨#[]⟩)).setCell ⟨w.heap.size + 1 + 1, 0, none⟩ (.bool false)) := fun W6 hb6 hbad => by
            have hG6 := (((hG.fresh hb6).setX En.zero).setR ⟨#[]⟩).setI false
            have c1 : But [w.heap.size, w.heap.size + 1, w.heap.size + 1 + 1] W (((put13 W6 (w.heap.size) En.zero).setCell ⟨w.heap.size + 1, 0, none⟩ (.string ⟨#[]⟩)).setCell ⟨w.heap.size + 1 + 1, 0, none⟩ (.bool false)) :=
              (((hb6.mono (by simp)).next ((but_put13 W6 (w.heap.size) En.zero).mono (by simp))).set (p := ⟨w.heap.size + 1, 0, none⟩) (.inl (by simp)) _).set (p := ⟨w.heap.size + 1 + 1, 0, none⟩) (.inl (by simp)) _
            refine ⟨keepsFrom_but c1 (by simp; omega), rfl, hG6, fun tail => ?_⟩
            have h1 := HT.out (p.val :: tail)
            rw [List.map_append, List.append_assoc]
            refine h1.trans (bodyR_bad ?_)
            rw [HG.out]
            rintro ⟨h2, h3⟩
            rcases hbad with h4 | h4
            · exact h4 h2
            · rw [HU.out] at h4
              rw [h4] at h3
              cases h3
          have HRET := Lib.hid hret
          clear hret
          by_cases he0 : e = 0
          · subst he0
            cases u with
            | true =>
              obtain ⟨z, hz⟩ : ∃ z, z = y.put p.val v := ⟨_, rfl⟩
              have hzok : z.ok := by rw [hz]; exact HY.out.put p.val hvb
              have hwith := fun W => with_any y p.val v hvb p.isLt W
              rw [← hz] at hwith
              unfold En.val at hwith
              have HZ := Lib.hid hz
              clear hz
              gi_wp2_with (first
                | (refine ⟨trivial, ?_⟩; gi_at_call 55; refine (callsIn_wide.2 he).mono ?_; rintro e W1 ⟨rfl, hb1⟩)
                | (refine ⟨trivial, ?_⟩; gi_at_call 38; refine (callsIn_wide.2 (hm _)).mono ?_; rintro e W2 ⟨rfl, hb2⟩; have hG2 := (hG.fresh (But.of_below hb1 [])).fresh (But.of_below hb2 []); have y0 := hG2.x.c0; have y1 := hG2.x.c1; have y2 := hG2.x.c2; have y3 := hG2.x.c3; have y4 := hG2.x.c4; have y5 := hG2.x.c5; have y6 := hG2.x.c6; have y7 := hG2.x.c7; have y8 := hG2.x.c8; have y9 := hG2.x.c9; have y10 := hG2.x.c10; have y11 := hG2.x.c11; have y12 := hG2.x.c12)
                | (refine ⟨trivial, ?_⟩; gi_at_call 39; refine (callsIn_wide.2 (hwith _)).mono ?_; rintro e W3 ⟨rfl, hb3⟩; have hG3 := hG2.fresh (But.of_below hb3 []); have t0 := hG3.x.c0; have t1 := hG3.x.c1; have t2 := hG3.x.c2; have t3 := hG3.x.c3; have t4 := hG3.x.c4; have t5 := hG3.x.c5; have t6 := hG3.x.c6; have t7 := hG3.x.c7; have t8 := hG3.x.c8; have t9 := hG3.x.c9; have t10 := hG3.x.c10; have t11 := hG3.x.c11; have t12 := hG3.x.c12; have zf := hG3.x.frozen; have hG4 := hG3.setX z; have r4 := Boxed.cell hG4.r; have g4 := Boxed.frozen hG4.r; unfold put13 at r4 g4))
              have c1 : But [w.heap.size, w.heap.size + 1] W ((put13 W3 (w.heap.size) z).setCell ⟨w.heap.size + 1, 0, none⟩ (.string rs1)) :=
                ((((But.of_below hb1 [w.heap.size, w.heap.size + 1]).next (But.of_below hb2 _)).next (But.of_below hb3 _)).next ((but_put13 W3 (w.heap.size) z).mono (by simp))).set (p := ⟨w.heap.size + 1, 0, none⟩) (.inl (by simp)) _
              refine ⟨keepsFrom_but c1 (by simp; omega), hN.keeps c1 (by simp; omega), ⟨z, r', by rw [← HR1.out]; exact hG4.setR rs1, hzok, by omega, fun tail => ?_⟩, hN.but c1 (by simp; omega)⟩
              have h1 := HT.out (p.val :: tail)
              rw [List.map_append, List.append_assoc]
              refine h1.trans ?_
              rw [bodyR_step (by rw [HG.out]) (by rw [HG.out]; exact HU.out.symm), HG.out, HZ.out]
            | false =>
              gi_wp2_with (first
                | (refine ⟨trivial, ?_⟩; gi_at_call 55; refine (callsIn_wide.2 he).mono ?_; rintro e W1 ⟨rfl, hb1⟩)
                | (refine ⟨trivial, ?_⟩; gi_at_call 38; refine (callsIn_wide.2 (hm _)).mono ?_; rintro e W2 ⟨rfl, hb2⟩; have hG2 := (hG.fresh (But.of_below hb1 [])).fresh (But.of_below hb2 []); have y0 := hG2.x.c0; have y1 := hG2.x.c1; have y2 := hG2.x.c2; have y3 := hG2.x.c3; have y4 := hG2.x.c4; have y5 := hG2.x.c5; have y6 := hG2.x.c6; have y7 := hG2.x.c7; have y8 := hG2.x.c8; have y9 := hG2.x.c9; have y10 := hG2.x.c10; have y11 := hG2.x.c11; have y12 := hG2.x.c12; have zf := hG2.x.frozen; have r2 := Boxed.cell hG2.r; have g2 := Boxed.frozen hG2.r; have i2 := Boxed.cell hG2.i; have j2 := Boxed.frozen hG2.i))
              exact HRET.out W2 ((But.of_below hb1 []).next (But.of_below hb2 [])) (.inr (by first | rfl | trivial))
          · have ner : ((e : Int) != 0) = true := by simp; omega
            gi_wp2_with (first
              | (refine ⟨trivial, ?_⟩; gi_at_call 55; refine (callsIn_wide.2 he).mono ?_; rintro e1 W2 ⟨rfl, hb1⟩; have hG2 := hG.fresh (But.of_below hb1 []); have y0 := hG2.x.c0; have y1 := hG2.x.c1; have y2 := hG2.x.c2; have y3 := hG2.x.c3; have y4 := hG2.x.c4; have y5 := hG2.x.c5; have y6 := hG2.x.c6; have y7 := hG2.x.c7; have y8 := hG2.x.c8; have y9 := hG2.x.c9; have y10 := hG2.x.c10; have y11 := hG2.x.c11; have y12 := hG2.x.c12; have zf := hG2.x.frozen; have r2 := Boxed.cell hG2.r; have g2 := Boxed.frozen hG2.r; have i2 := Boxed.cell hG2.i; have j2 := Boxed.frozen hG2.i))
            refine ⟨trivial, ?_⟩
            gi_wp2
            exact HRET.out W2 (But.of_below hb1 []) (.inl he0)
        case done =>
          rintro D xs W hD hxs ⟨⟨y, r, hG, hy, hr, hT⟩, hN⟩ hK
          have hRead2 : Hid (readR s = if kn = true then some (y, r) else none) := Lib.hid (by
            have h1 := hT []
            rw [show xs = _ from hxs, HN.out, List.append_nil] at h1
            rw [hRead.out, h1, ← HKN.out]
            rfl)
          clear hxs hT
          obtain ⟨rs1, hrs1⟩ : ∃ rs1 : ByteArray, rs1 = ⟨r.toArray⟩ := ⟨_, rfl⟩
          rw [← hrs1] at hG
          have HRS1 := Lib.hid hrs1
          clear hrs1
          have y0 := hG.x.c0; have y1 := hG.x.c1; have y2 := hG.x.c2; have y3 := hG.x.c3; have y4 := hG.x.c4; have y5 := hG.x.c5; have y6 := hG.x.c6; have y7 := hG.x.c7; have y8 := hG.x.c8; have y9 := hG.x.c9; have y10 := hG.x.c10; have y11 := hG.x.c11; have y12 := hG.x.c12
          have r0 := Boxed.cell hG.r
          have i0 := Boxed.cell hG.i
          have zf := hG.x.frozen
          have hG2 := hG.setX y
          have jr := Boxed.frozen hG.r
          have ji := Boxed.frozen hG.i
          have hG3 := hG2.setR rs1
          have hG4 := (hG3.setI kn).fresh ((But.refl [] _).drew)
          have hK4 : ((((put13 W (w.heap.size) y).setCell ⟨w.heap.size + 1, 0, none⟩ (.string rs1)).setCell ⟨w.heap.size + 1 + 1, 0, none⟩ (.bool kn)).drew).heap[D]? = some (.deferred (some [])) := by
            have c1 : But [w.heap.size, w.heap.size + 1, w.heap.size + 1 + 1] W (((put13 W (w.heap.size) y).setCell ⟨w.heap.size + 1, 0, none⟩ (.string rs1)).setCell ⟨w.heap.size + 1 + 1, 0, none⟩ (.bool kn)) :=
              ((((but_put13 W (w.heap.size) y).mono (by simp)).set (p := ⟨w.heap.size + 1, 0, none⟩) (.inl (by simp)) _).set (p := ⟨w.heap.size + 1 + 1, 0, none⟩) (.inl (by simp)) _)
            exact (c1.drew.block D (Array.getElem?_eq_some_iff.1 hK).1 (by simp; omega)).trans hK
          go_wp2_with fail
          go_region
          go_wp2_with fail
          refine read_end w _ D _ s y r kn hy rfl rfl rfl (by rw [hRead2.out]; cases kn <;> rfl) (fun p hp => ?_) (by rw [← HRS1.out]; exact hG4) (by omega) hK4
          rw [hRead2.out] at hp
          cases kn with
          | true => cases hp; exact ⟨rfl, rfl⟩
          | false => cases hp
        case stop =>
          rintro D c ps W hD hps ⟨rfl, hG, hT⟩ hK
          have hNone : readR s = none := by
            obtain ⟨t, ht⟩ := hps
            have h1 := hT (t.map (·.val))
            rw [← List.map_append, ht, HN.out] at h1
            rw [hRead.out, h1]
          refine wpIn_wide.2 ?_
          go_wp2_with fail
          exact read_end w W D _ s En.zero [] false hz0 rfl rfl rfl (by rw [hNone]; rfl) (fun p hp => by rw [hNone] at hp; cases hp) hG (by omega) hK
      · have h1' : (255 : Int) < (u1 : Int) := by omega
        have hNone : readR s = none := readR_bad (by unfold headB; rw [hq]; simp; omega)
        clear hq hM5 hMw hG3 hG4 hb4
        go_wp2_with fail
        exact ⟨_, read_cells _ (((hG5.setX En.zero).setR ⟨#[]⟩).setI false) rfl rfl rfl, En.zero, [], hz0, by rw [hNone]; rfl, (fun p hp => by rw [hNone] at hp; cases hp), (((hG5.setX En.zero).setR ⟨#[]⟩).setI false).below⟩
    · have h0' : (9223372036854775807 : Int) < (u0 : Int) := by omega
      have hNone : readR s = none := readR_bad (by unfold headB; rw [hq]; simp; omega)
      clear hq hM5 hMw hG3 hG4 hb4
      go_wp2_with fail
      exact ⟨_, read_cells _ (((hG5.setX En.zero).setR ⟨#[]⟩).setI false) rfl rfl rfl, En.zero, [], hz0, by rw [hNone]; rfl, (fun p hp => by rw [hNone] at hp; cases hp), (((hG5.setX En.zero).setR ⟨#[]⟩).setI false).below⟩
  · rw [hq] at hgr
    have hNone : readR s = none := readR_bad (by unfold headB; rw [hq]; simp; intro h; exact absurd h her)
    refine hgr.mono ?_
    rintro e w4 ⟨v4, rfl, hown, hb4⟩
    have hG4 := hG3.fresh (But.of_below hb4 [])
    have ner : ((er : Int) != 0) = true := by simp; omega
    obtain ⟨va, vc, rfl⟩ : ∃ a c, v4 = .slice a 0 c := by
      rcases hown.2 with ⟨rfl, _⟩ | ⟨g, cap, cur, rfl, _⟩
      · exact ⟨none, 0, rfl⟩
      · exact ⟨_, _, rfl⟩
    have i0 := Boxed.frozen hG4.r
    have i1 := Boxed.cell hG4.r
    have hG5 := hG4.setR ⟨#[]⟩
    have z0 := hG5.x.c0; have z1 := hG5.x.c1; have z2 := hG5.x.c2; have z3 := hG5.x.c3; have z4 := hG5.x.c4; have z5 := hG5.x.c5; have z6 := hG5.x.c6; have z7 := hG5.x.c7; have z8 := hG5.x.c8; have z9 := hG5.x.c9; have z10 := hG5.x.c10; have z11 := hG5.x.c11; have z12 := hG5.x.c12; have zf := hG5.x.frozen
    have i2 := Boxed.frozen hG5.i
    have i3 := Boxed.cell hG5.i
    have i4 := Boxed.frozen hG5.r
    have i5 := Boxed.cell hG5.r
    clear hgr hown hq
    go_wp2_with fail
    exact ⟨_, read_cells _ (((hG5.setX En.zero).setR ⟨#[]⟩).setI false) rfl rfl rfl, En.zero, [], hz0, by rw [hNone]; rfl, (fun p hp => by rw [hNone] at hp; cases hp), (((hG5.setX En.zero).setR ⟨#[]⟩).setI false).below⟩
end Go.Proofs.YtengpehiknoheaaDoor
