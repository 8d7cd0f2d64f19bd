/-
  The walks of tollbarlaw24's two and alive.
-/
import Derived.Test.YtamkmmpockmpfaaTkMine
namespace Go.Proofs.Ytamkmmpockmpfaa
open Go.RowKit

def twoP : Prg := ⟨[], [[⟨10, 0, 0, 0, 0⟩]], [⟨[⟨false, -1, 0, 0⟩, ⟨false, -1, 0, 0⟩], false⟩]⟩
theorem two_may : checkW twoP = none := by decide
theorem two_small : Small twoP := ⟨by decide, by decide, by decide, by simp [twoP], by simp [twoP]⟩
theorem two_at {W : World} {C S I D : Nat} (hC : Blk W C 75 #[.bool false, .int .i64 (-1), .int .i64 0, .int .i64 0, .bool false, .int .i64 (-1), .int .i64 0, .int .i64 0])
    (hS : Blk W S 41 #[.slice (some ⟨C, 0, none⟩) 2 2, .bool false]) (hI : Blk W I 77 #[.int .u8 10, .int .i64 0, .int .i64 0, .int .i64 0, .int .i64 0]) (hD : Blk W D 49 #[.slice (some ⟨I, 0, none⟩) 1 1]) :
    PrgAt 0 W.heap.size W (.slice none 0 0) (.slice (some ⟨D, 0, none⟩) 1 1) (.slice (some ⟨S, 0, none⟩) 1 1) twoP := by
  refine ⟨Nat.le_refl _, ⟨⟨rfl, none, 0, rfl, .inl rfl⟩, by simp [twoP]⟩, ⟨[.slice (some ⟨I, 0, none⟩) 1 1], ⟨rfl, _, 1, rfl, .inr ⟨D, 0, rfl, Nat.zero_le _, hD.lt, blk_cells hD⟩⟩, ?_⟩, ⟨[.slice (some ⟨C, 0, none⟩) 2 2], rfl, ⟨rfl, _, 1, rfl, .inr ⟨S, 0, rfl, Nat.zero_le _, hS.lt, blk_cells hS⟩⟩, ?_⟩⟩
  · intro k u c hu hc
    have hk : k = 0 := by have := (List.getElem?_eq_some_iff.1 hu).1; simpa using this
    subst hk
    simp only [List.getElem?_cons_zero, Option.some.injEq] at hu
    simp only [twoP, List.getElem?_cons_zero, Option.some.injEq] at hc
    subst hu hc
    refine ⟨⟨rfl, _, _, rfl, .inr ⟨I, 0, rfl, Nat.zero_le _, hI.lt, blk_cells hI⟩⟩, fun x hx => ?_⟩
    simp only [List.mem_singleton] at hx
    subst hx
    exact ⟨by decide, ⟨by decide, by decide⟩, ⟨by decide, by decide⟩, ⟨by decide, by decide⟩, ⟨by decide, by decide⟩⟩
  · intro k u c hu hc
    have hk : k = 0 := by have := (List.getElem?_eq_some_iff.1 hu).1; simpa using this
    subst hk
    simp only [List.getElem?_cons_zero, Option.some.injEq] at hu
    simp only [twoP, List.getElem?_cons_zero, Option.some.injEq] at hc
    subst hu hc
    refine ⟨⟨rfl, _, _, rfl, .inr ⟨C, 0, rfl, Nat.zero_le _, hC.lt, blk_cells hC⟩⟩, fun x hx => ?_⟩
    simp only [List.mem_cons, List.not_mem_nil, or_false, or_self] at hx
    subst hx
    exact ⟨⟨by decide, by decide⟩, ⟨by decide, by decide⟩, ⟨by decide, by decide⟩⟩

theorem five_new (w : World) (t0 t1 t2 t3 t4 : TypeId) (c0 c1 c2 c3 c4 : Array Value) : ∃ W, W = ((((w.alloc (.cells c0 t0)).alloc (.cells c1 t1)).alloc (.cells c2 t2)).alloc (.cells c3 t3)).alloc (.cells c4 t4) ∧ But [] w W ∧
    Blk W w.heap.size t0 c0 ∧ Blk W (w.heap.size + 1) t1 c1 ∧ Blk W (w.heap.size + 1 + 1) t2 c2 ∧ Blk W (w.heap.size + 1 + 1 + 1) t3 c3 ∧ Blk W (w.heap.size + 1 + 1 + 1 + 1) t4 c4 := by
  refine ⟨_, rfl, (((((But.refl [] w).alloc _).alloc _).alloc _).alloc _).alloc _, ((((blk_new w t0 c0).alloc _).alloc _).alloc _).alloc _, ?_, ?_, ?_, ?_⟩
  · have := blk_new (w.alloc (.cells c0 t0)) t1 c1
    rw [World.size_alloc] at this
    exact ((this.alloc _).alloc _).alloc _
  · have := blk_new ((w.alloc (.cells c0 t0)).alloc (.cells c1 t1)) t2 c2
    rw [World.size_alloc, World.size_alloc] at this
    exact (this.alloc _).alloc _
  · have := blk_new (((w.alloc (.cells c0 t0)).alloc (.cells c1 t1)).alloc (.cells c2 t2)) t3 c3
    rw [World.size_alloc, World.size_alloc, World.size_alloc] at this
    exact this.alloc _
  · have := blk_new ((((w.alloc (.cells c0 t0)).alloc (.cells c1 t1)).alloc (.cells c2 t2)).alloc (.cells c3 t3)) t4 c4
    rw [World.size_alloc, World.size_alloc, World.size_alloc, World.size_alloc] at this
    exact this
set_option maxRecDepth 100000 in
theorem two_any (w : World) :
    Calls Try.prog 11 #[] w fun e w' => ∃ v1 v2 v3, e = .returned (.agg #[v1, v2, v3]) ∧ PrgAt 0 w'.heap.size w' v1 v2 v3 twoP ∧ But [] w w' := by
  go_enter Try.func11, Try.ntmps11
  go_wp2_with fail
  obtain ⟨W, hW, hb, h0, h1, h2, h3, h4⟩ := five_new w 26 75 41 77 49 #[.slice none 0 0, .slice (some ⟨w.heap.size + 1 + 1 + 1 + 1, 0, none⟩) 1 1, .slice (some ⟨w.heap.size + 1 + 1, 0, none⟩) 1 1]
    #[.bool false, .int .i64 (-1), .int .i64 0, .int .i64 0, .bool false, .int .i64 (-1), .int .i64 0, .int .i64 0] #[.slice (some ⟨w.heap.size + 1, 0, none⟩) 2 2, .bool false] #[.int .u8 10, .int .i64 0, .int .i64 0, .int .i64 0, .int .i64 0] #[.slice (some ⟨w.heap.size + 1 + 1 + 1, 0, none⟩) 1 1]
  rw [← hW]
  have c0 : W.cell? ⟨w.heap.size, 0, none⟩ = _ := h0.cell rfl
  have c1 : W.cell? ⟨w.heap.size, 1, none⟩ = _ := h0.cell rfl
  have c2 : W.cell? ⟨w.heap.size, 2, none⟩ = _ := h0.cell rfl
  refine bodyPost_ret (v := .agg #[.slice none 0 0, .slice (some ⟨w.heap.size + 1 + 1 + 1 + 1, 0, none⟩) 1 1, .slice (some ⟨w.heap.size + 1 + 1, 0, none⟩) 1 1]) (by simp [results, Try.f11, go_sem, c0, c1, c2]) rfl ?_
  exact ⟨_, _, _, rfl, two_at h1 h2 h3 h4, hb⟩

/-! ### alive -/
def tk0 : Tk := ⟨1, Fra.zero, 0, [], [[0, 1]]⟩
theorem tk0_is : newTk twoP Fra.zero = tk0 := rfl
theorem zero_at (w : World) : PrgAt 0 0 w (.slice none 0 0) (.slice none 0 0) (.slice none 0 0) ⟨[], [], []⟩ :=
  ⟨Nat.zero_le _, ⟨⟨rfl, none, 0, rfl, .inl rfl⟩, by simp⟩, ⟨[], ⟨rfl, none, 0, rfl, .inl rfl⟩, by simp⟩, ⟨[], rfl, ⟨rfl, none, 0, rfl, .inl rfl⟩, by simp⟩⟩
theorem zero_small : Small ⟨[], [], []⟩ := ⟨by decide, by decide, by decide, by simp, by simp⟩
set_option maxRecDepth 100000 in
set_option maxHeartbeats 3200000 in
theorem alive_any (w : World) :
    Calls Try.prog 5 #[] w fun e w' => e = .returned (.bool true) ∧ Below w.heap.size w w' := by
  go_enter Try.func5, Try.ntmps5
  go_wp2_with fail
  refine (two_any _).mono ?_
  rintro e w1 ⟨v1, v2, v3, rfl, hP, hb1⟩
  have hnew := y_new (w0 := w) w1 hP two_small two_may hb1
  clear hP hb1
  go_wp2_with fail
  refine hnew.mono ?_
  rintro e w2 ⟨T, rfl, hQ⟩
  clear hnew
  go_wp2_with fail
  refine (new_bad (p := ⟨[], [], []⟩) _ (zero_at _) zero_small (by decide)).mono ?_
  rintro e w3 ⟨rfl, hb⟩
  have hQ := hQ.fresh hb
  clear hb
  go_wp2_with fail
  refine (y_add (n := 0) Fra.zero _ hQ rfl (by decide) rfl).mono ?_
  rintro e w4 ⟨rfl, hQ1⟩
  have hQ : Mine w w4 T ⟨twoP, [tk0]⟩ := hQ1
  clear hQ1
  go_wp2_with fail
  refine (y_add (n := 1) Fra.zero _ hQ rfl (by decide) rfl).mono ?_
  rintro e w5 ⟨rfl, hQ1⟩
  have hQ : Mine w w5 T ⟨twoP, [tk0, tk0]⟩ := hQ1
  clear hQ1
  go_wp2_with fail
  refine (y_pick (i := 0) (j := 0) (k := tk0) (l := [0, 1]) (x := 0) (b := true) 3 _ hQ rfl rfl (by decide) (by decide) rfl rfl rfl (by decide) (by decide)).mono ?_
  rintro e w6 ⟨rfl, hQ⟩
  go_wp2_with fail
  refine (y_took (i := 0) (j := 0) (k := tk0) (l := [0, 1]) (x := 0) 0 _ hQ rfl rfl (by decide) rfl rfl (by decide)).mono ?_
  rintro e w7 ⟨rfl, hQ1⟩
  have hQ : Mine w w7 T ⟨twoP, [⟨1, Fra.zero, 0, [], [[1, 0]]⟩, tk0]⟩ := hQ1
  clear hQ1
  go_wp2_with fail
  refine (y_pick (i := 0) (j := 0) (k := ⟨1, Fra.zero, 0, [], [[1, 0]]⟩) (l := [1, 0]) (x := 1) (b := true) 3 _ hQ rfl rfl (by decide) (by decide) rfl rfl rfl (by decide) (by decide)).mono ?_
  rintro e w8 ⟨rfl, hQ⟩
  go_wp2_with fail
  refine (y_pick (i := 1) (j := 0) (k := tk0) (l := [0, 1]) (x := 0) (b := true) 3 _ hQ rfl rfl (by decide) (by decide) rfl rfl rfl (by decide) (by decide)).mono ?_
  rintro e w9 ⟨rfl, hQ⟩
  go_wp2_with fail
  refine (y_use (i := 0) (n := 1) _ hQ rfl rfl (by decide)).mono ?_
  rintro e w10 ⟨rfl, hQ1⟩
  have hQ : Mine w w10 T ⟨twoP, [⟨1, Fra.zero, 1, [], [[1, 0]]⟩, tk0]⟩ := hQ1
  clear hQ1
  go_wp2_with fail
  refine (y_use (i := 0) (n := 2) _ hQ rfl rfl (by decide)).mono ?_
  rintro e w11 ⟨rfl, hQ1⟩
  have hQ : Mine w w11 T ⟨twoP, [⟨1, Fra.zero, 2, [], [[1, 0]]⟩, tk0]⟩ := hQ1
  clear hQ1
  go_wp2_with fail
  refine (y_hold (i := 1) (k := tk0) 7 _ hQ rfl rfl (by decide) (by decide)).mono ?_
  rintro e w12 ⟨rfl, hQ1⟩
  have hQ : Mine w w12 T ⟨twoP, [⟨1, Fra.zero, 2, [], [[1, 0]]⟩, ⟨1, Fra.zero, 0, [7], [[0, 1]]⟩]⟩ := hQ1
  clear hQ1
  go_wp2_with fail
  refine (y_have (i := 1) (k := ⟨1, Fra.zero, 0, [7], [[0, 1]]⟩) 7 _ hQ rfl rfl (by decide) (by decide)).mono ?_
  rintro e w13 ⟨rfl, hQ⟩
  go_wp2_with fail
  refine (y_len (n := 2) _ hQ rfl).mono ?_
  rintro e w14 ⟨rfl, rfl⟩
  have hbe := hQ.below
  clear hQ
  go_wp2_with fail
  go_ret
  exact ⟨rfl, hbe⟩
end Go.Proofs.Ytamkmmpockmpfaa
