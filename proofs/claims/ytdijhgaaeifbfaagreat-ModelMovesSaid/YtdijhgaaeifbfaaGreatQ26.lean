/-
  ModelMoves: its walks, part 26: HDoneA.
-/
import Derived.Test.YtdijhgaaeifbfaaGreatQ00
import Derived.Test.YtdijhgaaeifbfaaGreatQ10
set_option maxRecDepth 100000
set_option maxHeartbeats 12800000
namespace Go.Proofs.YtdijhgaaeifbfaaGreat
open Go.RowKit
theorem drew_below' (wf : World) : Below wf.heap.size wf wf.drew := (Below.refl _ wf).drew
theorem But.after {B : Nat} {a b c : World} (k : But [B] b c) (h : Below a.heap.size a b) : But [B] a c := (But.of_below h _).next k
theorem noRec_any (w : World) : Calls Tryz.prog 170 #[] w fun e w' => e = .returned (.agg #[.bool true, .int .i64 0, .int .i64 0, .int .i64 0]) /\ Below w.heap.size w w' := by
  have hb : Below w.heap.size w (w.alloc (.cells #[.bool true, .int .i64 0, .int .i64 0, .int .i64 0] 159)) := (Below.refl _ w).alloc (Nat.le_refl _) _
  have hX := blk_new w 159 #[.bool true, .int .i64 0, .int .i64 0, .int .i64 0]
  obtain ⟨q0, q1, q2, q3⟩ := cas_cells (x := noRec) hX
  go_enter Tryz.func170, Tryz.ntmps170
  go_wp2_with fail
  refine bodyPost_ret (v := .agg #[.bool true, .int .i64 0, .int .i64 0, .int .i64 0]) (by simp [results, Tryz.f170, go_sem, noRec] at q0 q1 q2 q3 ⊢) rfl ?_
  exact ⟨rfl, hb⟩
theorem chosen_0 {lo hi : Nat} {v1 v2 v3 : Value} {p : Prg} (w : World) (h : PrgAt lo hi w v1 v2 v3 p) {n : Nat} {s : Sit} (hst : p.sites[n]? = some s) {m : Nat} {y : Cas} (hym : s.cs[m]? = some y) :
    Calls Tryz.prog 169 #[.agg #[v1, v2, v3], .int .i64 (n : Int), .int .i64 (m : Int)] w fun e w' => e = .returned (.tuple #[.agg #[.bool y.s, .int .i64 y.c, .int .i64 y.v, .int .i64 y.o], .bool true]) /\ Below w.heap.size w w' := by
  have hlt : n < p.sites.length := (List.getElem?_eq_some_iff.1 hst).1
  have n0 : (0 : Int) <= (n : Int) := by omega
  have n1 : ¬ (n : Int) < 0 := by omega
  have n1d : decide ((n : Int) < 0) = false := decide_eq_false n1
  have n2 : (n : Int) < (p.sites.length : Int) := by omega
  have n3 : ¬ (p.sites.length : Int) <= (n : Int) := by omega
  have n3d : decide ((p.sites.length : Int) <= (n : Int)) = false := decide_eq_false n3
  obtain ⟨a3, c0, rfl⟩ := h.sites.slice
  obtain ⟨b, off, ra, rc, x, rfl, hlb, hbh, hx, hcw, hdw, hr⟩ := h.sites.at hlt
  obtain rfl : x = s := by rw [hst] at hx; exact (Option.some.inj hx).symm
  obtain ⟨w1, hw1⟩ : ∃ w1, w1 = ((w.alloc (.cells #[v1, v2, .slice (some ⟨b, off, none⟩) p.sites.length c0] 26)).alloc (.cells #[.bool false, .int .i64 0, .int .i64 0, .int .i64 0] 159)).alloc (.cells #[.slice ra x.cs.length rc, .bool x.d] 116) := ⟨_, rfl⟩
  have hB1 : Below w.heap.size w w1 := by rw [hw1]; exact below3 w _ _ _
  have hB0 : Below w.heap.size w ((w.alloc (.cells #[v1, v2, .slice (some ⟨b, off, none⟩) p.sites.length c0] 26)).alloc (.cells #[.bool false, .int .i64 0, .int .i64 0, .int .i64 0] 159)) := below2 w _ _
  have hZ1 : Blk w1 (w.heap.size + 1) 159 #[.bool false, .int .i64 0, .int .i64 0, .int .i64 0] := by rw [hw1]; exact (blk_at (by simp)).alloc _
  have hS1 : Blk w1 (w.heap.size + 1 + 1) 116 #[.slice ra x.cs.length rc, .bool x.d] := by rw [hw1]; exact blk_at (by simp)
  have hc := cell_stay hcw (hB0.block b (Nat.lt_of_lt_of_le hbh h.top))
  have hd := cell_stay hdw (hB0.block b (Nat.lt_of_lt_of_le hbh h.top))
  have s0 := hS1.cell (k := 0) (v := .slice ra x.cs.length rc) rfl
  have s1 := hS1.cell (k := 1) (v := .bool x.d) rfl
  have HR := Lib.hid hst
  clear hst hcw hdw hlb hB0
  have hm : m < x.cs.length := (List.getElem?_eq_some_iff.1 hym).1
  have m0 : (0 : Int) <= (m : Int) := by omega
  have m1 : (m : Int) < (x.cs.length : Int) := by omega
  have m1d : decide ((m : Int) < (x.cs.length : Int)) = true := decide_eq_true m1
  obtain ⟨b2, off2, y', rfl, -, -, hy, -, d0, d1, d2, d3⟩ := (hr.stay (stay_below' hB1 h.top)).at hm
  obtain rfl : y' = y := by rw [hym] at hy; exact (Option.some.inj hy).symm
  clear hy hym hr hx
  have hB5 : Below w.heap.size w (((w.alloc (.cells #[v1, v2, .slice (some ⟨b, off, none⟩) p.sites.length c0] 26)).alloc (.cells #[.bool y'.s, .int .i64 y'.c, .int .i64 y'.v, .int .i64 y'.o] 159)).alloc (.cells #[.slice (some ⟨b2, off2, none⟩) x.cs.length rc, .bool x.d] 116)) := below3 w _ _ _
  have hX5 : Blk (((w.alloc (.cells #[v1, v2, .slice (some ⟨b, off, none⟩) p.sites.length c0] 26)).alloc (.cells #[.bool y'.s, .int .i64 y'.c, .int .i64 y'.v, .int .i64 y'.o] 159)).alloc (.cells #[.slice (some ⟨b2, off2, none⟩) x.cs.length rc, .bool x.d] 116)) (w.heap.size + 1) 159 #[.bool y'.s, .int .i64 y'.c, .int .i64 y'.v, .int .i64 y'.o] := (blk_at (by simp)).alloc _
  obtain ⟨q0, q1, q2, q3⟩ := cas_cells (x := y') hX5
  clear hB1 hZ1 hS1 hX5
  rw [hw1] at s0 s1 d0 d1 d2 d3
  go_enter Tryz.func169, Tryz.ntmps169
  go_wp2_with fail
  refine bodyPost_ret (v := .tuple #[.agg #[.bool y'.s, .int .i64 y'.c, .int .i64 y'.v, .int .i64 y'.o], .bool true]) (by simp [results, Tryz.f169, go_sem, q0, q1, q2, q3]) rfl ?_
  exact ⟨rfl, hB5⟩
theorem chosen_1 {lo hi : Nat} {v1 v2 v3 : Value} {p : Prg} (w : World) (h : PrgAt lo hi w v1 v2 v3 p) {n : Nat} {s : Sit} (hst : p.sites[n]? = some s)  :
    Calls Tryz.prog 169 #[.agg #[v1, v2, v3], .int .i64 (n : Int), .int .i64 (s.cs.length : Int)] w fun e w' => e = .returned (.tuple #[.agg #[.bool true, .int .i64 0, .int .i64 0, .int .i64 0], .bool s.d]) /\ Below w.heap.size w w' := by
  have hlt : n < p.sites.length := (List.getElem?_eq_some_iff.1 hst).1
  have n0 : (0 : Int) <= (n : Int) := by omega
  have n1 : ¬ (n : Int) < 0 := by omega
  have n1d : decide ((n : Int) < 0) = false := decide_eq_false n1
  have n2 : (n : Int) < (p.sites.length : Int) := by omega
  have n3 : ¬ (p.sites.length : Int) <= (n : Int) := by omega
  have n3d : decide ((p.sites.length : Int) <= (n : Int)) = false := decide_eq_false n3
  obtain ⟨a3, c0, rfl⟩ := h.sites.slice
  obtain ⟨b, off, ra, rc, x, rfl, hlb, hbh, hx, hcw, hdw, hr⟩ := h.sites.at hlt
  obtain rfl : x = s := by rw [hst] at hx; exact (Option.some.inj hx).symm
  obtain ⟨w1, hw1⟩ : ∃ w1, w1 = ((w.alloc (.cells #[v1, v2, .slice (some ⟨b, off, none⟩) p.sites.length c0] 26)).alloc (.cells #[.bool false, .int .i64 0, .int .i64 0, .int .i64 0] 159)).alloc (.cells #[.slice ra x.cs.length rc, .bool x.d] 116) := ⟨_, rfl⟩
  have hB1 : Below w.heap.size w w1 := by rw [hw1]; exact below3 w _ _ _
  have hB0 : Below w.heap.size w ((w.alloc (.cells #[v1, v2, .slice (some ⟨b, off, none⟩) p.sites.length c0] 26)).alloc (.cells #[.bool false, .int .i64 0, .int .i64 0, .int .i64 0] 159)) := below2 w _ _
  have hZ1 : Blk w1 (w.heap.size + 1) 159 #[.bool false, .int .i64 0, .int .i64 0, .int .i64 0] := by rw [hw1]; exact (blk_at (by simp)).alloc _
  have hS1 : Blk w1 (w.heap.size + 1 + 1) 116 #[.slice ra x.cs.length rc, .bool x.d] := by rw [hw1]; exact blk_at (by simp)
  have hc := cell_stay hcw (hB0.block b (Nat.lt_of_lt_of_le hbh h.top))
  have hd := cell_stay hdw (hB0.block b (Nat.lt_of_lt_of_le hbh h.top))
  have s0 := hS1.cell (k := 0) (v := .slice ra x.cs.length rc) rfl
  have s1 := hS1.cell (k := 1) (v := .bool x.d) rfl
  have HR := Lib.hid hst
  clear hst hcw hdw hlb hB0
  have m0 : (0 : Int) <= (x.cs.length : Int) := by omega
  have m1 : ¬ (x.cs.length : Int) < (x.cs.length : Int) := by omega
  have m1d : decide ((x.cs.length : Int) < (x.cs.length : Int)) = false := decide_eq_false m1
  have cN : ∀ W, Below w1.heap.size w1 W -> Calls Tryz.prog 170 #[] W fun e w' => e = .returned (.agg #[.bool true, .int .i64 0, .int .i64 0, .int .i64 0]) /\ Below w1.heap.size w1 w' := fun W hW => (noRec_any W).mono fun e w' ⟨h1, h2⟩ => ⟨h1, below_next hW h2 (Nat.le_refl _)⟩
  have hkS : ∀ W, But [w.heap.size + 1] w1 W -> W.cell? ⟨w.heap.size + 1 + 1, 1, none⟩ = some (.bool x.d) /\ But [w.heap.size + 1] w1 W := fun W hW => ⟨(but_on hS1 hW (by omega)).cell rfl, hW⟩
  have hkZ : ∀ W, Below w1.heap.size w1 W -> Blk W (w.heap.size + 1) 159 #[.bool false, .int .i64 0, .int .i64 0, .int .i64 0] := fun W hW => hZ1.later hW hZ1.lt
  have hkb : ∀ W, Below w1.heap.size w1 W -> But [w.heap.size + 1] w1 W := fun W hW => .of_below hW _
  clear hr hx hZ1
  rw [hw1] at s0 s1
  go_enter Tryz.func169, Tryz.ntmps169
  go_wp2_with fail
  rw [<- hw1]
  clear hw1 s0 s1
  go_region_held3 (fun w' => w'.cell? ⟨w.heap.size + 1 + 1, 1, none⟩ = some (.bool x.d) /\ But [w.heap.size + 1] w1 w')
    (refine hkS _ ?_ <;> with_reducible first | exact hkb _ hb2 | exact (sto4 hZ2 _ _ _ _).2.after hb2 | exact hkb _ (drew_below' _))
    ((first
      | (go_at_call 170; refine (cN _ (by with_reducible first | exact drew_below' _)).mono ?_; rintro e w2 ⟨rfl, hb2⟩; have hZ2 := hkZ _ hb2; obtain ⟨z0, z1, z2, z3⟩ := cas_cells (x := ⟨false, 0, 0, 0⟩) hZ2; have zf := hZ2.frozen)))
  all_goals obtain ⟨w9, hw9, hX9, hb9⟩ : ∃ w9, w9 = ((((w2.setCell ⟨w.heap.size + 1, 0, none⟩ (.bool true)).setCell ⟨w.heap.size + 1, 1, none⟩ (.int .i64 0)).setCell ⟨w.heap.size + 1, 2, none⟩ (.int .i64 0)).setCell ⟨w.heap.size + 1, 3, none⟩ (.int .i64 0)) /\ Blk w9 (w.heap.size + 1) 159 #[.bool true, .int .i64 0, .int .i64 0, .int .i64 0] /\ But [w.heap.size + 1] w2 w9 := ⟨_, rfl, sto4 hZ2 (.bool true) (.int .i64 0) (.int .i64 0) (.int .i64 0)⟩
  all_goals have hB9 := below_but (below_next hB1 hb2 (Nat.le_refl _)) hb9 (Nat.le_refl _) (by omega)
  all_goals rw [<- hw9]
  all_goals obtain ⟨q0, q1, q2, q3⟩ := cas_cells (x := noRec) hX9
  all_goals go_wp2_with fail
  all_goals refine bodyPost_ret (v := .tuple #[.agg #[.bool true, .int .i64 0, .int .i64 0, .int .i64 0], .bool x.d]) (by simp [results, Tryz.f169, go_sem, noRec] at q0 q1 q2 q3 ⊢; simp [q0, q1, q2, q3]) rfl ?_
  all_goals exact ⟨rfl, hB9⟩
theorem chosen_2 {lo hi : Nat} {v1 v2 v3 : Value} {p : Prg} (w : World) (h : PrgAt lo hi w v1 v2 v3 p) {n : Nat} {s : Sit} (hst : p.sites[n]? = some s) (k : Int) (hk : ¬ (0 <= k /\ k < (s.cs.length : Int))) (hk2 : k ≠ (s.cs.length : Int)) :
    Calls Tryz.prog 169 #[.agg #[v1, v2, v3], .int .i64 (n : Int), .int .i64 k] w fun e w' => e = .returned (.tuple #[.agg #[.bool false, .int .i64 0, .int .i64 0, .int .i64 0], .bool false]) /\ Below w.heap.size w w' := by
  have hlt : n < p.sites.length := (List.getElem?_eq_some_iff.1 hst).1
  have n0 : (0 : Int) <= (n : Int) := by omega
  have n1 : ¬ (n : Int) < 0 := by omega
  have n1d : decide ((n : Int) < 0) = false := decide_eq_false n1
  have n2 : (n : Int) < (p.sites.length : Int) := by omega
  have n3 : ¬ (p.sites.length : Int) <= (n : Int) := by omega
  have n3d : decide ((p.sites.length : Int) <= (n : Int)) = false := decide_eq_false n3
  obtain ⟨a3, c0, rfl⟩ := h.sites.slice
  obtain ⟨b, off, ra, rc, x, rfl, hlb, hbh, hx, hcw, hdw, hr⟩ := h.sites.at hlt
  obtain rfl : x = s := by rw [hst] at hx; exact (Option.some.inj hx).symm
  obtain ⟨w1, hw1⟩ : ∃ w1, w1 = ((w.alloc (.cells #[v1, v2, .slice (some ⟨b, off, none⟩) p.sites.length c0] 26)).alloc (.cells #[.bool false, .int .i64 0, .int .i64 0, .int .i64 0] 159)).alloc (.cells #[.slice ra x.cs.length rc, .bool x.d] 116) := ⟨_, rfl⟩
  have hB1 : Below w.heap.size w w1 := by rw [hw1]; exact below3 w _ _ _
  have hB0 : Below w.heap.size w ((w.alloc (.cells #[v1, v2, .slice (some ⟨b, off, none⟩) p.sites.length c0] 26)).alloc (.cells #[.bool false, .int .i64 0, .int .i64 0, .int .i64 0] 159)) := below2 w _ _
  have hZ1 : Blk w1 (w.heap.size + 1) 159 #[.bool false, .int .i64 0, .int .i64 0, .int .i64 0] := by rw [hw1]; exact (blk_at (by simp)).alloc _
  have hS1 : Blk w1 (w.heap.size + 1 + 1) 116 #[.slice ra x.cs.length rc, .bool x.d] := by rw [hw1]; exact blk_at (by simp)
  have hc := cell_stay hcw (hB0.block b (Nat.lt_of_lt_of_le hbh h.top))
  have hd := cell_stay hdw (hB0.block b (Nat.lt_of_lt_of_le hbh h.top))
  have s0 := hS1.cell (k := 0) (v := .slice ra x.cs.length rc) rfl
  have s1 := hS1.cell (k := 1) (v := .bool x.d) rfl
  have HR := Lib.hid hst
  clear hst hcw hdw hlb hB0
  have ks : 0 <= k -> ¬ k < (x.cs.length : Int) := fun h0 h1 => hk ⟨h0, h1⟩
  have kd2 : (k == (x.cs.length : Int)) = false := by simpa using hk2
  clear hr hx hk hk2
  have hB5 : Below w.heap.size w (((w.alloc (.cells #[v1, v2, .slice (some ⟨b, off, none⟩) p.sites.length c0] 26)).alloc (.cells #[.bool false, .int .i64 0, .int .i64 0, .int .i64 0] 159)).alloc (.cells #[.slice ra x.cs.length rc, .bool x.d] 116)) := below3 w _ _ _
  have hX5 : Blk (((w.alloc (.cells #[v1, v2, .slice (some ⟨b, off, none⟩) p.sites.length c0] 26)).alloc (.cells #[.bool false, .int .i64 0, .int .i64 0, .int .i64 0] 159)).alloc (.cells #[.slice ra x.cs.length rc, .bool x.d] 116)) (w.heap.size + 1) 159 #[.bool false, .int .i64 0, .int .i64 0, .int .i64 0] := (blk_at (by simp)).alloc _
  obtain ⟨q0, q1, q2, q3⟩ := cas_cells (x := ⟨false, 0, 0, 0⟩) hX5
  clear hB1 hZ1 hS1 hX5
  rw [hw1] at s0 s1
  go_enter Tryz.func169, Tryz.ntmps169
  by_cases k0 : 0 <= k
  · have k1 := ks k0
    have k0d : decide (0 <= k) = true := decide_eq_true k0
    have k1d : decide (k < (x.cs.length : Int)) = false := decide_eq_false k1
    go_wp2_with fail
    refine bodyPost_ret (v := .tuple #[.agg #[.bool false, .int .i64 0, .int .i64 0, .int .i64 0], .bool false]) (by simp [results, Tryz.f169, go_sem, q0, q1, q2, q3]) rfl ?_
    exact ⟨rfl, hB5⟩
  · have k0d : decide (0 <= k) = false := decide_eq_false k0
    clear ks
    go_wp2_with fail
    refine bodyPost_ret (v := .tuple #[.agg #[.bool false, .int .i64 0, .int .i64 0, .int .i64 0], .bool false]) (by simp [results, Tryz.f169, go_sem, q0, q1, q2, q3]) rfl ?_
    exact ⟨rfl, hB5⟩
theorem served_8 {v1 v2 v3 : Value} (w : World) {xa xb xc : Int} {n : Nat} (k : Int) (y : Cas) (b : Bool) (hch : ∀ W, Below w.heap.size w W -> Calls Tryz.prog 169 #[.agg #[v1, v2, v3], .int .i64 (n : Int), .int .i64 k] W fun e w' => e = .returned (.tuple #[.agg #[.bool y.s, .int .i64 y.c, .int .i64 y.v, .int .i64 y.o], .bool b]) /\ Below W.heap.size W w') :
    Calls Tryz.prog 161 #[.agg #[v1, v2, v3], .agg #[.int .u8 8, .int .i64 xa, .int .i64 xb, .int .i64 xc, .int .i64 (n : Int)], .int .i64 k] w fun e w' => e = .returned (.tuple #[.agg #[.bool y.s, .int .i64 y.c, .int .i64 y.v, .int .i64 y.o], .bool b]) /\ Below w.heap.size w w' := by
  obtain ⟨wf, hwf⟩ : ∃ wf, wf = ((w.alloc (.cells #[v1, v2, v3] 26)).alloc (.cells #[.int .u8 8, .int .i64 xa, .int .i64 xb, .int .i64 xc, .int .i64 (n : Int)] 88)).alloc (.cells #[.bool false, .int .i64 0, .int .i64 0, .int .i64 0] 159) := ⟨_, rfl⟩
  have hB : Below w.heap.size w wf := by rw [hwf]; exact below3 w _ _ _
  have hZ : Blk wf (w.heap.size + 1 + 1) 159 #[.bool false, .int .i64 0, .int .i64 0, .int .i64 0] := by rw [hwf]; exact blk_at (by simp)
  have hc := hch wf hB
  clear hch
  go_enter Tryz.func161, Tryz.ntmps161
  go_wp2_with fail
  rw [<- hwf]
  clear hwf
  refine hc.mono ?_
  rintro e w1 ⟨rfl, hb⟩
  have hB1 := below_next hB hb (Nat.le_refl _)
  have hZ1 := hZ.later hb hZ.lt
  clear hc hB hb hZ
  obtain ⟨z0, z1, z2, z3⟩ := cas_cells (x := ⟨false, 0, 0, 0⟩) hZ1
  have zf := hZ1.frozen
  obtain ⟨w5, hw5, hX5, hb5⟩ : ∃ w5, w5 = ((((w1.setCell ⟨w.heap.size + 1 + 1, 0, none⟩ (.bool y.s)).setCell ⟨w.heap.size + 1 + 1, 1, none⟩ (.int .i64 y.c)).setCell ⟨w.heap.size + 1 + 1, 2, none⟩ (.int .i64 y.v)).setCell ⟨w.heap.size + 1 + 1, 3, none⟩ (.int .i64 y.o)) /\ Blk w5 (w.heap.size + 1 + 1) 159 #[.bool y.s, .int .i64 y.c, .int .i64 y.v, .int .i64 y.o] /\ But [w.heap.size + 1 + 1] w1 w5 := ⟨_, rfl, sto4 hZ1 (.bool y.s) (.int .i64 y.c) (.int .i64 y.v) (.int .i64 y.o)⟩
  have hB5 := below_but hB1 hb5 (Nat.le_refl _) (by omega)
  go_wp2_with fail
  rw [<- hw5]
  obtain ⟨q0, q1, q2, q3⟩ := cas_cells (x := y) hX5
  refine bodyPost_ret (v := .tuple #[.agg #[.bool y.s, .int .i64 y.c, .int .i64 y.v, .int .i64 y.o], .bool b]) (by simp [results, Tryz.f161, go_sem] at q0 q1 q2 q3 ⊢; simp [q0, q1, q2, q3]) rfl ?_
  exact ⟨rfl, hB5⟩
theorem served_6 {v1 v2 v3 : Value} (w : World) {xa xb xc xk : Int} (k : Int) (b : Bool) (hkb : (k == -1) = b) :
    Calls Tryz.prog 161 #[.agg #[v1, v2, v3], .agg #[.int .u8 6, .int .i64 xa, .int .i64 xb, .int .i64 xc, .int .i64 xk], .int .i64 k] w fun e w' => e = .returned (.tuple #[.agg #[.bool false, .int .i64 xc, .int .i64 xa, .int .i64 xb], .bool b]) /\ Below w.heap.size w w' := by
  obtain ⟨wf, hwf⟩ : ∃ wf, wf = ((w.alloc (.cells #[v1, v2, v3] 26)).alloc (.cells #[.int .u8 6, .int .i64 xa, .int .i64 xb, .int .i64 xc, .int .i64 xk] 88)).alloc (.cells #[.bool false, .int .i64 0, .int .i64 0, .int .i64 0] 159) := ⟨_, rfl⟩
  have hB : Below w.heap.size w wf := by rw [hwf]; exact below3 w _ _ _
  have hZ : Blk wf (w.heap.size + 1 + 1) 159 #[.bool false, .int .i64 0, .int .i64 0, .int .i64 0] := by rw [hwf]; exact blk_at (by simp)
  go_enter Tryz.func161, Tryz.ntmps161
  go_wp2_with fail
  clear hwf hZ hB
  have hX : Blk (((w.alloc (.cells #[v1, v2, v3] 26)).alloc (.cells #[.int .u8 6, .int .i64 xa, .int .i64 xb, .int .i64 xc, .int .i64 xk] 88)).alloc (.cells #[.bool false, .int .i64 xc, .int .i64 xa, .int .i64 xb] 159)) (w.heap.size + 1 + 1) 159 #[.bool false, .int .i64 xc, .int .i64 xa, .int .i64 xb] := blk_at (by simp)
  obtain ⟨q0, q1, q2, q3⟩ := cas_cells (x := ⟨false, xc, xa, xb⟩) hX
  refine bodyPost_ret (v := .tuple #[.agg #[.bool false, .int .i64 xc, .int .i64 xa, .int .i64 xb], .bool b]) (by simp [results, Tryz.f161, go_sem, q0, q1, q2, q3]) rfl ?_
  exact ⟨rfl, below3 w _ _ _⟩
theorem served_0 {v1 v2 v3 : Value} (w : World) {o : Nat} {xa xb xc xk : Int} (ho6 : o ≠ 6) (ho8 : o ≠ 8) (k : Int) (b : Bool) (hkb : (k == -1) = b) :
    Calls Tryz.prog 161 #[.agg #[v1, v2, v3], .agg #[.int .u8 (o : Int), .int .i64 xa, .int .i64 xb, .int .i64 xc, .int .i64 xk], .int .i64 k] w fun e w' => e = .returned (.tuple #[.agg #[.bool true, .int .i64 0, .int .i64 0, .int .i64 0], .bool b]) /\ Below w.heap.size w w' := by
  obtain ⟨wf, hwf⟩ : ∃ wf, wf = ((w.alloc (.cells #[v1, v2, v3] 26)).alloc (.cells #[.int .u8 (o : Int), .int .i64 xa, .int .i64 xb, .int .i64 xc, .int .i64 xk] 88)).alloc (.cells #[.bool false, .int .i64 0, .int .i64 0, .int .i64 0] 159) := ⟨_, rfl⟩
  have hB : Below w.heap.size w wf := by rw [hwf]; exact below3 w _ _ _
  have hZ : Blk wf (w.heap.size + 1 + 1) 159 #[.bool false, .int .i64 0, .int .i64 0, .int .i64 0] := by rw [hwf]; exact blk_at (by simp)
  have d8 : ((o : Int) == 8) = false := by simp; omega
  have d6 : ((o : Int) == 6) = false := by simp; omega
  clear ho6 ho8
  have hc := noRec_any wf
  go_enter Tryz.func161, Tryz.ntmps161
  go_wp2_with fail
  rw [<- hwf]
  clear hwf
  refine hc.mono ?_
  rintro e w1 ⟨rfl, hb⟩
  have hB1 := below_next hB hb (Nat.le_refl _)
  have hZ1 := hZ.later hb hZ.lt
  clear hc hB hb hZ
  obtain ⟨z0, z1, z2, z3⟩ := cas_cells (x := ⟨false, 0, 0, 0⟩) hZ1
  have zf := hZ1.frozen
  obtain ⟨w5, hw5, hX5, hb5⟩ : ∃ w5, w5 = ((((w1.setCell ⟨w.heap.size + 1 + 1, 0, none⟩ (.bool true)).setCell ⟨w.heap.size + 1 + 1, 1, none⟩ (.int .i64 0)).setCell ⟨w.heap.size + 1 + 1, 2, none⟩ (.int .i64 0)).setCell ⟨w.heap.size + 1 + 1, 3, none⟩ (.int .i64 0)) /\ Blk w5 (w.heap.size + 1 + 1) 159 #[.bool true, .int .i64 0, .int .i64 0, .int .i64 0] /\ But [w.heap.size + 1 + 1] w1 w5 := ⟨_, rfl, sto4 hZ1 (.bool true) (.int .i64 0) (.int .i64 0) (.int .i64 0)⟩
  have hB5 := below_but hB1 hb5 (Nat.le_refl _) (by omega)
  go_wp2_with fail
  rw [<- hw5]
  obtain ⟨q0, q1, q2, q3⟩ := cas_cells (x := noRec) hX5
  refine bodyPost_ret (v := .tuple #[.agg #[.bool true, .int .i64 0, .int .i64 0, .int .i64 0], .bool b]) (by simp [results, Tryz.f161, go_sem, noRec] at q0 q1 q2 q3 ⊢; simp [q0, q1, q2, q3]) rfl ?_
  exact ⟨rfl, hB5⟩
theorem served_any {lo hi : Nat} {v1 v2 v3 : Value} {p : Prg} (w : World) (h : PrgAt lo hi w v1 v2 v3 p) (hm : checkW p = none) {f : Fra} {x : In} (hx : atF p f = some x) (k : Int) :
    ∃ y : Cas, (∀ c, servedF p x k = some c -> y = c) /\ ∀ W, Below w.heap.size w W -> Calls Tryz.prog 161 #[.agg #[v1, v2, v3], .agg #[.int .u8 (x.o : Int), .int .i64 x.a, .int .i64 x.b, .int .i64 x.c, .int .i64 x.k], .int .i64 k] W fun e w' => e = .returned (.tuple #[.agg #[.bool y.s, .int .i64 y.c, .int .i64 y.v, .int .i64 y.o], .bool (servedF p x k).isSome]) /\ Below W.heap.size W w' := by
  have hko := at_kind hm hx
  have hsite := fun ho => at_site hm hx ho
  obtain ⟨o, xa, xb, xc, xk⟩ := x
  simp only at hko hsite ⊢
  by_cases h8 : o = 8
  · subst h8
    obtain ⟨hs1, hs2⟩ := hsite rfl
    obtain ⟨n, rfl⟩ : ∃ n : Nat, xk = (n : Int) := ⟨xk.toNat, by omega⟩
    obtain ⟨s, hst⟩ : ∃ s, p.sites[n]? = some s := ⟨_, List.getElem?_eq_getElem (by omega)⟩
    have e : servedF p ⟨8, xa, xb, xc, (n : Int)⟩ k = chosenF s k := by unfold servedF; simp [hst]
    rw [e]
    by_cases hk : 0 <= k /\ k < (s.cs.length : Int)
    · obtain ⟨m, rfl⟩ : ∃ m : Nat, k = (m : Int) := ⟨k.toNat, by omega⟩
      obtain ⟨y, hy⟩ : ∃ y, s.cs[m]? = some y := ⟨_, List.getElem?_eq_getElem (by omega)⟩
      have e2 : chosenF s (m : Int) = some y := by unfold chosenF; rw [if_pos hk]; simpa using hy
      rw [e2]
      exact ⟨y, fun c hc => Option.some.inj hc, fun W hW => served_8 W _ y true fun W' hW' => chosen_0 W' (h.later (below_next hW hW' (Nat.le_refl _))) hst hy⟩
    · by_cases hk2 : k = (s.cs.length : Int)
      · subst hk2
        have e2 : chosenF s (s.cs.length : Int) = if s.d = true then some noRec else none := by unfold chosenF; rw [if_neg hk]; simp
        have e3 : (chosenF s (s.cs.length : Int)).isSome = s.d := by rw [e2]; cases s.d <;> rfl
        rw [e3]
        refine ⟨noRec, fun c hc => ?_, fun W hW => served_8 W _ noRec s.d fun W' hW' => chosen_1 W' (h.later (below_next hW hW' (Nat.le_refl _))) hst⟩
        rw [e2] at hc
        split at hc
        · exact Option.some.inj hc
        · cases hc
      · have e2 : chosenF s k = none := by unfold chosenF; rw [if_neg hk, if_neg (fun e => hk2 e.1)]
        rw [e2]
        exact ⟨⟨false, 0, 0, 0⟩, fun c hc => (by cases hc), fun W hW => served_8 W _ ⟨false, 0, 0, 0⟩ false fun W' hW' => chosen_2 W' (h.later (below_next hW hW' (Nat.le_refl _))) hst k hk hk2⟩
  · obtain ⟨b, hb⟩ : ∃ b, (k == -1) = b := ⟨_, rfl⟩
    by_cases h6 : o = 6
    · subst h6
      have e : servedF p ⟨6, xa, xb, xc, xk⟩ k = if k = -1 then some ⟨false, xc, xa, xb⟩ else none := by unfold servedF; simp
      have e3 : (servedF p ⟨6, xa, xb, xc, xk⟩ k).isSome = b := by rw [e, <- hb]; by_cases hk : k = -1 <;> simp [hk]
      rw [e3]
      refine ⟨⟨false, xc, xa, xb⟩, fun c hc => ?_, fun W hW => served_6 W k b hb⟩
      rw [e] at hc
      split at hc
      · exact Option.some.inj hc
      · cases hc
    · have e : servedF p ⟨o, xa, xb, xc, xk⟩ k = if k = -1 then some noRec else none := by unfold servedF; simp [h8, h6]
      have e3 : (servedF p ⟨o, xa, xb, xc, xk⟩ k).isSome = b := by rw [e, <- hb]; by_cases hk : k = -1 <;> simp [hk]
      rw [e3]
      refine ⟨noRec, fun c hc => ?_, fun W hW => served_0 W h6 h8 k b hb⟩
      rw [e] at hc
      split at hc
      · exact Option.some.inj hc
      · cases hc
end Go.Proofs.YtdijhgaaeifbfaaGreat
