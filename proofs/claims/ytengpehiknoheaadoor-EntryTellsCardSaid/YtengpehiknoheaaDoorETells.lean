/-
  The walk of the law EntryTells.
-/
import Derived.Test.YtengpehiknoheaaDoorERefG
import Derived.Test.YtengpehiknoheaaDoorERefL
import Derived.Test.YtengpehiknoheaaDoorERefP
namespace Go.Proofs.YtengpehiknoheaaDoor
open Go.RowKit Go.Shelf Oct

attribute [local go_sem] Oper.semAt_some

theorem run_app_noneE (w : World) (ty : TypeId) (i : TypeInfo) (hi : Tryd.prog.info? 26 = some i) (c : Nat) : (Builtin.append_ #[27, 27] ty #[.slice none 0 0, .slice none 0 c]).run Tryd.prog w = .ok (.slice none 0 0) w := by
  simp [Builtin.append_, run_underlying Tryd.underlying27, sizeOf, typeInfo, hi, Builtin.lenOf, Builtin.firstCells]
/-- append(nil, l..): a row of the call's own. -/
theorem run_copyE (W : World) (v : Value) (l : List En) (ty : TypeId) (hr : EnRow W v l) (hl : l.length ≤ 100) :
    ∃ v' W', (Builtin.append_ #[27, 27] ty #[.slice none 0 0, v]).run Tryd.prog W = .ok v' W' ∧ EnRow W' v' l ∧ Below W.heap.size W W' := by
  obtain ⟨i0, hi, hz0, hz1, hz2⟩ := info_parts infoEntry
  obtain ⟨a, c, rfl, h⟩ := hr
  cases a with
  | none =>
    have h0 : l.length = 0 := by
      rcases h with h | ⟨b, off, h, _⟩
      · exact h
      · cases h
    have hl0 := List.length_eq_zero_iff.1 h0
    subst hl0
    exact ⟨_, W, run_app_noneE W ty i0 hi c, EnRow.nil W, Below.refl _ _⟩
  | some ad =>
    have hnews : ∀ (j : Nat) u, (l.flatMap En.cellsL)[j]? = some u → W.cell? (ad.add j) = some u := by
      intro j u hj
      rcases h with h | ⟨b, off, h, hb, hc⟩
      · rw [List.length_eq_zero_iff.1 h] at hj
        cases hj
      · have hlt : j < (l.flatMap En.cellsL).length := (List.getElem?_eq_some_iff.1 hj).1
        rw [flat_len En.cellsL 13 en_len] at hlt
        have hm : j % 13 < 13 := Nat.mod_lt _ (by omega)
        have hk : j / 13 < l.length := by omega
        have he : j / 13 * 13 + j % 13 = j := by omega
        obtain ⟨x, hx⟩ : ∃ x, l[j / 13]? = some x := ⟨_, List.getElem?_eq_getElem hk⟩
        have hf := flat_get En.cellsL 13 en_len l (j / 13) (j % 13) hm
        rw [he, hj, hx, Option.bind_some] at hf
        have := hc (j / 13) x hx (j % 13) u hf.symm
        simp only [Option.some.injEq] at h
        subst h
        rw [show Addr.add ⟨b, off, none⟩ j = ⟨b, off + j, none⟩ by by_cases e : j = 0 <;> simp [Addr.add, e]]
        rw [show off + j = off + j / 13 * 13 + j % 13 by omega]
        exact this
    obtain ⟨v', W', h1, h2, h3, _⟩ := run_append_own_at (P := Tryd.prog) (w := W) W.heap.size 27 ty 26 i0 _ 13 104 Tryd.underlying27 hi hz0 hz1 hz2 rfl (by decide) (.slice none 0 0) 0 [] (World.ownsRow_nil _ _ _ _) ad l.length c (l.flatMap En.cellsL) (flat_len En.cellsL 13 en_len l) hnews (en_one l) (by unfold maxLen; omega) (by omega) (Nat.le_refl _)
    refine ⟨v', W', h1, EnRow.of_owns (base := W.heap.size) (by simpa using h2), (But.of_none h3 []).below (Nat.le_refl _) (by simp)⟩
theorem wpList_app1 {P : Program} {ops : Array Oper} {rest : List Oper} {o : Oper} {a : Act} {w : World} {Q : Exit → Act → World → Prop} (hg : o.guard = none) (s x : Operand) (t tx : TypeId) (hop : o.op = Op.call { callee := Callee.builtin Builtin.append, args := #[s, x], argTypes := #[t, tx] }) (v y v' : Value) (w' : World) (hs : a.eval s = v) (hx : a.eval x = y)
    (hrun : (Builtin.append_ #[t, tx] o.type #[v, y]).run P w = .ok v' w') (hK : wpList P ops Q rest (a.put o.dst v') w') :
    wpList P ops Q (o :: rest) a w := by
  refine wpList_plain hg fun K' hK' => ?_
  unfold Oper.wp
  simp [execOp, hop, resolve, invoke, builtin, hs, hx, hrun, Result.andThen]
  exact hK' _ _ hK

theorem flat_posT : ∀ (l : List En), l.length ≤ (l.flatMap enL).length
  | [] => by simp
  | x :: l => by
    have h1 := flat_posT l
    have h2 : 0 < (enL x).length := List.length_pos_iff.2 enL_ne
    rw [List.flatMap_cons, List.length_append, List.length_cons]
    omega
set_option maxRecDepth 100000 in
set_option maxHeartbeats 12800000 in
theorem etells_in (x : En) (hx : x.ok) (v : Value) (l : List En) (s : List UInt8) (k : Nat) (hk256 : k < 256) (hk : 1 ≤ k) (w : World) (hr : EnRow w v l) (hok : ∀ x ∈ l, x.ok) (hs : (⟨s.toArray⟩ : ByteArray).size ≤ maxLen) (hv : Vars w) :
    Calls Tryd.prog 3 #[x.val, v, .string ⟨s.toArray⟩, .int .u8 (k : Int)] w fun e w' => e = .returned (.bool true) ∧ Below w.heap.size w w' := by
  change Calls Tryd.prog 3 #[.agg #[.int .i64 x.a, .int .u8 (x.k : Int), .int .i64 x.w, .int .i64 x.t, .int .i64 x.p, .int .i64 x.c, .int .i64 x.b, .int .i64 x.q, .int .i64 x.v, .int .i64 x.u, .bool x.o, .int .i64 x.e, .int .u64 (x.s : Int)], v, .string ⟨s.toArray⟩, .int .u8 (k : Int)] w _
  have hs' : s.length ≤ maxLen := hs
  clear hs
  obtain ⟨pa, pc, rfl⟩ := hr.slice
  have hfin : ∀ W, Below w.heap.size w W → Calls Tryd.prog 6 #[] W fun e w' => e = .returned (.bool true) ∧ Below w.heap.size w w' := fun W hW => (ealive_any W (hv.below hW)).mono fun e w' ⟨e1, e2⟩ => ⟨e1, below_nx hW e2 (Nat.le_refl _)⟩
  have hml : maxLen ≤ 9223372036854775807 := by unfold maxLen; omega
  obtain ⟨W0, hW0⟩ : ∃ W0, W0 = w.alloc (.cells #[.int .i64 x.a, .int .u8 (x.k : Int), .int .i64 x.w, .int .i64 x.t, .int .i64 x.p, .int .i64 x.c, .int .i64 x.b, .int .i64 x.q, .int .i64 x.v, .int .i64 x.u, .bool x.o, .int .i64 x.e, .int .u64 (x.s : Int)] 26) := ⟨_, rfl⟩
  have a0 : Below w.heap.size w W0 := by rw [hW0]; exact below1 w _
  have x0 : EnAt W0 w.heap.size x := by rw [hW0]; exact enAt_new w x
  have hf0 := hfin W0 a0
  obtain ⟨A, hA⟩ : ∃ A, A = lineV x := ⟨_, rfl⟩
  obtain ⟨E, hE⟩ : ∃ E, E = checkE x := ⟨_, rfl⟩
  obtain ⟨b, hb⟩ : ∃ b, b = okB x := ⟨_, rfl⟩
  obtain ⟨S, hS⟩ : ∃ S, S = putS l := ⟨_, rfl⟩
  obtain ⟨F, hF⟩ : ∃ F, F = putE l := ⟨_, rfl⟩
  obtain ⟨G, hG⟩ : ∃ G, G = getE s := ⟨_, rfl⟩
  obtain ⟨ms, hms⟩ : ∃ ms, ms = getV s := ⟨_, rfl⟩
  obtain ⟨wd, hwd⟩ : ∃ wd, wd = wordL k := ⟨_, rfl⟩
  obtain ⟨cb, hcb⟩ : ∃ cb, cb = commitB k := ⟨_, rfl⟩
  have hEb : ((E == 0) == b) = true := by rw [hE, hb]; unfold checkE; cases okB x <;> rfl
  have k1 : (1 : Int) ≤ (k : Int) := by omega
  have k1d : decide ((1 : Int) ≤ (k : Int)) = true := decide_eq_true k1
  have k2 : (cb == decide ((k : Int) ≤ 11)) = true := by rw [hcb]; unfold commitB; simp only [beq_iff_eq, decide_eq_decide]; omega
  have l1 : ∀ W, Vars W → Calls Tryd.prog 7 #[.agg #[.int .i64 x.a, .int .u8 (x.k : Int), .int .i64 x.w, .int .i64 x.t, .int .i64 x.p, .int .i64 x.c, .int .i64 x.b, .int .i64 x.q, .int .i64 x.v, .int .i64 x.u, .bool x.o, .int .i64 x.e, .int .u64 (x.s : Int)]] W fun e w' => e = .returned (.tuple #[.string ⟨A.toArray⟩, .int .i64 E]) ∧ Below W.heap.size W w' := fun W hW => by
    have h := eline_any x hx W hW
    rw [← hA, ← hE] at h
    exact h
  have l2 : ∀ W, Vars W → Calls Tryd.prog 8 #[.agg #[.int .i64 x.a, .int .u8 (x.k : Int), .int .i64 x.w, .int .i64 x.t, .int .i64 x.p, .int .i64 x.c, .int .i64 x.b, .int .i64 x.q, .int .i64 x.v, .int .i64 x.u, .bool x.o, .int .i64 x.e, .int .u64 (x.s : Int)]] W fun e w' => e = .returned (.tuple #[.string ⟨A.toArray⟩, .int .i64 E]) ∧ Below W.heap.size W w' := fun W hW => by
    have h := rline_any x hx W hW
    rw [← hA, ← hE] at h
    exact h
  have l3 : l.length ≤ 100 → ∀ W v, EnRow W v l → Calls Tryd.prog 9 #[v] W fun e w' => e = .returned (.tuple #[.string ⟨S.toArray⟩, .int .i64 F]) ∧ Below W.heap.size W w' := fun hl W v hr => by
    have h := eputs_any v l W hr hok hl
    rw [← hS, ← hF] at h
    exact h
  have l4 : l.length ≤ 100 → ∀ W v, EnRow W v l → Calls Tryd.prog 10 #[v] W fun e w' => e = .returned (.tuple #[.string ⟨S.toArray⟩, .int .i64 F]) ∧ Below W.heap.size W w' := fun hl W v hr => by
    have h := rputs_any v l W hr hok hl
    rw [← hS, ← hF] at h
    exact h
  have hmsl : s.length ≤ 4096 → ms.length ≤ 4096 := fun hs1 => by
    rw [hms]
    unfold getV
    cases g : getL s with
    | none => simp
    | some q =>
      obtain ⟨_, _, h3⟩ := put_of_get s.length (Nat.le_refl _) g
      have h4 := flat_posT q
      rw [h3] at h4
      simp only [Option.getD_some]
      omega
  have l5 : s.length ≤ 4096 → ∀ W, Calls Tryd.prog 11 #[.string ⟨s.toArray⟩] W fun e w' => ∃ a c, e = .returned (.tuple #[.slice a ms.length c, .int .i64 G]) ∧ EnRow w' (.slice a ms.length c) ms ∧ Below W.heap.size W w' := fun hs1 W => by
    refine (egets_any s W (by omega)).mono fun e w' ⟨v, h1, h2, _, h4⟩ => ?_
    rw [← hG] at h1
    rw [← hms] at h2
    obtain ⟨a, c, rfl⟩ := h2.slice
    exact ⟨a, c, h1, h2, h4⟩
  have l6 : s.length ≤ 4096 → ∀ W, Calls Tryd.prog 12 #[.string ⟨s.toArray⟩] W fun e w' => ∃ a c, e = .returned (.tuple #[.slice a ms.length c, .int .i64 G]) ∧ EnRow w' (.slice a ms.length c) ms ∧ Below W.heap.size W w' := fun hs1 W => by
    refine (rgets_any s W (by omega)).mono fun e w' ⟨v, h1, h2, _, h4⟩ => ?_
    rw [← hG] at h1
    rw [← hms] at h2
    obtain ⟨a, c, rfl⟩ := h2.slice
    exact ⟨a, c, h1, h2, h4⟩
  have l7 : ∀ W, Calls Tryd.prog 13 #[.agg #[.int .i64 x.a, .int .u8 (x.k : Int), .int .i64 x.w, .int .i64 x.t, .int .i64 x.p, .int .i64 x.c, .int .i64 x.b, .int .i64 x.q, .int .i64 x.v, .int .i64 x.u, .bool x.o, .int .i64 x.e, .int .u64 (x.s : Int)]] W fun e w' => e = .returned (.int .i64 E) ∧ Below W.heap.size W w' := fun W => by
    have h := check_any x hx W
    rw [← hE] at h
    exact h
  have l8 : ∀ W, Calls Tryd.prog 14 #[.agg #[.int .i64 x.a, .int .u8 (x.k : Int), .int .i64 x.w, .int .i64 x.t, .int .i64 x.p, .int .i64 x.c, .int .i64 x.b, .int .i64 x.q, .int .i64 x.v, .int .i64 x.u, .bool x.o, .int .i64 x.e, .int .u64 (x.s : Int)]] W fun e w' => e = .returned (.bool b) ∧ Below W.heap.size W w' := fun W => by
    have h := rmay_any x hx W
    rw [← hb] at h
    exact h.mono fun e w' ⟨h1, h2⟩ => ⟨h1, h2.below (Nat.le_refl _) (by simp)⟩
  have l9 : ∀ W, Calls Tryd.prog 16 #[.int .u8 (k : Int)] W fun e w' => e = .returned (.string ⟨wd.toArray⟩) ∧ Below W.heap.size W w' := fun W => by
    have h := word_any k hk256 W
    rw [← hwd] at h
    exact h
  have l10 : ∀ W, Calls Tryd.prog 17 #[.int .u8 (k : Int)] W fun e w' => e = .returned (.string ⟨wd.toArray⟩) ∧ Below W.heap.size W w' := fun W => by
    have h := rword_any k hk256 W
    rw [← hwd] at h
    exact h
  have l11 : ∀ W, Calls Tryd.prog 18 #[.int .u8 (k : Int)] W fun e w' => e = .returned (.bool cb) ∧ Below W.heap.size W w' := fun W => by
    have h := commit_any k W
    rw [← hcb] at h
    exact h.mono fun e w' ⟨h1, h2⟩ => ⟨h1, by rw [h2]; exact Below.refl _ _⟩
  have l12 : ∀ W, Below w.heap.size w W → Calls Tryd.prog 6 #[] W fun e w' => e = .returned (.bool true) ∧ Below W.heap.size W w' := fun W hW => ealive_any W (hv.below hW)
  clear hA hE hb hS hF hG hms hwd hcb hx hok
  by_cases hl : 100 < l.length
  · have hl' : (100 : Int) < (l.length : Int) := by omega
    rw [hW0] at hf0
    clear l1 l2 l3 l4 l5 l6 l7 l8 l9 l10 l11 l12 hW0 x0 a0 hmsl hr
    go_enter Tryd.func3, Tryd.ntmps3
    go_wp2_with fail
    refine hf0.mono ?_
    rintro e w2 ⟨rfl, hb⟩
    go_wp2_with fail
    go_ret
    exact ⟨rfl, hb⟩
  have hl' : ¬ (100 : Int) < (l.length : Int) := by omega
  have hld : decide ((100 : Int) < (l.length : Int)) = false := decide_eq_false hl'
  by_cases hs1 : 4096 < s.length
  · have hs2 : (4096 : Int) < (s.length : Int) := by omega
    rw [hW0] at hf0
    clear l1 l2 l3 l4 l5 l6 l7 l8 l9 l10 l11 l12 hW0 x0 a0 hmsl hr
    go_enter Tryd.func3, Tryd.ntmps3
    go_wp2_with fail
    refine hf0.mono ?_
    rintro e w2 ⟨rfl, hb⟩
    go_wp2_with fail
    go_ret
    exact ⟨rfl, hb⟩
  have hs2 : ¬ (4096 : Int) < (s.length : Int) := by omega
  have hsd : decide ((4096 : Int) < (s.length : Int)) = false := decide_eq_false hs2
  have l3 := l3 (by omega)
  have l4 := l4 (by omega)
  have l5 := l5 (by omega)
  have l6 := l6 (by omega)
  have hmsl := hmsl (by omega)
  have hl100 : l.length ≤ 100 := by omega
  clear hl hs1 hf0 hs' hml
  have l1' := l1 W0 (hv.below a0)
  have c0 : W0.cell? ⟨w.heap.size, 0, none⟩ = some (.int .i64 x.a) := x0.c0
  have c1 : W0.cell? ⟨w.heap.size, 1, none⟩ = some (.int .u8 (x.k : Int)) := x0.c1
  have c2 : W0.cell? ⟨w.heap.size, 2, none⟩ = some (.int .i64 x.w) := x0.c2
  have c3 : W0.cell? ⟨w.heap.size, 3, none⟩ = some (.int .i64 x.t) := x0.c3
  have c4 : W0.cell? ⟨w.heap.size, 4, none⟩ = some (.int .i64 x.p) := x0.c4
  have c5 : W0.cell? ⟨w.heap.size, 5, none⟩ = some (.int .i64 x.c) := x0.c5
  have c6 : W0.cell? ⟨w.heap.size, 6, none⟩ = some (.int .i64 x.b) := x0.c6
  have c7 : W0.cell? ⟨w.heap.size, 7, none⟩ = some (.int .i64 x.q) := x0.c7
  have c8 : W0.cell? ⟨w.heap.size, 8, none⟩ = some (.int .i64 x.v) := x0.c8
  have c9 : W0.cell? ⟨w.heap.size, 9, none⟩ = some (.int .i64 x.u) := x0.c9
  have c10 : W0.cell? ⟨w.heap.size, 10, none⟩ = some (.bool x.o) := x0.c10
  have c11 : W0.cell? ⟨w.heap.size, 11, none⟩ = some (.int .i64 x.e) := x0.c11
  have c12 : W0.cell? ⟨w.heap.size, 12, none⟩ = some (.int .u64 (x.s : Int)) := x0.c12
  rw [hW0] at l1' c0 c1 c2 c3 c4 c5 c6 c7 c8 c9 c10 c11 c12
  go_enter Tryd.func3, Tryd.ntmps3
  go_wp2_with fail
  refine l1'.mono ?_
  rw [← hW0]
  clear hW0 l1' l1 c0 c1 c2 c3 c4 c5 c6 c7 c8 c9 c10 c11 c12
  rintro e w1 ⟨rfl, b1⟩
  have B1 := below_nx a0 b1 (Nat.le_refl _)
  have x1 : EnAt w1 w.heap.size x := x0.of_block (b1.block _ x0.lt)
  have c0 : w1.cell? ⟨w.heap.size, 0, none⟩ = some (.int .i64 x.a) := x1.c0
  have c1 : w1.cell? ⟨w.heap.size, 1, none⟩ = some (.int .u8 (x.k : Int)) := x1.c1
  have c2 : w1.cell? ⟨w.heap.size, 2, none⟩ = some (.int .i64 x.w) := x1.c2
  have c3 : w1.cell? ⟨w.heap.size, 3, none⟩ = some (.int .i64 x.t) := x1.c3
  have c4 : w1.cell? ⟨w.heap.size, 4, none⟩ = some (.int .i64 x.p) := x1.c4
  have c5 : w1.cell? ⟨w.heap.size, 5, none⟩ = some (.int .i64 x.c) := x1.c5
  have c6 : w1.cell? ⟨w.heap.size, 6, none⟩ = some (.int .i64 x.b) := x1.c6
  have c7 : w1.cell? ⟨w.heap.size, 7, none⟩ = some (.int .i64 x.q) := x1.c7
  have c8 : w1.cell? ⟨w.heap.size, 8, none⟩ = some (.int .i64 x.v) := x1.c8
  have c9 : w1.cell? ⟨w.heap.size, 9, none⟩ = some (.int .i64 x.u) := x1.c9
  have c10 : w1.cell? ⟨w.heap.size, 10, none⟩ = some (.bool x.o) := x1.c10
  have c11 : w1.cell? ⟨w.heap.size, 11, none⟩ = some (.int .i64 x.e) := x1.c11
  have c12 : w1.cell? ⟨w.heap.size, 12, none⟩ = some (.int .u64 (x.s : Int)) := x1.c12
  have l2' := l2 w1 (hv.below B1)
  clear b1 a0 x0 l2
  go_wp2_with fail
  refine l2'.mono ?_
  rintro e w2 ⟨rfl, b2⟩
  have B2 := below_nx B1 b2 (Nat.le_refl _)
  have x2 : EnAt w2 w.heap.size x := x1.of_block (b2.block _ x1.lt)
  obtain ⟨v3, w3, hrun, r3, b3⟩ := run_copyE w2 _ l 27 (hr.below B2) hl100
  have B3 := below_nx B2 b3 (Nat.le_refl _)
  have x3 : EnAt w3 w.heap.size x := x2.of_block (b3.block _ x2.lt)
  clear c0 c1 c2 c3 c4 c5 c6 c7 c8 c9 c10 c11 c12 b2 B1 x1 l2' b3
  go_wp2_with (at_builtin; refine wpList_app1 rfl _ _ _ _ rfl _ _ v3 w3 rfl rfl hrun ?_; go_frame)
  clear hrun
  go_wp2_with fail
  refine (l3 w3 v3 r3).mono ?_
  rintro e w4 ⟨rfl, b4⟩
  have B4 := below_nx B3 b4 (Nat.le_refl _)
  have x4 : EnAt w4 w.heap.size x := x3.of_block (b4.block _ x3.lt)
  clear b4 B3 B2 x3 x2 l3 r3
  go_wp2_with fail
  refine (l4 w4 _ (hr.below B4)).mono ?_
  rintro e w5 ⟨rfl, b5⟩
  have B5 := below_nx B4 b5 (Nat.le_refl _)
  have x5 : EnAt w5 w.heap.size x := x4.of_block (b5.block _ x4.lt)
  clear b5 B4 x4 l4
  go_wp2_with fail
  refine (l5 w5).mono ?_
  rintro e w6 ⟨p6, c6, rfl, r6, b6⟩
  have B6 := below_nx B5 b6 (Nat.le_refl _)
  have x6 : EnAt w6 w.heap.size x := x5.of_block (b6.block _ x5.lt)
  clear b6 B5 x5 l5
  go_wp2_with fail
  refine (l6 w6).mono ?_
  rintro e w7 ⟨p7, c7, rfl, r7, b7⟩
  have B7 := below_nx B6 b7 (Nat.le_refl _)
  have x7 : EnAt w7 w.heap.size x := x6.of_block (b7.block _ x6.lt)
  have r67 := r6.below b7
  clear b7 B6 x6 l6 r6
  have hkS : ∀ W, Below w7.heap.size w7 W → W.cell? ⟨w.heap.size, 0, none⟩ = some (.int .i64 x.a) ∧ W.cell? ⟨w.heap.size, 1, none⟩ = some (.int .u8 (x.k : Int)) ∧ W.cell? ⟨w.heap.size, 2, none⟩ = some (.int .i64 x.w) ∧ W.cell? ⟨w.heap.size, 3, none⟩ = some (.int .i64 x.t) ∧ W.cell? ⟨w.heap.size, 4, none⟩ = some (.int .i64 x.p) ∧ W.cell? ⟨w.heap.size, 5, none⟩ = some (.int .i64 x.c) ∧ W.cell? ⟨w.heap.size, 6, none⟩ = some (.int .i64 x.b) ∧ W.cell? ⟨w.heap.size, 7, none⟩ = some (.int .i64 x.q) ∧ W.cell? ⟨w.heap.size, 8, none⟩ = some (.int .i64 x.v) ∧ W.cell? ⟨w.heap.size, 9, none⟩ = some (.int .i64 x.u) ∧ W.cell? ⟨w.heap.size, 10, none⟩ = some (.bool x.o) ∧ W.cell? ⟨w.heap.size, 11, none⟩ = some (.int .i64 x.e) ∧ W.cell? ⟨w.heap.size, 12, none⟩ = some (.int .u64 (x.s : Int)) ∧ Below w7.heap.size w7 W := fun W hW => by
    have hx1 : EnAt W w.heap.size x := x7.of_block (hW.block _ x7.lt)
    exact ⟨hx1.c0, hx1.c1, hx1.c2, hx1.c3, hx1.c4, hx1.c5, hx1.c6, hx1.c7, hx1.c8, hx1.c9, hx1.c10, hx1.c11, hx1.c12, hW⟩
  have m7 : ∀ W, Below w7.heap.size w7 W → Calls Tryd.prog 13 #[.agg #[.int .i64 x.a, .int .u8 (x.k : Int), .int .i64 x.w, .int .i64 x.t, .int .i64 x.p, .int .i64 x.c, .int .i64 x.b, .int .i64 x.q, .int .i64 x.v, .int .i64 x.u, .bool x.o, .int .i64 x.e, .int .u64 (x.s : Int)]] W fun e w' => e = .returned (.int .i64 E) ∧ Below w7.heap.size w7 w' := fun W hW => (l7 W).mono fun e w' ⟨h1, h2⟩ => ⟨h1, below_nx hW h2 (Nat.le_refl _)⟩
  have m8 : ∀ W, Below w7.heap.size w7 W → Calls Tryd.prog 14 #[.agg #[.int .i64 x.a, .int .u8 (x.k : Int), .int .i64 x.w, .int .i64 x.t, .int .i64 x.p, .int .i64 x.c, .int .i64 x.b, .int .i64 x.q, .int .i64 x.v, .int .i64 x.u, .bool x.o, .int .i64 x.e, .int .u64 (x.s : Int)]] W fun e w' => e = .returned (.bool b) ∧ Below w7.heap.size w7 w' := fun W hW => (l8 W).mono fun e w' ⟨h1, h2⟩ => ⟨h1, below_nx hW h2 (Nat.le_refl _)⟩
  have m9 : ∀ W, Below w7.heap.size w7 W → Calls Tryd.prog 16 #[.int .u8 (k : Int)] W fun e w' => e = .returned (.string ⟨wd.toArray⟩) ∧ Below w7.heap.size w7 w' := fun W hW => (l9 W).mono fun e w' ⟨h1, h2⟩ => ⟨h1, below_nx hW h2 (Nat.le_refl _)⟩
  have m10 : ∀ W, Below w7.heap.size w7 W → Calls Tryd.prog 17 #[.int .u8 (k : Int)] W fun e w' => e = .returned (.string ⟨wd.toArray⟩) ∧ Below w7.heap.size w7 w' := fun W hW => (l10 W).mono fun e w' ⟨h1, h2⟩ => ⟨h1, below_nx hW h2 (Nat.le_refl _)⟩
  have m11 : ∀ W, Below w7.heap.size w7 W → Calls Tryd.prog 18 #[.int .u8 (k : Int)] W fun e w' => e = .returned (.bool cb) ∧ Below w7.heap.size w7 w' := fun W hW => (l11 W).mono fun e w' ⟨h1, h2⟩ => ⟨h1, below_nx hW h2 (Nat.le_refl _)⟩
  have m12 : ∀ W, Below w7.heap.size w7 W → Calls Tryd.prog 6 #[] W fun e w' => e = .returned (.bool true) ∧ Below w7.heap.size w7 w' := fun W hW => (l12 W (below_nx B7 hW (Nat.le_refl _))).mono fun e w' ⟨h1, h2⟩ => ⟨h1, below_nx hW h2 (Nat.le_refl _)⟩
  have m13 : ∀ W, Below w7.heap.size w7 W → Calls Tryd.prog 15 #[.slice p6 ms.length c6, .slice p7 ms.length c7] W fun e w' => e = .returned (.bool true) ∧ Below w7.heap.size w7 w' := fun W hW => by
    have h := same_any _ _ ms ms W (r67.below hW) (r7.below hW) (by omega) (by omega)
    rw [decide_eq_true rfl] at h
    exact h.mono fun e w' ⟨h1, h2⟩ => ⟨h1, below_nx hW h2 (Nat.le_refl _)⟩
  have hD0 : Below w7.heap.size w7 w7.drew := (Below.refl _ _).drew
  clear l7 l8 l9 l10 l11 l12 hl' hld hs2 hsd hr r67 r7 x7 hfin
  go_wp2_with fail
  go_region_held3 (fun w' => w'.cell? ⟨w.heap.size, 0, none⟩ = some (.int .i64 x.a) ∧ w'.cell? ⟨w.heap.size, 1, none⟩ = some (.int .u8 (x.k : Int)) ∧ w'.cell? ⟨w.heap.size, 2, none⟩ = some (.int .i64 x.w) ∧ w'.cell? ⟨w.heap.size, 3, none⟩ = some (.int .i64 x.t) ∧ w'.cell? ⟨w.heap.size, 4, none⟩ = some (.int .i64 x.p) ∧ w'.cell? ⟨w.heap.size, 5, none⟩ = some (.int .i64 x.c) ∧ w'.cell? ⟨w.heap.size, 6, none⟩ = some (.int .i64 x.b) ∧ w'.cell? ⟨w.heap.size, 7, none⟩ = some (.int .i64 x.q) ∧ w'.cell? ⟨w.heap.size, 8, none⟩ = some (.int .i64 x.v) ∧ w'.cell? ⟨w.heap.size, 9, none⟩ = some (.int .i64 x.u) ∧ w'.cell? ⟨w.heap.size, 10, none⟩ = some (.bool x.o) ∧ w'.cell? ⟨w.heap.size, 11, none⟩ = some (.int .i64 x.e) ∧ w'.cell? ⟨w.heap.size, 12, none⟩ = some (.int .u64 (x.s : Int)) ∧ Below w7.heap.size w7 w')
    ((refine hkS _ ?_; with_reducible first | exact hD0 | exact hb9))
    ((first
      | (go_at_call 13; (with_reducible refine (m7 _ (by assumption)).mono ?_); rintro e w9 ⟨rfl, hb9⟩)
      | (go_at_call 14; (with_reducible refine (m8 _ (by assumption)).mono ?_); rintro e w9 ⟨rfl, hb9⟩)
      | (go_at_call 15; (with_reducible refine (m13 _ (by assumption)).mono ?_); rintro e w9 ⟨rfl, hb9⟩)
      | (go_at_call 16; (with_reducible refine (m9 _ (by assumption)).mono ?_); rintro e w9 ⟨rfl, hb9⟩)
      | (go_at_call 17; (with_reducible refine (m10 _ (by assumption)).mono ?_); rintro e w9 ⟨rfl, hb9⟩)
      | (go_at_call 18; (with_reducible refine (m11 _ (by assumption)).mono ?_); rintro e w9 ⟨rfl, hb9⟩)
      | (go_at_call 6; (with_reducible refine (m12 _ (by assumption)).mono ?_); rintro e w9 ⟨rfl, hb9⟩)))
  all_goals go_wp2_with fail
  all_goals go_ret
  all_goals exact ⟨rfl, below_nx B7 hb9 (Nat.le_refl _)⟩
set_option maxRecDepth 100000 in
set_option maxHeartbeats 12800000 in
theorem etells_out (x : En) (hx : x.ok) (v : Value) (l : List En) (s : List UInt8) (k : Nat) (hk256 : k < 256) (hk : ¬ 1 ≤ k) (w : World) (hr : EnRow w v l) (hok : ∀ x ∈ l, x.ok) (hs : (⟨s.toArray⟩ : ByteArray).size ≤ maxLen) (hv : Vars w) :
    Calls Tryd.prog 3 #[x.val, v, .string ⟨s.toArray⟩, .int .u8 (k : Int)] w fun e w' => e = .returned (.bool true) ∧ Below w.heap.size w w' := by
  change Calls Tryd.prog 3 #[.agg #[.int .i64 x.a, .int .u8 (x.k : Int), .int .i64 x.w, .int .i64 x.t, .int .i64 x.p, .int .i64 x.c, .int .i64 x.b, .int .i64 x.q, .int .i64 x.v, .int .i64 x.u, .bool x.o, .int .i64 x.e, .int .u64 (x.s : Int)], v, .string ⟨s.toArray⟩, .int .u8 (k : Int)] w _
  have hs' : s.length ≤ maxLen := hs
  clear hs
  obtain ⟨pa, pc, rfl⟩ := hr.slice
  have hfin : ∀ W, Below w.heap.size w W → Calls Tryd.prog 6 #[] W fun e w' => e = .returned (.bool true) ∧ Below w.heap.size w w' := fun W hW => (ealive_any W (hv.below hW)).mono fun e w' ⟨e1, e2⟩ => ⟨e1, below_nx hW e2 (Nat.le_refl _)⟩
  have hml : maxLen ≤ 9223372036854775807 := by unfold maxLen; omega
  obtain ⟨W0, hW0⟩ : ∃ W0, W0 = w.alloc (.cells #[.int .i64 x.a, .int .u8 (x.k : Int), .int .i64 x.w, .int .i64 x.t, .int .i64 x.p, .int .i64 x.c, .int .i64 x.b, .int .i64 x.q, .int .i64 x.v, .int .i64 x.u, .bool x.o, .int .i64 x.e, .int .u64 (x.s : Int)] 26) := ⟨_, rfl⟩
  have a0 : Below w.heap.size w W0 := by rw [hW0]; exact below1 w _
  have x0 : EnAt W0 w.heap.size x := by rw [hW0]; exact enAt_new w x
  have hf0 := hfin W0 a0
  obtain ⟨A, hA⟩ : ∃ A, A = lineV x := ⟨_, rfl⟩
  obtain ⟨E, hE⟩ : ∃ E, E = checkE x := ⟨_, rfl⟩
  obtain ⟨b, hb⟩ : ∃ b, b = okB x := ⟨_, rfl⟩
  obtain ⟨S, hS⟩ : ∃ S, S = putS l := ⟨_, rfl⟩
  obtain ⟨F, hF⟩ : ∃ F, F = putE l := ⟨_, rfl⟩
  obtain ⟨G, hG⟩ : ∃ G, G = getE s := ⟨_, rfl⟩
  obtain ⟨ms, hms⟩ : ∃ ms, ms = getV s := ⟨_, rfl⟩
  obtain ⟨wd, hwd⟩ : ∃ wd, wd = wordL k := ⟨_, rfl⟩
  obtain ⟨cb, hcb⟩ : ∃ cb, cb = commitB k := ⟨_, rfl⟩
  have hEb : ((E == 0) == b) = true := by rw [hE, hb]; unfold checkE; cases okB x <;> rfl
  have k1d : decide ((1 : Int) ≤ (k : Int)) = false := decide_eq_false (by omega)
  have k2 : cb = false := by rw [hcb]; unfold commitB; simp only [decide_eq_false_iff_not]; omega
  have k2' : (cb == false) = true := by rw [k2]; rfl
  have l1 : ∀ W, Vars W → Calls Tryd.prog 7 #[.agg #[.int .i64 x.a, .int .u8 (x.k : Int), .int .i64 x.w, .int .i64 x.t, .int .i64 x.p, .int .i64 x.c, .int .i64 x.b, .int .i64 x.q, .int .i64 x.v, .int .i64 x.u, .bool x.o, .int .i64 x.e, .int .u64 (x.s : Int)]] W fun e w' => e = .returned (.tuple #[.string ⟨A.toArray⟩, .int .i64 E]) ∧ Below W.heap.size W w' := fun W hW => by
    have h := eline_any x hx W hW
    rw [← hA, ← hE] at h
    exact h
  have l2 : ∀ W, Vars W → Calls Tryd.prog 8 #[.agg #[.int .i64 x.a, .int .u8 (x.k : Int), .int .i64 x.w, .int .i64 x.t, .int .i64 x.p, .int .i64 x.c, .int .i64 x.b, .int .i64 x.q, .int .i64 x.v, .int .i64 x.u, .bool x.o, .int .i64 x.e, .int .u64 (x.s : Int)]] W fun e w' => e = .returned (.tuple #[.string ⟨A.toArray⟩, .int .i64 E]) ∧ Below W.heap.size W w' := fun W hW => by
    have h := rline_any x hx W hW
    rw [← hA, ← hE] at h
    exact h
  have l3 : l.length ≤ 100 → ∀ W v, EnRow W v l → Calls Tryd.prog 9 #[v] W fun e w' => e = .returned (.tuple #[.string ⟨S.toArray⟩, .int .i64 F]) ∧ Below W.heap.size W w' := fun hl W v hr => by
    have h := eputs_any v l W hr hok hl
    rw [← hS, ← hF] at h
    exact h
  have l4 : l.length ≤ 100 → ∀ W v, EnRow W v l → Calls Tryd.prog 10 #[v] W fun e w' => e = .returned (.tuple #[.string ⟨S.toArray⟩, .int .i64 F]) ∧ Below W.heap.size W w' := fun hl W v hr => by
    have h := rputs_any v l W hr hok hl
    rw [← hS, ← hF] at h
    exact h
  have hmsl : s.length ≤ 4096 → ms.length ≤ 4096 := fun hs1 => by
    rw [hms]
    unfold getV
    cases g : getL s with
    | none => simp
    | some q =>
      obtain ⟨_, _, h3⟩ := put_of_get s.length (Nat.le_refl _) g
      have h4 := flat_posT q
      rw [h3] at h4
      simp only [Option.getD_some]
      omega
  have l5 : s.length ≤ 4096 → ∀ W, Calls Tryd.prog 11 #[.string ⟨s.toArray⟩] W fun e w' => ∃ a c, e = .returned (.tuple #[.slice a ms.length c, .int .i64 G]) ∧ EnRow w' (.slice a ms.length c) ms ∧ Below W.heap.size W w' := fun hs1 W => by
    refine (egets_any s W (by omega)).mono fun e w' ⟨v, h1, h2, _, h4⟩ => ?_
    rw [← hG] at h1
    rw [← hms] at h2
    obtain ⟨a, c, rfl⟩ := h2.slice
    exact ⟨a, c, h1, h2, h4⟩
  have l6 : s.length ≤ 4096 → ∀ W, Calls Tryd.prog 12 #[.string ⟨s.toArray⟩] W fun e w' => ∃ a c, e = .returned (.tuple #[.slice a ms.length c, .int .i64 G]) ∧ EnRow w' (.slice a ms.length c) ms ∧ Below W.heap.size W w' := fun hs1 W => by
    refine (rgets_any s W (by omega)).mono fun e w' ⟨v, h1, h2, _, h4⟩ => ?_
    rw [← hG] at h1
    rw [← hms] at h2
    obtain ⟨a, c, rfl⟩ := h2.slice
    exact ⟨a, c, h1, h2, h4⟩
  have l7 : ∀ W, Calls Tryd.prog 13 #[.agg #[.int .i64 x.a, .int .u8 (x.k : Int), .int .i64 x.w, .int .i64 x.t, .int .i64 x.p, .int .i64 x.c, .int .i64 x.b, .int .i64 x.q, .int .i64 x.v, .int .i64 x.u, .bool x.o, .int .i64 x.e, .int .u64 (x.s : Int)]] W fun e w' => e = .returned (.int .i64 E) ∧ Below W.heap.size W w' := fun W => by
    have h := check_any x hx W
    rw [← hE] at h
    exact h
  have l8 : ∀ W, Calls Tryd.prog 14 #[.agg #[.int .i64 x.a, .int .u8 (x.k : Int), .int .i64 x.w, .int .i64 x.t, .int .i64 x.p, .int .i64 x.c, .int .i64 x.b, .int .i64 x.q, .int .i64 x.v, .int .i64 x.u, .bool x.o, .int .i64 x.e, .int .u64 (x.s : Int)]] W fun e w' => e = .returned (.bool b) ∧ Below W.heap.size W w' := fun W => by
    have h := rmay_any x hx W
    rw [← hb] at h
    exact h.mono fun e w' ⟨h1, h2⟩ => ⟨h1, h2.below (Nat.le_refl _) (by simp)⟩
  have l9 : ∀ W, Calls Tryd.prog 16 #[.int .u8 (k : Int)] W fun e w' => e = .returned (.string ⟨wd.toArray⟩) ∧ Below W.heap.size W w' := fun W => by
    have h := word_any k hk256 W
    rw [← hwd] at h
    exact h
  have l10 : ∀ W, Calls Tryd.prog 17 #[.int .u8 (k : Int)] W fun e w' => e = .returned (.string ⟨wd.toArray⟩) ∧ Below W.heap.size W w' := fun W => by
    have h := rword_any k hk256 W
    rw [← hwd] at h
    exact h
  have l11 : ∀ W, Calls Tryd.prog 18 #[.int .u8 (k : Int)] W fun e w' => e = .returned (.bool cb) ∧ Below W.heap.size W w' := fun W => by
    have h := commit_any k W
    rw [← hcb] at h
    exact h.mono fun e w' ⟨h1, h2⟩ => ⟨h1, by rw [h2]; exact Below.refl _ _⟩
  have l12 : ∀ W, Below w.heap.size w W → Calls Tryd.prog 6 #[] W fun e w' => e = .returned (.bool true) ∧ Below W.heap.size W w' := fun W hW => ealive_any W (hv.below hW)
  clear hA hE hb hS hF hG hms hwd hcb hx hok hk
  by_cases hl : 100 < l.length
  · have hl' : (100 : Int) < (l.length : Int) := by omega
    rw [hW0] at hf0
    clear l1 l2 l3 l4 l5 l6 l7 l8 l9 l10 l11 l12 hW0 x0 a0 hmsl hr
    go_enter Tryd.func3, Tryd.ntmps3
    go_wp2_with fail
    refine hf0.mono ?_
    rintro e w2 ⟨rfl, hb⟩
    go_wp2_with fail
    go_ret
    exact ⟨rfl, hb⟩
  have hl' : ¬ (100 : Int) < (l.length : Int) := by omega
  have hld : decide ((100 : Int) < (l.length : Int)) = false := decide_eq_false hl'
  by_cases hs1 : 4096 < s.length
  · have hs2 : (4096 : Int) < (s.length : Int) := by omega
    rw [hW0] at hf0
    clear l1 l2 l3 l4 l5 l6 l7 l8 l9 l10 l11 l12 hW0 x0 a0 hmsl hr
    go_enter Tryd.func3, Tryd.ntmps3
    go_wp2_with fail
    refine hf0.mono ?_
    rintro e w2 ⟨rfl, hb⟩
    go_wp2_with fail
    go_ret
    exact ⟨rfl, hb⟩
  have hs2 : ¬ (4096 : Int) < (s.length : Int) := by omega
  have hsd : decide ((4096 : Int) < (s.length : Int)) = false := decide_eq_false hs2
  have l3 := l3 (by omega)
  have l4 := l4 (by omega)
  have l5 := l5 (by omega)
  have l6 := l6 (by omega)
  have hmsl := hmsl (by omega)
  have hl100 : l.length ≤ 100 := by omega
  clear hl hs1 hf0 hs' hml
  have l1' := l1 W0 (hv.below a0)
  have c0 : W0.cell? ⟨w.heap.size, 0, none⟩ = some (.int .i64 x.a) := x0.c0
  have c1 : W0.cell? ⟨w.heap.size, 1, none⟩ = some (.int .u8 (x.k : Int)) := x0.c1
  have c2 : W0.cell? ⟨w.heap.size, 2, none⟩ = some (.int .i64 x.w) := x0.c2
  have c3 : W0.cell? ⟨w.heap.size, 3, none⟩ = some (.int .i64 x.t) := x0.c3
  have c4 : W0.cell? ⟨w.heap.size, 4, none⟩ = some (.int .i64 x.p) := x0.c4
  have c5 : W0.cell? ⟨w.heap.size, 5, none⟩ = some (.int .i64 x.c) := x0.c5
  have c6 : W0.cell? ⟨w.heap.size, 6, none⟩ = some (.int .i64 x.b) := x0.c6
  have c7 : W0.cell? ⟨w.heap.size, 7, none⟩ = some (.int .i64 x.q) := x0.c7
  have c8 : W0.cell? ⟨w.heap.size, 8, none⟩ = some (.int .i64 x.v) := x0.c8
  have c9 : W0.cell? ⟨w.heap.size, 9, none⟩ = some (.int .i64 x.u) := x0.c9
  have c10 : W0.cell? ⟨w.heap.size, 10, none⟩ = some (.bool x.o) := x0.c10
  have c11 : W0.cell? ⟨w.heap.size, 11, none⟩ = some (.int .i64 x.e) := x0.c11
  have c12 : W0.cell? ⟨w.heap.size, 12, none⟩ = some (.int .u64 (x.s : Int)) := x0.c12
  rw [hW0] at l1' c0 c1 c2 c3 c4 c5 c6 c7 c8 c9 c10 c11 c12
  go_enter Tryd.func3, Tryd.ntmps3
  go_wp2_with fail
  refine l1'.mono ?_
  rw [← hW0]
  clear hW0 l1' l1 c0 c1 c2 c3 c4 c5 c6 c7 c8 c9 c10 c11 c12
  rintro e w1 ⟨rfl, b1⟩
  have B1 := below_nx a0 b1 (Nat.le_refl _)
  have x1 : EnAt w1 w.heap.size x := x0.of_block (b1.block _ x0.lt)
  have c0 : w1.cell? ⟨w.heap.size, 0, none⟩ = some (.int .i64 x.a) := x1.c0
  have c1 : w1.cell? ⟨w.heap.size, 1, none⟩ = some (.int .u8 (x.k : Int)) := x1.c1
  have c2 : w1.cell? ⟨w.heap.size, 2, none⟩ = some (.int .i64 x.w) := x1.c2
  have c3 : w1.cell? ⟨w.heap.size, 3, none⟩ = some (.int .i64 x.t) := x1.c3
  have c4 : w1.cell? ⟨w.heap.size, 4, none⟩ = some (.int .i64 x.p) := x1.c4
  have c5 : w1.cell? ⟨w.heap.size, 5, none⟩ = some (.int .i64 x.c) := x1.c5
  have c6 : w1.cell? ⟨w.heap.size, 6, none⟩ = some (.int .i64 x.b) := x1.c6
  have c7 : w1.cell? ⟨w.heap.size, 7, none⟩ = some (.int .i64 x.q) := x1.c7
  have c8 : w1.cell? ⟨w.heap.size, 8, none⟩ = some (.int .i64 x.v) := x1.c8
  have c9 : w1.cell? ⟨w.heap.size, 9, none⟩ = some (.int .i64 x.u) := x1.c9
  have c10 : w1.cell? ⟨w.heap.size, 10, none⟩ = some (.bool x.o) := x1.c10
  have c11 : w1.cell? ⟨w.heap.size, 11, none⟩ = some (.int .i64 x.e) := x1.c11
  have c12 : w1.cell? ⟨w.heap.size, 12, none⟩ = some (.int .u64 (x.s : Int)) := x1.c12
  have l2' := l2 w1 (hv.below B1)
  clear b1 a0 x0 l2
  go_wp2_with fail
  refine l2'.mono ?_
  rintro e w2 ⟨rfl, b2⟩
  have B2 := below_nx B1 b2 (Nat.le_refl _)
  have x2 : EnAt w2 w.heap.size x := x1.of_block (b2.block _ x1.lt)
  obtain ⟨v3, w3, hrun, r3, b3⟩ := run_copyE w2 _ l 27 (hr.below B2) hl100
  have B3 := below_nx B2 b3 (Nat.le_refl _)
  have x3 : EnAt w3 w.heap.size x := x2.of_block (b3.block _ x2.lt)
  clear c0 c1 c2 c3 c4 c5 c6 c7 c8 c9 c10 c11 c12 b2 B1 x1 l2' b3
  go_wp2_with (at_builtin; refine wpList_app1 rfl _ _ _ _ rfl _ _ v3 w3 rfl rfl hrun ?_; go_frame)
  clear hrun
  go_wp2_with fail
  refine (l3 w3 v3 r3).mono ?_
  rintro e w4 ⟨rfl, b4⟩
  have B4 := below_nx B3 b4 (Nat.le_refl _)
  have x4 : EnAt w4 w.heap.size x := x3.of_block (b4.block _ x3.lt)
  clear b4 B3 B2 x3 x2 l3 r3
  go_wp2_with fail
  refine (l4 w4 _ (hr.below B4)).mono ?_
  rintro e w5 ⟨rfl, b5⟩
  have B5 := below_nx B4 b5 (Nat.le_refl _)
  have x5 : EnAt w5 w.heap.size x := x4.of_block (b5.block _ x4.lt)
  clear b5 B4 x4 l4
  go_wp2_with fail
  refine (l5 w5).mono ?_
  rintro e w6 ⟨p6, c6, rfl, r6, b6⟩
  have B6 := below_nx B5 b6 (Nat.le_refl _)
  have x6 : EnAt w6 w.heap.size x := x5.of_block (b6.block _ x5.lt)
  clear b6 B5 x5 l5
  go_wp2_with fail
  refine (l6 w6).mono ?_
  rintro e w7 ⟨p7, c7, rfl, r7, b7⟩
  have B7 := below_nx B6 b7 (Nat.le_refl _)
  have x7 : EnAt w7 w.heap.size x := x6.of_block (b7.block _ x6.lt)
  have r67 := r6.below b7
  clear b7 B6 x6 l6 r6
  have hkS : ∀ W, Below w7.heap.size w7 W → W.cell? ⟨w.heap.size, 0, none⟩ = some (.int .i64 x.a) ∧ W.cell? ⟨w.heap.size, 1, none⟩ = some (.int .u8 (x.k : Int)) ∧ W.cell? ⟨w.heap.size, 2, none⟩ = some (.int .i64 x.w) ∧ W.cell? ⟨w.heap.size, 3, none⟩ = some (.int .i64 x.t) ∧ W.cell? ⟨w.heap.size, 4, none⟩ = some (.int .i64 x.p) ∧ W.cell? ⟨w.heap.size, 5, none⟩ = some (.int .i64 x.c) ∧ W.cell? ⟨w.heap.size, 6, none⟩ = some (.int .i64 x.b) ∧ W.cell? ⟨w.heap.size, 7, none⟩ = some (.int .i64 x.q) ∧ W.cell? ⟨w.heap.size, 8, none⟩ = some (.int .i64 x.v) ∧ W.cell? ⟨w.heap.size, 9, none⟩ = some (.int .i64 x.u) ∧ W.cell? ⟨w.heap.size, 10, none⟩ = some (.bool x.o) ∧ W.cell? ⟨w.heap.size, 11, none⟩ = some (.int .i64 x.e) ∧ W.cell? ⟨w.heap.size, 12, none⟩ = some (.int .u64 (x.s : Int)) ∧ Below w7.heap.size w7 W := fun W hW => by
    have hx1 : EnAt W w.heap.size x := x7.of_block (hW.block _ x7.lt)
    exact ⟨hx1.c0, hx1.c1, hx1.c2, hx1.c3, hx1.c4, hx1.c5, hx1.c6, hx1.c7, hx1.c8, hx1.c9, hx1.c10, hx1.c11, hx1.c12, hW⟩
  have m7 : ∀ W, Below w7.heap.size w7 W → Calls Tryd.prog 13 #[.agg #[.int .i64 x.a, .int .u8 (x.k : Int), .int .i64 x.w, .int .i64 x.t, .int .i64 x.p, .int .i64 x.c, .int .i64 x.b, .int .i64 x.q, .int .i64 x.v, .int .i64 x.u, .bool x.o, .int .i64 x.e, .int .u64 (x.s : Int)]] W fun e w' => e = .returned (.int .i64 E) ∧ Below w7.heap.size w7 w' := fun W hW => (l7 W).mono fun e w' ⟨h1, h2⟩ => ⟨h1, below_nx hW h2 (Nat.le_refl _)⟩
  have m8 : ∀ W, Below w7.heap.size w7 W → Calls Tryd.prog 14 #[.agg #[.int .i64 x.a, .int .u8 (x.k : Int), .int .i64 x.w, .int .i64 x.t, .int .i64 x.p, .int .i64 x.c, .int .i64 x.b, .int .i64 x.q, .int .i64 x.v, .int .i64 x.u, .bool x.o, .int .i64 x.e, .int .u64 (x.s : Int)]] W fun e w' => e = .returned (.bool b) ∧ Below w7.heap.size w7 w' := fun W hW => (l8 W).mono fun e w' ⟨h1, h2⟩ => ⟨h1, below_nx hW h2 (Nat.le_refl _)⟩
  have m9 : ∀ W, Below w7.heap.size w7 W → Calls Tryd.prog 16 #[.int .u8 (k : Int)] W fun e w' => e = .returned (.string ⟨wd.toArray⟩) ∧ Below w7.heap.size w7 w' := fun W hW => (l9 W).mono fun e w' ⟨h1, h2⟩ => ⟨h1, below_nx hW h2 (Nat.le_refl _)⟩
  have m10 : ∀ W, Below w7.heap.size w7 W → Calls Tryd.prog 17 #[.int .u8 (k : Int)] W fun e w' => e = .returned (.string ⟨wd.toArray⟩) ∧ Below w7.heap.size w7 w' := fun W hW => (l10 W).mono fun e w' ⟨h1, h2⟩ => ⟨h1, below_nx hW h2 (Nat.le_refl _)⟩
  have m11 : ∀ W, Below w7.heap.size w7 W → Calls Tryd.prog 18 #[.int .u8 (k : Int)] W fun e w' => e = .returned (.bool cb) ∧ Below w7.heap.size w7 w' := fun W hW => (l11 W).mono fun e w' ⟨h1, h2⟩ => ⟨h1, below_nx hW h2 (Nat.le_refl _)⟩
  have m12 : ∀ W, Below w7.heap.size w7 W → Calls Tryd.prog 6 #[] W fun e w' => e = .returned (.bool true) ∧ Below w7.heap.size w7 w' := fun W hW => (l12 W (below_nx B7 hW (Nat.le_refl _))).mono fun e w' ⟨h1, h2⟩ => ⟨h1, below_nx hW h2 (Nat.le_refl _)⟩
  have m13 : ∀ W, Below w7.heap.size w7 W → Calls Tryd.prog 15 #[.slice p6 ms.length c6, .slice p7 ms.length c7] W fun e w' => e = .returned (.bool true) ∧ Below w7.heap.size w7 w' := fun W hW => by
    have h := same_any _ _ ms ms W (r67.below hW) (r7.below hW) (by omega) (by omega)
    rw [decide_eq_true rfl] at h
    exact h.mono fun e w' ⟨h1, h2⟩ => ⟨h1, below_nx hW h2 (Nat.le_refl _)⟩
  have hD0 : Below w7.heap.size w7 w7.drew := (Below.refl _ _).drew
  clear l7 l8 l9 l10 l11 l12 hl' hld hs2 hsd hr r67 r7 x7 hfin
  go_wp2_with fail
  first
    | (go_region_held (fun w' => w'.cell? ⟨w.heap.size, 0, none⟩ = some (.int .i64 x.a) ∧ w'.cell? ⟨w.heap.size, 1, none⟩ = some (.int .u8 (x.k : Int)) ∧ w'.cell? ⟨w.heap.size, 2, none⟩ = some (.int .i64 x.w) ∧ w'.cell? ⟨w.heap.size, 3, none⟩ = some (.int .i64 x.t) ∧ w'.cell? ⟨w.heap.size, 4, none⟩ = some (.int .i64 x.p) ∧ w'.cell? ⟨w.heap.size, 5, none⟩ = some (.int .i64 x.c) ∧ w'.cell? ⟨w.heap.size, 6, none⟩ = some (.int .i64 x.b) ∧ w'.cell? ⟨w.heap.size, 7, none⟩ = some (.int .i64 x.q) ∧ w'.cell? ⟨w.heap.size, 8, none⟩ = some (.int .i64 x.v) ∧ w'.cell? ⟨w.heap.size, 9, none⟩ = some (.int .i64 x.u) ∧ w'.cell? ⟨w.heap.size, 10, none⟩ = some (.bool x.o) ∧ w'.cell? ⟨w.heap.size, 11, none⟩ = some (.int .i64 x.e) ∧ w'.cell? ⟨w.heap.size, 12, none⟩ = some (.int .u64 (x.s : Int)) ∧ Below w7.heap.size w7 w')
          ((refine hkS _ ?_; with_reducible first | exact hD0 | exact hb9))
          ((first
            | (go_at_call 13; (with_reducible refine (m7 _ (by assumption)).mono ?_); rintro e w9 ⟨rfl, hb9⟩)
            | (go_at_call 14; (with_reducible refine (m8 _ (by assumption)).mono ?_); rintro e w9 ⟨rfl, hb9⟩)
            | (go_at_call 15; (with_reducible refine (m13 _ (by assumption)).mono ?_); rintro e w9 ⟨rfl, hb9⟩)
            | (go_at_call 16; (with_reducible refine (m9 _ (by assumption)).mono ?_); rintro e w9 ⟨rfl, hb9⟩)
            | (go_at_call 17; (with_reducible refine (m10 _ (by assumption)).mono ?_); rintro e w9 ⟨rfl, hb9⟩)
            | (go_at_call 18; (with_reducible refine (m11 _ (by assumption)).mono ?_); rintro e w9 ⟨rfl, hb9⟩)
            | (go_at_call 6; (with_reducible refine (m12 _ (by assumption)).mono ?_); rintro e w9 ⟨rfl, hb9⟩))))
    | fail "the region"
  all_goals go_wp2_with fail
  all_goals go_ret
  all_goals exact ⟨rfl, below_nx B7 hb9 (Nat.le_refl _)⟩
theorem etells_any (x : En) (hx : x.ok) (v : Value) (l : List En) (s : List UInt8) (k : Nat) (hk256 : k < 256) (w : World) (hr : EnRow w v l) (hok : ∀ x ∈ l, x.ok) (hs : (⟨s.toArray⟩ : ByteArray).size ≤ maxLen) (hv : Vars w) :
    Calls Tryd.prog 3 #[x.val, v, .string ⟨s.toArray⟩, .int .u8 (k : Int)] w fun e w' => e = .returned (.bool true) ∧ Below w.heap.size w w' := by
  by_cases hk : 1 ≤ k
  · exact etells_in x hx v l s k hk256 hk w hr hok hs hv
  · exact etells_out x hx v l s k hk256 hk w hr hok hs hv
end Go.Proofs.YtengpehiknoheaaDoor
