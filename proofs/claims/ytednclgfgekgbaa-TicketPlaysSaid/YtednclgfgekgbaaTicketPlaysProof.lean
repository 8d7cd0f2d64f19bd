/-
  For every base, every count, every row of steps and every lock: TicketPlays returns true, and each argument reads afterwards as before. No condition.
-/
import Derived.Test.YtednclgfgekgbaaRows
import Derived.WalkKit
import Derived.Test.YtednclgfgekgbaaTPlaysW
import Derived.ProofKit
import Derived.OpenShut
import Derived.ShutString
import Derived.ChangeOld
import Derived.Below
import Derived.Deep.Slices
namespace Go.Proofs.Ytednclgfgekgbaa.ticketPlays
open Go.ChangeShapes Go.WideShapes Go.ChangeAt Go.RowKit Go.Deep

theorem own : ownKnob Try.prog.godebug = none := by kernel_rfl
theorem laidOut : laidOutB Try.prog = true := by kernel_rfl
theorem cellsStep : Try.prog.cellsOf 47 = 4 := by kernel_rfl

/-- One step's cells, read as it lies. -/
theorem four {H : Type} {enc : TypeId × Value → H} {W : World} {n : Nat} {a : Addr} {cs : List Value} {x : DataW H × List MemPlace} (h1 : W.cells? 0 a 4 = some cs) (h2 : DataW.trod enc Try.prog W 0 (fun _ => true) true n 47 cs = some x) :
    ∃ (d k : Int) (t v : Nat), W.cell? a = some (.int .i64 d) ∧ W.cell? (a.add 1) = some (.int .i64 k) ∧ W.cell? (a.add 2) = some (.int .u16 (t : Int)) ∧ W.cell? (a.add 3) = some (.int .u64 (v : Int)) ∧ (-9223372036854775808 ≤ k ∧ k ≤ 9223372036854775807) ∧ v < 18446744073709551616 := by
  obtain ⟨_, hlen, hat⟩ := World.cells?_some h1
  obtain ⟨ys, m, _, _, _, hyl, hf⟩ := DataW.trod_struct Try.underlying47 h2
  match cs, hlen, ys, hyl with
  | [v0, v1, v2, v3], _, [y0, y1, y2, y3], _ =>
    have g0 : DataW.trod enc Try.prog W 0 (fun _ => true) true m 3 (List.take (Try.prog.cellsOf 3) [v0, v1, v2, v3]) = some y0 := hf 0 _ rfl
    have g1 : DataW.trod enc Try.prog W 0 (fun _ => true) true m 3 (List.take (Try.prog.cellsOf 3) [v1, v2, v3]) = some y1 := hf 1 _ rfl
    have g2 : DataW.trod enc Try.prog W 0 (fun _ => true) true m 30 (List.take (Try.prog.cellsOf 30) [v2, v3]) = some y2 := hf 2 _ rfl
    have g3 : DataW.trod enc Try.prog W 0 (fun _ => true) true m 41 (List.take (Try.prog.cellsOf 41) [v3]) = some y3 := hf 3 _ rfl
    rw [show Try.prog.cellsOf 3 = 1 by kernel_rfl, List.take_succ_cons, List.take_zero] at g0 g1
    rw [show Try.prog.cellsOf 30 = 1 by kernel_rfl, List.take_succ_cons, List.take_zero] at g2
    rw [show Try.prog.cellsOf 41 = 1 by kernel_rfl, List.take_succ_cons, List.take_zero] at g3
    obtain ⟨d, e0, _, _⟩ := DataW.trod_int Try.underlying3 g0
    obtain ⟨k, e1, _, k1⟩ := DataW.trod_int Try.underlying3 g1
    obtain ⟨t, e2, _, t1⟩ := DataW.trod_int Try.underlying30 g2
    obtain ⟨v, e3, _, u1⟩ := DataW.trod_int Try.underlying41 g3
    simp only [List.cons.injEq, and_true] at e0 e1 e2 e3
    subst e0 e1 e2 e3
    obtain ⟨t, rfl⟩ := Int.eq_ofNat_of_zero_le (bounds_u16 t1).1
    obtain ⟨v, rfl⟩ := Int.eq_ofNat_of_zero_le (bounds_u64 u1).1
    refine ⟨d, k, t, v, ?_, hat 1 (by omega), hat 2 (by omega), hat 3 (by omega), bounds_i64 k1, by have := (bounds_u64 u1).2; omega⟩
    simpa [Addr.add] using hat 0 (by omega)

/-- A row of steps that came in. -/
theorem steps_of {H : Type} {enc : TypeId × Value → H} {W : World} {a : Option Addr} {len cap : Nat} {d : DataW H} {p : List MemPlace} (h : DataW.Trod enc Try.prog W 0 (fun _ => true) true 22 (.slice a len cap) d p) : ∃ ss, Steps W (.slice a len cap) ss := by
  obtain ⟨fuel, hf⟩ := h
  rcases open_slice Try.underlying22 hf with ⟨hcs, _⟩ | ⟨x, l, c, m, n, D, Pl, hcs, _, hl, hm, hmm, _, hx⟩
  · simp [Value.cells] at hcs
    obtain ⟨rfl, rfl, rfl⟩ := hcs
    exact ⟨[], .inl ⟨rfl, _, _, rfl⟩⟩
  · simp [Value.cells] at hcs
    obtain ⟨rfl, rfl, rfl⟩ := hcs
    by_cases h0 : len = 0
    · subst h0; exact ⟨[], .inl ⟨rfl, _, _, rfl⟩⟩
    have hlm : len ≤ m := by rw [hmm]; split <;> omega
    rw [cellsStep] at hx
    have key : ∀ i, i < len → ∃ q : Int × Int × Nat × Nat, W.cell? (x.add (i * 4)) = some (.int .i64 q.1) ∧ W.cell? ((x.add (i * 4)).add 1) = some (.int .i64 q.2.1) ∧ W.cell? ((x.add (i * 4)).add 2) = some (.int .u16 (q.2.2.1 : Int)) ∧ W.cell? ((x.add (i * 4)).add 3) = some (.int .u64 (q.2.2.2 : Int)) ∧ (-9223372036854775808 ≤ q.2.1 ∧ q.2.1 ≤ 9223372036854775807) ∧ q.2.2.2 < 18446744073709551616 := fun i hi => by
      obtain ⟨cs, h1, h2⟩ := hx i (by omega)
      obtain ⟨d, k, t, v, r⟩ := four h1 h2
      exact ⟨(d, k, t, v), r⟩
    have ⟨f, hfq⟩ : ∃ f : Nat → Int × Int × Nat × Nat, ∀ i, i < len → W.cell? (x.add (i * 4)) = some (.int .i64 (f i).1) ∧ W.cell? ((x.add (i * 4)).add 1) = some (.int .i64 (f i).2.1) ∧ W.cell? ((x.add (i * 4)).add 2) = some (.int .u16 ((f i).2.2.1 : Int)) ∧ W.cell? ((x.add (i * 4)).add 3) = some (.int .u64 ((f i).2.2.2 : Int)) ∧ (-9223372036854775808 ≤ (f i).2.1 ∧ (f i).2.1 ≤ 9223372036854775807) ∧ (f i).2.2.2 < 18446744073709551616 :=
      ⟨fun i => if h : i < len then Classical.choose (key i h) else (0, 0, 0, 0), fun i hi => by simp only [dif_pos hi]; exact Classical.choose_spec (key i hi)⟩
    obtain ⟨b, off, spot⟩ := x
    have hc0 := (hfq 0 (by omega)).1
    have hspot : spot = none := by simpa [Addr.add] using World.cell?_spot hc0
    subst hspot
    have ad : ∀ o j, (Addr.mk b o none).add j = ⟨b, o + j, none⟩ := fun o j => by
      by_cases hj : j = 0
      · subst hj; simp [Addr.add]
      · simp [Addr.add, hj]
    refine ⟨(List.range len).map f, .inr ⟨b, off, cap, by simp, by simp; omega, fun j hj => ?_⟩⟩
    have hj' : j < len := by simpa using hj
    have hg : ((List.range len).map f)[j]?.getD (0, 0, 0, 0) = f j := by simp [List.getElem?_map, List.getElem?_range hj']
    obtain ⟨r0, r1, r2, r3, r4, r5⟩ := hfq j hj'
    rw [ad] at r0
    rw [ad, ad] at r1 r2 r3
    rw [hg]
    exact ⟨r0, r1, r2, r3, r4.1, r4.2, r5⟩

/-! ### THE WALK -/
theorem walk (a0 a1 a3 : Int) (v : Value) (ss : List (Int × Int × Nat × Nat)) (w : World) (w0 : (Lit.int .i64 a0).wf = true) (w1 : (Lit.int .i64 a1).wf = true) (hs : Steps w v ss) :
    Calls Try.prog 3 #[.int .i64 a0, .int .i64 a1, v, .int .i64 a3] w fun e w' => e = .returned (.bool true) ∧ Below w.heap.size w w' := by
  have e0 := bounds_i64 w0
  have e1 := bounds_i64 w1
  exact plays_walk a0 a1 a3 v ss w e0.1 e0.2 e1.1 e1.2 hs

/-! ### THE ROW's STEP -/
set_option maxRecDepth 100000 in
theorem lifted (os : Os) (started : os.Started) (H : Type) (enc : TypeId × Value → H) :
    ReturnsInHanded {} Try.checked os 3 .any (Rows.ticketPlaysSpec.pre6 enc Try.prog Try.f3 Rows.ticketPlaysRow.domain false) (Rows.ticketPlaysSpec.post enc Try.prog Try.f3 false true false false) := by
  refine returnsInHanded_of_change (C := Try.checked) own started (by kernel_rfl) Try.func3
    (ChangeSpec.witness6 (enc := enc) (C := Try.checked) false ⟨#[], #[.int .i64 0, .int .i64 0, .slice none 0 0, .int .i64 0], []⟩ 8 (by kernel_rfl) (by kernel_rfl) (by kernel_rfl) (by kernel_rfl)) ?_
  intro W base args ds gs before hval0 hW hcnd _
  have hval : ∀ (j : Nat) t v, Try.f3.params[j]? = some t → args[j]? = some v → Value.okWide Try.prog W .any base t v := hval0
  have hW' := hW
  obtain ⟨p, q, hA0, hV, rfl, hfz, hnd⟩ := hW
  have hA : DataW.TrodAll enc Try.prog W 0 (fun _ => true) true Try.f3.params.toList args.toList ds p := hA0
  rw [Try.params3] at hA hval
  obtain ⟨v0, vs0, d0, ds0, p0, q0, hargs, rfl, rfl, h0, r0⟩ := trodAll_cons hA
  obtain ⟨v1, vs1, d1, ds1, p1, q1, rfl, rfl, rfl, h1, r1⟩ := trodAll_cons r0
  obtain ⟨v2, vs2, d2, ds2, p2, q2, rfl, rfl, rfl, h2, r2⟩ := trodAll_cons r1
  obtain ⟨v3, vs3, d3, ds3, p3, q3, rfl, rfl, rfl, h3, r3⟩ := trodAll_cons r2
  obtain ⟨rfl, rfl, rfl⟩ := trodAll_nil r3
  obtain rfl : args = #[v0, v1, v2, v3] := by cases args; simp_all
  obtain ⟨rfl, rfl⟩ := trodVars_none hV
  obtain ⟨a0, rfl, rfl, rfl, w0⟩ := open_int Try.underlying3 (hval 0 3 v0 rfl rfl) h0
  obtain ⟨a1, rfl, rfl, rfl, w1⟩ := open_int Try.underlying3 (hval 1 3 v1 rfl rfl) h1
  obtain ⟨a2, len2, cap2, rfl⟩ := okWide_slice Try.underlying22 (hval 2 22 v2 rfl rfl)
  obtain ⟨a3, rfl, rfl, rfl, w3⟩ := open_int Try.underlying3 (hval 3 3 v3 rfl rfl) h3
  have k2 := h2
  have lt2 : ∀ x ∈ p2, x.block < W.heap.size := by obtain ⟨m, hm⟩ := k2; exact DataW.trod_lt m _ _ _ hm
  obtain ⟨ss, hs⟩ := steps_of h2
  clear hA0 hval0
  refine (walk a0 a1 a3 (.slice a2 len2 cap2) ss W w0 w1 hs).mono fun e W' ⟨he, bel⟩ => ?_
  subst he
  exact ⟨_, rfl, _, _, _, [], _, [], hW', trodAll_mk1 (shut_bool Try.underlying4 _), (trodAll_cons_mk (shut_int Try.underlying3 w0) (trodAll_cons_mk (shut_int Try.underlying3 w1) (trodAll_cons_mk (Below.trod laidOut (by kernel_rfl) (of_decide_eq_true (by kernel_rfl)) k2 bel lt2) (trodAll_cons_mk (shut_int Try.underlying3 w3) trodAll_mk0)))), rfl, bel.frame _, fun h => by cases h⟩

theorem over : Rows.ticketPlaysRow.holds Try.pinned (OpenSpec.ofChange Rows.ticketPlaysSpec) :=
  OpenClaim.holds_of_wide 3 Try.f3 rfl rfl rfl rfl rfl rfl rfl ⟨rfl, rfl, rfl, rfl, rfl⟩ rfl rfl rfl rfl rfl (by kernel_rfl) Try.func3 (by kernel_rfl)
    (of_decide_eq_true (by kernel_rfl)) (by unfold Func.isWrapper; first | (rw [if_pos (by decide +kernel)]; kernel_rfl) | (rw [if_neg (by decide +kernel)]; exact ⟨rfl, rfl⟩))
    (fun os started H enc _ => lifted os started H enc)

theorem proved : Rows.TicketPlaysSaid := over
#print axioms proved
end Go.Proofs.Ytednclgfgekgbaa.ticketPlays
