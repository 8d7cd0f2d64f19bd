/-
  The walk of Look.
-/
import Derived.Test.YtkpnkhakjgfgfaaPKSo
namespace Go.Proofs.Ytkpnkhakjgfgfaa
open Go.RowKit Go.Shelf
open Lq (But I64b)

attribute [local go_sem] Oper.semAt_some

/-- The rules of an operation that sees h. -/
def asks (C : Nat) (h : Hs) (send : Bool) : List Ask :=
  if send then [⟨28, ptrO C, 1, h.c⟩, ⟨50, sightV C, 2, (h.r[0]?).isSome⟩, ⟨51, sightV C, 3, decide (h.b.length < h.m)⟩]
  else [⟨52, sightV C, 2, (h.s[0]?).isSome⟩, ⟨53, sightV C, 3, decide (0 < h.b.length)⟩, ⟨28, ptrO C, 4, h.c⟩]
theorem asks_len (C : Nat) (h : Hs) (send : Bool) : (asks C h send).length = 3 := by cases send <;> rfl
theorem asks_able {p : Pl} {h : Hs} {w : World} (H : Hch w p h) (send : Bool) : ∀ a ∈ asks p.C h send, Askable a w := by
  have hb : ∀ {W w' : World}, But [] W w' → Below W.heap.size W w' := fun h => h.below (Nat.le_refl _) (by simp)
  intro a ha
  cases send
  · simp only [asks, Bool.false_eq_true, if_false, List.mem_cons, List.not_mem_nil, or_false] at ha
    rcases ha with rfl | rfl | rfl
    · exact ⟨enters_of Try.func52 (by kernel_rfl) rfl, fun W hW => (sender_any W (H.later hW)).mono (fun e w' h => ⟨h.1, hb h.2⟩)⟩
    · exact ⟨enters_of Try.func53 (by kernel_rfl) rfl, fun W hW => (value_any W (H.later hW)).mono (fun e w' h => ⟨h.1, hb h.2⟩)⟩
    · exact ⟨enters_of Try.func28 (by kernel_rfl) rfl, fun W hW => (hclosed_any W (H.later hW)).mono (fun e w' h => ⟨h.1, hb h.2⟩)⟩
  · simp only [asks, if_true, List.mem_cons, List.not_mem_nil, or_false] at ha
    rcases ha with rfl | rfl | rfl
    · exact ⟨enters_of Try.func28 (by kernel_rfl) rfl, fun W hW => (hclosed_any W (H.later hW)).mono (fun e w' h => ⟨h.1, hb h.2⟩)⟩
    · exact ⟨enters_of Try.func50 (by kernel_rfl) rfl, fun W hW => (recv_any W (H.later hW)).mono (fun e w' h => ⟨h.1, hb h.2⟩)⟩
    · exact ⟨enters_of Try.func51 (by kernel_rfl) rfl, fun W hW => (room_any W (H.later hW)).mono (fun e w' h => ⟨h.1, hb h.2⟩)⟩
theorem rules_any (C : Nat) (h : Hs) (send : Bool) (w : World) :
    Calls Try.prog 33 #[sightV C, .bool send] w fun e w' => ∃ g, e = .returned (.slice (some ⟨g, 0, none⟩) (asks C h send).length 3) ∧ RuleRow w' g (asks C h send) ∧ But [] w w' := by
  cases send
  · refine (rules_take C w).mono ?_
    rintro e w' ⟨g, rfl, h1, h2⟩
    exact ⟨g, rfl, RulesAt.row (a0 := ⟨_, _, 2, _⟩) (a1 := ⟨_, _, 3, _⟩) (a2 := ⟨_, _, 4, _⟩) h1, h2⟩
  · refine (rules_send C w).mono ?_
    rintro e w' ⟨g, rfl, h1, h2⟩
    exact ⟨g, rfl, RulesAt.row (a0 := ⟨_, _, 1, _⟩) (a1 := ⟨_, _, 2, _⟩) (a2 := ⟨_, _, 3, _⟩) h1, h2⟩

/-- What is told by the first rule that is so. -/
def planOf (h : Hs) (send : Bool) (d : Int) : Int := if d = 2 then (((h.q (!send))[0]?).getD 0) else 0
theorem look_fired (C : Nat) (h : Hs) (send : Bool) : (((lookP h send).1 : Int), (lookP h send).2) = match (fired (asks C h send)).head? with
    | none => (5, 0)
    | some d => (d, planOf h send d) := by
  obtain ⟨m, c, b, s, r⟩ := h
  cases send
  · cases s with
    | cons x t => simp [asks, fired, lookP, planOf, Hs.q]
    | nil =>
      by_cases hb : 0 < b.length <;> cases c <;> simp [asks, fired, lookP, planOf, Hs.q, hb]
  · cases c
    · cases r with
      | cons x t => simp [asks, fired, lookP, planOf, Hs.q]
      | nil => by_cases hb : b.length < m <;> simp [asks, fired, lookP, planOf, Hs.q, hb]
    · simp [asks, fired, lookP, planOf]

/-- A plan in memory. -/
def PlanAt (W : World) (n : Nat) (d v : Int) : Prop := W.heap[n]? = some (.cells #[.int .u8 d, .int .i64 v] 34 (0, 0))
section
variable {W W' : World} {n : Nat} {d v : Int}
theorem PlanAt.c0 (h : PlanAt W n d v) : W.cell? ⟨n, 0, none⟩ = some (.int .u8 d) := by simp [World.cell?, show W.heap[n]? = _ from h]
theorem PlanAt.c1 (h : PlanAt W n d v) : W.cell? ⟨n, 1, none⟩ = some (.int .i64 v) := by simp [World.cell?, show W.heap[n]? = _ from h]
theorem PlanAt.frozen (h : PlanAt W n d v) (k : Nat) : W.frozen? ⟨n, k, none⟩ = false := by simp [World.frozen?, show W.heap[n]? = _ from h]
theorem PlanAt.held (h : PlanAt W n d v) {m : Nat} (hb : Below m W W') (hn : n < m) : PlanAt W' n d v := (hb.block n hn).trans h
theorem PlanAt.lt (h : PlanAt W n d v) : n < W.heap.size := (Array.getElem?_eq_some_iff.1 h).1
theorem PlanAt.later (h : PlanAt W n d v) (hb : Below W.heap.size W W') : PlanAt W' n d v := h.held hb h.lt
theorem PlanAt.set (h : PlanAt W n d v) (d' v' : Int) : PlanAt ((W.setCell ⟨n, 0, none⟩ (.int .u8 d')).setCell ⟨n, 1, none⟩ (.int .i64 v')) n d' v' := by
  have h1 := Lq.heap_set_same (k := 0) (.int .u8 d') h
  have h2 := Lq.heap_set_same (k := 1) (.int .i64 v') h1
  exact h2
theorem PlanAt.set1 (h : PlanAt W n d v) (v' : Int) : PlanAt (W.setCell ⟨n, 1, none⟩ (.int .i64 v')) n d v' := Lq.heap_set_same (k := 1) (.int .i64 v') h
theorem plan_new (w : World) (d v : Int) : PlanAt (w.alloc (.cells #[.int .u8 d, .int .i64 v] 34)) w.heap.size d v := World.alloc_heap_new w _
theorem plan_abides {β : Type} (n : Nat) (f g : β → Int) (m : Nat) : OwnFrom m (fun (s : β) W => PlanAt W n (f s) (g s)) :=
  Own.from (I := fun (s : β) W => PlanAt W n (f s) (g s)) (fun sx A W' row hs hg hr => (hg.block n (PlanAt.lt hs) (fun e' => by obtain ⟨o, ho, hc⟩ := hr _ e'.symm; rw [show A.heap[n]? = _ from hs] at ho; cases ho; cases hc)).trans hs) m
end
theorem below_two {n B : Nat} {w W : World} (h : Below n w W) (hB : n ≤ B) (a b : Value) : Below n w ((W.setCell ⟨B, 0, none⟩ a).setCell ⟨B, 1, none⟩ b) :=
  (h.setCell (p := ⟨B, 0, none⟩) hB a).setCell (p := ⟨B, 1, none⟩) hB b

theorem look_end (w W : World) (D : Nat) (hD : w.heap.size ≤ D) (d v x y : Int) (tm : Array Value) (htm : tm.getD 4 undef = .pointer (some ⟨w.heap.size + 1 + 1, 0, none⟩)) (hP : PlanAt W (w.heap.size + 1 + 1) d v) (hB : Below w.heap.size w W) (hK : W.heap[D]? = some (.deferred (some [])))
    (HE : Hid (d = x ∧ v = y)) :
    bodyPostM Fence.wide 4 Try.prog Try.f11 (fun e w' => e = .returned (.agg #[.int .u8 x, .int .i64 y]) ∧ But [] w w') .ret
      { tmps := tm, defers := [{ target := Target.collected D, args := #[] }] } W := by
  obtain ⟨rfl, rfl⟩ := HE.out
  refine ⟨by simp, .inl ⟨_, _, rfl, run_takeDeferred hK, ?_⟩⟩
  have hP2 : PlanAt (W.putObj D (.deferred none)) (w.heap.size + 1 + 1) d v := plan_abides (w.heap.size + 1 + 1) (fun _ : Unit => d) (fun _ => v) 0 () W _ (some D) hP (grownBy_putObj' _ D (.deferred none)) (fun r e => by cases e; exact ⟨Nat.zero_le _, _, hK, rfl⟩)
  refine ⟨.agg #[.int .u8 d, .int .i64 v], ?_, rfl, But.of_below (hB.trans (belowK_b (w := w) (Nat.le_refl _) _ D _ _ hD hK rfl rfl)) []⟩
  exact results_cell_row rfl _ _ (w.heap.size + 1 + 1) 34 _ (0, 0) _ htm hP2 Try.underlying34 rfl (by kernel_rfl)

set_option maxRecDepth 100000 in
set_option maxHeartbeats 1000000 in
theorem look_any {p : Pl} {h : Hs} (send : Bool) (w : World) (H : Hch w p h) :
    Calls Try.prog 11 #[ptrO p.C, .bool send] w fun e w' => e = .returned (.agg #[.int .u8 ((lookP h send).1 : Int), .int .i64 (lookP h send).2]) ∧ But [] w w' := by
  have hLF := Lib.hid (look_fired p.C h send)
  obtain ⟨x, hx⟩ : ∃ x : Int, x = ((lookP h send).1 : Int) := ⟨_, rfl⟩
  obtain ⟨y, hy⟩ : ∃ y : Int, y = (lookP h send).2 := ⟨_, rfl⟩
  rw [← hx, ← hy] at hLF ⊢
  clear hx hy
  obtain ⟨w1, hw1⟩ : ∃ w1, w1 = ((w.alloc (.cells #[ptrO p.C] 24)).alloc (.cells #[.bool send] 4)).alloc (.cells #[.int .u8 0, .int .i64 0] 34) := ⟨_, rfl⟩
  have b0 : Boxed w1 w.heap.size 24 (ptrO p.C) := by rw [hw1]; exact ((Boxed.new w _ _).alloc _).alloc _
  have b1 : Boxed w1 (w.heap.size + 1) 4 (.bool send) := by
    have := Boxed.new (w.alloc (.cells #[ptrO p.C] 24)) 4 (.bool send)
    rw [World.size_alloc] at this
    rw [hw1]; exact this.alloc _
  have b2 : PlanAt w1 (w.heap.size + 1 + 1) 0 0 := by
    have := plan_new ((w.alloc (.cells #[ptrO p.C] 24)).alloc (.cells #[.bool send] 4)) 0 0
    simp only [World.size_alloc] at this
    rw [hw1]; exact this
  have hB1 : Below w.heap.size w w1 := by rw [hw1]; exact (((Below.refl _ w).alloc (Nat.le_refl _) _).alloc (by simp) _).alloc (by simp; omega) _
  have hR := rules_any p.C h send w1
  refine (callsIn_wide (n := 4)).1 ?_
  refine callsIn_of_wp_marks Try.func11 rfl trivial ?_ rfl
  simp only [Try.ntmps11, List.size_toArray, List.length_cons, List.length_nil, Nat.reduceAdd, Nat.reduceSub, Array.replicate_succ, Array.replicate_zero, List.push_toArray, List.append_toArray, List.nil_append, List.cons_append]
  gi_wp2
  rw [← hw1]
  clear hw1
  refine ⟨trivial, (callsIn_wide.2 hR).mono ?_⟩
  rintro e w2 ⟨g, rfl, hrow, hb2⟩
  gi_wp2
  refine ⟨trivial, (callsIn_wide.2 (so_any _ _ _ w2)).mono ?_⟩
  rintro e w3 ⟨rfl, hw3⟩
  have hBx : Boxed w3 w2.heap.size 68 (.slice (some ⟨g, 0, none⟩) (asks p.C h send).length 3) := by rw [hw3]; exact Boxed.new w2 _ _
  have hb3 : But [] w2 w3 := by rw [hw3]; exact (Lq.But.refl _ _).alloc _
  clear hw3 hR
  have hB3 : Below w.heap.size w w3 := below_nx hB1 ((hb2.next hb3).below (Nat.le_refl _) (by simp)) hB1.size
  have a0 := (hb2.next hb3).boxed b0 (by simp)
  have a1 := (hb2.next hb3).boxed b1 (by simp)
  have a2 : PlanAt w3 (w.heap.size + 1 + 1) 0 0 := b2.later ((hb2.next hb3).below (Nat.le_refl _) (by simp))
  have hrow3 := hrow.held (hb3.block g hrow.1 (by simp)) hb3.size
  have hH3 := H.later hB3
  clear b0 b1 b2 hb2 hb3 hrow hB1 w1
  gi_wp2
  have hBw : w.heap.size ≤ w3.heap.size := hB3.size
  have hn2 : w.heap.size + 1 + 1 < w3.heap.size := a2.lt
  refine wpIn_rangeFunc_ownF rfl (by omega) (gf := 49) (lb := #[.pointer (some ⟨w2.heap.size, 0, none⟩)]) rfl trivial (enters_of Try.func49 (by kernel_rfl) rfl)
    (so_stops hBx hrow3 hrow3.1 (by rw [asks_len]; decide) (asks_able hH3 send) (Below.refl _ _)) (fun h k => h.trans k) (fun W l o o' hl ho hc hw => belowK_b (Nat.le_refl _) W l o o' hl ho hc hw) (Below.refl _ _) (fun _ => rfl)
    (fun pre W => Below w3.heap.size w3 W ∧ pre = [])
    (fun c pre W => PlanAt W (w.heap.size + 1 + 1) (pre.head?.getD 0) (planOf h send (pre.head?.getD 0)) ∧ Below w.heap.size w W ∧ c = .ret ∧ pre ≠ [])
    (OwnFrom.and (ownFrom_below (Nat.le_refl _) (Nat.le_refl _)) (fun _ _ _ _ h _ _ => h))
    (fun c => OwnFrom.and (plan_abides (w.heap.size + 1 + 1) (fun pre : List Int => pre.head?.getD 0) (fun pre => planOf h send (pre.head?.getD 0)) _) (OwnFrom.and (ownFrom_below (Nat.le_refl _) hBw) (fun _ _ _ _ h _ _ => h)))
    ⟨Below.refl _ _, rfl⟩
    (fun x => { tmps := #[ptrO p.C, .bool send, .pointer (some ⟨w.heap.size, 0, none⟩), .pointer (some ⟨w.heap.size + 1, 0, none⟩), .pointer (some ⟨w.heap.size + 1 + 1, 0, none⟩), .int .u8 x, undef, ptrO p.C, .bool false, undef, ptrO p.C, sightV p.C, .bool send, .slice (some ⟨g, 0, none⟩) (asks p.C h send).length 3, .func (.func 49) #[] #[.pointer (some ⟨w2.heap.size, 0, none⟩)], .int .u8 x, undef, undef, undef, undef, undef, undef, undef, undef, undef, undef, undef, undef, undef, undef], defers := [] }) ?assign ?body ?done ?stop
  case assign =>
    intro l x W K hK
    gi_wp2
    simpa using hK
  case body =>
    rintro l pre d W ⟨hB, rfl⟩ hlt
    have c0 := ((But.of_below hB []).boxed a0 (by simp)).cell
    have c1 := ((But.of_below hB []).boxed a1 (by simp)).cell
    have c2 := a2.later hB
    have hW := below_nx hB3 hB hB3.size
    have hH := hH3.later hB
    obtain ⟨W1, hW1⟩ : ∃ W1, W1 = W.alloc (.cells #[.int .u8 d, .int .i64 0] 34) := ⟨_, rfl⟩
    have hbW : Below W.heap.size W W1 := by rw [hW1]; exact below1 W _
    have k0 : (W.alloc (.cells #[.int .u8 d, .int .i64 0] 34)).cell? ⟨w.heap.size, 0, none⟩ = some (ptrO p.C) := by rw [← hW1]; exact ((But.of_below (below_nx hB hbW hB.size) []).boxed a0 (by simp)).cell
    have k1 : (W.alloc (.cells #[.int .u8 d, .int .i64 0] 34)).cell? ⟨w.heap.size + 1, 0, none⟩ = some (.bool send) := by rw [← hW1]; exact ((But.of_below (below_nx hB hbW hB.size) []).boxed a1 (by simp)).cell
    have hP1 : PlanAt W1 W.heap.size d 0 := by rw [hW1]; exact plan_new W d 0
    have hT1 : PlanAt W1 (w.heap.size + 1 + 1) 0 0 := c2.later hbW
    have hH1 := hH.later hbW
    have hW1' := below_nx hW hbW hW.size
    by_cases hd : d = 2
    · subst hd
      have hF := hfront_any (!send) W1 hH1
      gi_wp2
      rw [← hW1]
      clear hW1 k0 k1
      refine ⟨trivial, (CallsIn.inRound l (callsIn_wide.2 hF)).mono ?_⟩
      rintro e W2 ⟨rfl, hb⟩
      have hb2 : Below W1.heap.size W1 W2 := hb.below (Nat.le_refl _) (by simp)
      have hP2 := hP1.later hb2
      have hT2 := hT1.later hb2
      have hne : w.heap.size + 1 + 1 ≠ W.heap.size := by have := c2.lt; omega
      have hW2 := below_nx hW1' hb2 hW1'.size
      have z0 := hP2.c0
      have z1 := hP2.c1
      have zf := hP2.frozen
      obtain ⟨v, hv⟩ : ∃ v : Int, v = ((h.q (!send))[0]?).getD 0 := ⟨_, rfl⟩
      rw [← hv]
      have HV := Lib.hid hv
      clear hv hF hb c0 c1
      have hP3 := hP2.set1 v
      have y0 := hP3.c0
      have y1 := hP3.c1
      have hT3 : PlanAt (W2.setCell ⟨W.heap.size, 1, none⟩ (.int .i64 v)) (w.heap.size + 1 + 1) 0 0 := ((Lq.But.refl [W.heap.size] W2).set (.inl (by simp)) _).block _ hT2.lt (by simpa using hne) |>.trans hT2
      have x0 := hT3.c0
      have x1 := hT3.c1
      have xf := hT3.frozen
      gi_wp2
      refine ⟨(((KeepsOthers.of_grownBy (grown_below (below_nx hbW hb2 hbW.size)) (fun _ _ e => by cases e)).trans (KeepsOthers.setCell _ _ _)).trans (KeepsOthers.setCell _ _ _)).trans (KeepsOthers.setCell _ _ _), ?_, below_two (hW2.setCell (p := ⟨W.heap.size, 1, none⟩) hW.size _) (by omega) _ _, rfl, by simp⟩
      have := hT3.set 2 v
      rw [HV.out] at this ⊢
      exact this
    · have hT3 := hT1
      rw [hW1] at hT3 hP1
      have x0 := hT3.c0
      have x1 := hT3.c1
      have xf := hT3.frozen
      have y0 := hP1.c0
      have y1 := hP1.c1
      gi_wp2
      rw [← hW1] at hT3 ⊢
      refine ⟨((KeepsOthers.of_grownBy (grown_below hbW) (fun _ _ e => by cases e)).trans (KeepsOthers.setCell _ _ _)).trans (KeepsOthers.setCell _ _ _), ?_, below_two hW1' (by omega) _ _, rfl, by simp⟩
      have hz : planOf h send d = 0 := by unfold planOf; rw [if_neg hd]
      show PlanAt _ _ d (planOf h send d)
      rw [hz]
      exact hT3.set d 0
  case done =>
    rintro D xs W hD hys ⟨hB, rfl⟩ hK
    have HE : Hid (5 = x ∧ 0 = y) := Lib.hid (by have := hLF.out; rw [← show ([] : List Int) = _ from hys] at this; simpa [eq_comm] using this)
    have c2 := a2.later hB
    have z0 := c2.c0
    have z1 := c2.c1
    have zf := c2.frozen
    have hW := below_two (below_nx hB3 hB hB3.size) (B := w.heap.size + 1 + 1) (by omega) (.int .u8 5) (.int .i64 0)
    have hP := c2.set 5 0
    have hKK := ((KeepsOthers.setCell W ⟨w.heap.size + 1 + 1, 0, none⟩ (.int .u8 5)).trans (KeepsOthers.setCell _ ⟨w.heap.size + 1 + 1, 1, none⟩ (.int .i64 0))).same D _ hK rfl
    clear hys hK
    gi_wp2
    exact look_end w _ D (by omega) 5 0 x y _ rfl hP hW hKK HE
  case stop =>
    rintro D c pre W hD hpre ⟨hP, hB, rfl, hne⟩ hK
    have HE : Hid (pre.head?.getD 0 = x ∧ planOf h send (pre.head?.getD 0) = y) := Lib.hid (by
      cases pre with
      | nil => exact absurd rfl hne
      | cons d t => obtain ⟨r, hr⟩ := hpre; have := hLF.out; rw [← hr] at this; simpa [eq_comm] using this)
    clear hpre hne
    gi_wp2
    exact look_end w _ D (by omega) _ _ x y _ rfl hP hB hK HE

theorem look_nil (send : Bool) (w : World) :
    Calls Try.prog 11 #[.pointer none, .bool send] w fun e w' => e = .returned (.agg #[.int .u8 0, .int .i64 0]) ∧ But [] w w' := by
  have hP : PlanAt (((w.alloc (.cells #[.pointer none] 24)).alloc (.cells #[.bool send] 4)).alloc (.cells #[.int .u8 0, .int .i64 0] 34)) (w.heap.size + 1 + 1) 0 0 := by
    have := plan_new ((w.alloc (.cells #[.pointer none] 24)).alloc (.cells #[.bool send] 4)) 0 0
    simpa only [World.size_alloc] using this
  have hB : But [] w (((w.alloc (.cells #[.pointer none] 24)).alloc (.cells #[.bool send] 4)).alloc (.cells #[.int .u8 0, .int .i64 0] 34)) := (((Lq.But.refl _ _).alloc _).alloc _).alloc _
  refine (callsIn_wide (n := 4)).1 ?_
  refine callsIn_of_wp_marks Try.func11 rfl trivial ?_ rfl
  simp only [Try.ntmps11, List.size_toArray, List.length_cons, List.length_nil, Nat.reduceAdd, Nat.reduceSub, Array.replicate_succ, Array.replicate_zero, List.push_toArray, List.append_toArray, List.nil_append, List.cons_append]
  have c0 := hP.c0
  have c1 := hP.c1
  have cf := hP.frozen
  gi_wp2
  exact ⟨.agg #[.int .u8 0, .int .i64 0], results_cell_row rfl _ _ (w.heap.size + 1 + 1) 34 _ (0, 0) _ rfl hP Try.underlying34 rfl (by kernel_rfl), rfl, hB⟩
end Go.Proofs.Ytkpnkhakjgfgfaa
