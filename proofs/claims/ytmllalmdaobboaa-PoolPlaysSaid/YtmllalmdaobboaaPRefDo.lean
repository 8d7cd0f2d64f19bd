/-
  The walks of tollbarref06's set, Take, Give.
-/
import Derived.Test.YtmllalmdaobboaaPRef
namespace Go.Proofs.Ytmllalmdaobboaa
open Go.RowKit

theorem ref6 {W : World} {V o : Nat} {s : Option Sud} {z : Bool} {a b : Int} {c : Bool} {d e : Int} (hz : s.isSome = z) (hx : s.getD zeroS = (a, b, c, d, e)) :
    ((((((W.setCell ⟨V, o, none⟩ (.bool z)).setCell ⟨V, o + 1, none⟩ (.int .i64 a)).setCell ⟨V, o + 2, none⟩ (.int .i64 b)).setCell ⟨V, o + 3, none⟩ (.bool c)).setCell ⟨V, o + 4, none⟩ (.int .i64 d)).setCell ⟨V, o + 5, none⟩ (.int .u64 e)) = Go.Proofs.Ytmllalmdaobboaa.putAll W V o (refV s) := by
  simp only [refV, hx, hz, sudV, Go.Proofs.Ytmllalmdaobboaa.putAll, Nat.add_assoc, Nat.reduceAdd]
theorem ref_cell {l : List (Option Sud)} : ∀ u ∈ l.flatMap refV, u.oneCell' = true := by
  intro u hu
  obtain ⟨s, _, hu⟩ := List.mem_flatMap.1 hu
  simp only [refV, sudV, List.mem_cons, List.not_mem_nil, or_false] at hu
  rcases hu with rfl | rfl | rfl | rfl | rfl | rfl <;> rfl
theorem cell6 {W : World} {D : Nat} {a b c d e f : Value} {t : TypeId} (h : W.heap[D]? = some (.cells #[a, b, c, d, e, f] t (0, 0))) : W.cell? ⟨D, 0, none⟩ = some a ∧ W.cell? ⟨D, 1, none⟩ = some b ∧ W.cell? ⟨D, 2, none⟩ = some c ∧ W.cell? ⟨D, 3, none⟩ = some d ∧ W.cell? ⟨D, 4, none⟩ = some e ∧ W.cell? ⟨D, 5, none⟩ = some f := by
  simp [World.cell?, h]

/-- What a call leaves that writes the reference's block. -/
def RefNow (w : World) (R : Nat) (T : List (Option Sud)) (F : List Nat) (w' : World) : Prop := ∃ g cap rv, RefP w' R g cap rv T F ∧ But [R] w w'
theorem RefNow.but {w w' : World} {R : Nat} {T : List (Option Sud)} {F : List Nat} (h : RefNow w R T F w') : But [R] w w' := by obtain ⟨_, _, _, _, h⟩ := h; exact h

set_option maxHeartbeats 1600000 in
theorem rset_there {R g cap : Nat} {rv : Value} {T : List (Option Sud)} {F : List Nat} (i : Nat) (s : Option Sud) (z : Bool) (a b : Int) (c : Bool) (d e : Int) (w : World) (h : RefP w R g cap rv T F) (hi : i < T.length) (hz : s.isSome = z) (hx : s.getD zeroS = (a, b, c, d, e)) :
    Calls Try.prog 22 #[.pointer (some ⟨R, 0, none⟩), .int .i64 (i : Int), .agg #[.bool z, .int .i64 a, .int .i64 b, .bool c, .int .i64 d, .int .u64 e]] w fun e w' => e = .returned (.tuple #[]) ∧ RefNow w R (T.set i s) F w' := by
  obtain ⟨i0, hI, iz0, iz1, iz2⟩ := info_parts infoRef
  have hl := h.len
  have hle := h.row.le
  have hb0 : But [] w (w.alloc (.cells #[.bool z, .int .i64 a, .int .i64 b, .bool c, .int .i64 d, .int .u64 e] 60)) := (But.refl _ _).alloc _
  have kbox := World.alloc_heap_new w (.cells #[.bool z, .int .i64 a, .int .i64 b, .bool c, .int .i64 d, .int .u64 e] 60)
  have h1 := h.fresh hb0
  have hc := h1.cellS
  have hltR := h.ltR
  have H := Lib.hid (And.intro h1 (And.intro hz hx))
  have hbs : (w.alloc (.cells #[.bool z, .int .i64 a, .int .i64 b, .bool c, .int .i64 d, .int .u64 e] 60)).heap.size = w.heap.size + 1 := by simp
  clear h h1 hz hx
  go_enter Try.func22, Try.ntmps22
  go_wp2_with (at_builtin; refine wpList_append_own _ rfl _ _ 55 rfl (w.heap.size + 1) 60 i0 (.agg #[.bool false, .int .i64 0, .int .i64 0, .bool false, .int .i64 0, .int .u64 0]) 6 48 Try.underlying55 hI iz0 iz1 iz2 rfl (by decide) _ 0 [] rfl (World.ownsRow_nil _ _ _ _) ⟨g, 0, none⟩ T.length cap (T.flatMap refV) rfl ?c0 ?c1 ?c2 ?c3 ?c4 ?c5 ?_)
  case c0 => exact flat_len refV 6 (fun _ => rfl) T
  case c1 => exact H.out.1.row.list (fun _ => rfl)
  case c2 => exact ref_cell
  case c3 => unfold maxLen; omega
  case c4 => omega
  try (case c5 => first | exact Nat.le_refl _ | omega | (simp; done) | (simp; omega))
  intro v1 w1 hown hgrow _
  obtain ⟨g', c', rfl, hg', hc'⟩ : ∃ g' c', v1 = .slice (some ⟨g', 0, none⟩) T.length c' ∧ w.heap.size + 1 ≤ g' ∧ T.length ≤ c' := by
    rcases hown.2 with ⟨_, h0⟩ | ⟨g', c, cur, he, hle, _, hcc, _⟩
    · omega
    · exact ⟨g', c, he, hle, hcc⟩
  have hb1 : But [] (w.alloc (.cells #[.bool z, .int .i64 a, .int .i64 b, .bool c, .int .i64 d, .int .u64 e] 60)) w1 := .of_none hgrow []
  have hS : Refs w1 g' c' T := RowOf.of_owns (f := refV) (n := 6) (fun _ => rfl) hown rfl
  have h2 := H.out.1.fresh hb1
  obtain ⟨b0, b1, b2, b3, b4, b5⟩ := cell6 ((hb1.block w.heap.size (by simp) (by simp)).trans kbox)
  have hne : g' ≠ R := by omega
  have hne' := hne.symm
  have hne2 : g' ≠ w.heap.size := by omega
  have hne3 := hne2.symm
  obtain ⟨o', ho'⟩ : ∃ o', T[i]? = some o' := ⟨_, List.getElem?_eq_getElem hi⟩
  have v0 : World.cell? _ ⟨g', i * 6, none⟩ = _ := hS.cell ho' (j := 0) (by omega)
  have v1 := hS.cell ho' (j := 1) (by omega)
  have v2 := hS.cell ho' (j := 2) (by omega)
  have v3 := hS.cell ho' (j := 3) (by omega)
  have v4 := hS.cell ho' (j := 4) (by omega)
  have v5 := hS.cell ho' (j := 5) (by omega)
  simp only [refV, sudV, List.getElem?_cons_zero, List.getElem?_cons_succ] at v0 v1 v2 v3 v4 v5
  have f0 := hS.frozen (i * 6)
  have f1 := hS.frozen (i * 6 + 1)
  have f2 := hS.frozen (i * 6 + 2)
  have f3 := hS.frozen (i * 6 + 3)
  have f4 := hS.frozen (i * 6 + 4)
  have f5 := hS.frozen (i * 6 + 5)
  have cR := h2.cellS
  have fR := h2.frozen 0
  have hi' : (i : Int) < (T.length : Int) := by omega
  have K := Lib.hid (And.intro h2 (And.intro hS (hb0.next hb1)))
  clear hown hgrow hS h2 ho' hb1 hb0 kbox hc hbs
  go_wp2_with fail
  go_end0
  obtain ⟨h2, hS, hB⟩ := K.out
  obtain ⟨_, hz, hx⟩ := H.out
  rw [ref6 hz hx]
  have hB2 : But [R] w (Go.Proofs.Ytmllalmdaobboaa.putAll w1 g' (i * 6) (refV s)) := But.putAll (V := g') (.inr (by omega)) _ _ _ (hB.mono (by simp))
  have q1 := (putAll_other hne' (refV s) w1 (i * 6)).trans h2.head
  have hrest := h2.rest
  refine ⟨rfl, g', c', rv, ⟨?_, (hS.setAll hi rfl).of_block (Below.heap_setCell _ _ _ g' hne), ?_, by rw [List.length_set]; exact hl, h2.few⟩, hB2.set (p := ⟨R, 0, none⟩) (.inl (by simp)) _⟩
  · rw [List.length_set]; exact heap_set_same (k := 0) _ q1
  · have hb3 : But [g', R] w1 ((Go.Proofs.Ytmllalmdaobboaa.putAll w1 g' (i * 6) (refV s)).setCell ⟨R, 0, none⟩ (.slice (some ⟨g', 0, none⟩) T.length c')) := (But.putAll (V := g') (.inl (by simp)) _ _ _ (But.refl [g', R] w1)).set (p := ⟨R, 0, none⟩) (.inl (by simp)) _
    refine hb3.row hrest fun k hk => ?_
    obtain ⟨cs, y, hk'⟩ := ownsRow_at hrest hk
    obtain ⟨_, _, hgb⟩ := hS.block
    simpa using ⟨type_ne hk' hgb (by decide), type_ne hk' h2.head (by decide)⟩

theorem rest_slice {W : World} {base : Nat} {rv : Value} {F : List Nat} (h : W.ownsRow base 3 1 rv F.length (I64N F)) : ∃ a c, rv = .slice a F.length c := by
  rcases h.2 with ⟨rfl, h0⟩ | ⟨g, cap, cur, rfl, _⟩
  · exact ⟨none, 0, by rw [h0]⟩
  · exact ⟨_, _, rfl⟩
/-- The free list is set anew. -/
theorem RefP.setRest {W W1 : World} {R g cap : Nat} {rv rv' : Value} {T : List (Option Sud)} {F F' : List Nat} (h : RefP W R g cap rv T F) (hb : But [] W W1) (ho : W1.ownsRow 0 3 1 rv' F'.length (I64N F')) (hF : F'.length ≤ 60) : RefP (W1.setCell ⟨R, 1, none⟩ rv') R g cap rv' T F' := by
  have h1 := h.fresh hb
  obtain ⟨_, _, hg⟩ := h1.row.block
  refine ⟨heap_set_same (k := 1) _ h1.head, h1.row.of_block (Below.heap_setCell _ _ _ g (type_ne hg h1.head (by decide))), ?_, h1.len, hF⟩
  refine ((But.refl [R] W1).set (p := ⟨R, 1, none⟩) (.inl (by simp)) rv').row ho fun k hk => ?_
  obtain ⟨cs, y, hk'⟩ := ownsRow_at ho hk
  simpa using type_ne hk' h1.head (by decide)
theorem cell5 {W : World} {D : Nat} {a b c d e : Value} {t : TypeId} (h : W.heap[D]? = some (.cells #[a, b, c, d, e] t (0, 0))) : W.cell? ⟨D, 0, none⟩ = some a ∧ W.cell? ⟨D, 1, none⟩ = some b ∧ W.cell? ⟨D, 2, none⟩ = some c ∧ W.cell? ⟨D, 3, none⟩ = some d ∧ W.cell? ⟨D, 4, none⟩ = some e := by
  simp [World.cell?, h]
theorem I64N_get {xs : List Nat} {j : Nat} {u : Value} (h : (I64N xs)[j]? = some u) : j < xs.length := by
  have := (List.getElem?_eq_some_iff.mp h).1
  rwa [I64N_len] at this

theorem rtake_none {R g cap : Nat} {rv : Value} {T : List (Option Sud)} (a b : Int) (c : Bool) (d e : Int) (w : World) (h : RefP w R g cap rv T []) :
    Calls Try.prog 11 #[.pointer (some ⟨R, 0, none⟩), .agg #[.int .i64 a, .int .i64 b, .bool c, .int .i64 d, .int .u64 e]] w fun e w' => e = .returned (.tuple #[.int .i64 0, .int .i64 4]) ∧ But [] w w' := by
  obtain ⟨pa, pc, rfl⟩ := rest_slice h.rest
  have hb0 : But [] w (w.alloc (.cells #[.int .i64 a, .int .i64 b, .bool c, .int .i64 d, .int .u64 e] 32)) := (But.refl _ _).alloc _
  have hc := (h.fresh hb0).cellR
  rw [List.length_nil] at hc
  clear h
  go_enter Try.func11, Try.ntmps11
  go_wp2_with fail
  go_ret2
  exact ⟨rfl, hb0⟩

/-- What the free list reads as, one on. -/
theorem rest_at {W : World} {base i g cap : Nat} {F : List Nat} (h : W.ownsRow base 3 1 (.slice (some ⟨g, 0, none⟩) (F.length + 1) cap) (F.length + 1) (I64N (i :: F))) :
    W.cell? ⟨g, 0, none⟩ = some (.int .i64 (i : Int)) ∧ F.length + 1 ≤ cap ∧ cap ≤ maxLen ∧ ∀ j, j < F.length → W.cell? ⟨g, 1 + j, none⟩ = (I64N F)[j]? := by
  refine ⟨h.cellAt 0 (by omega), ?_, ?_, fun j hj => ?_⟩
  · rcases h.2 with ⟨h0, _⟩ | ⟨_, _, _, he, _, _, hc, _⟩
    · cases h0
    · simp only [Value.slice.injEq] at he; omega
  · rcases h.2 with ⟨h0, _⟩ | ⟨_, _, _, he, _, _, _, hc, _⟩
    · cases h0
    · simp only [Value.slice.injEq] at he; omega
  · rw [Nat.add_comm]
    exact h.cellAt (j + 1) (by omega)

set_option maxHeartbeats 1600000 in
theorem rtake_one {R g cap gr i : Nat} {T : List (Option Sud)} (a b : Int) (c : Bool) (d e : Int) (w : World) (h : RefP w R g cap (.slice (some ⟨gr, 0, none⟩) 1 1) T [i]) (hi : i < T.length) :
    Calls Try.prog 11 #[.pointer (some ⟨R, 0, none⟩), .agg #[.int .i64 a, .int .i64 b, .bool c, .int .i64 d, .int .u64 e]] w fun e' w' => e' = .returned (.tuple #[.int .i64 (i : Int), .int .i64 0]) ∧ RefNow w R (T.set i (some (a, b, c, d, e))) [] w' := by
  obtain ⟨i0, hI, iz0, iz1, iz2⟩ := info_parts infoInt
  have hl := h.len
  have hb0 : But [] w (w.alloc (.cells #[.int .i64 a, .int .i64 b, .bool c, .int .i64 d, .int .u64 e] 32)) := (But.refl _ _).alloc _
  have kbox := World.alloc_heap_new w (.cells #[.int .i64 a, .int .i64 b, .bool c, .int .i64 d, .int .u64 e] 32)
  have h1 := h.fresh hb0
  have hc := h1.cellR
  have hx : World.cell? _ ⟨gr, 0, none⟩ = some (.int .i64 (i : Int)) := h1.rest.cellAt 0 (by simp)
  have hltR := h.ltR
  have H := Lib.hid h1
  clear h h1
  go_enter Try.func11, Try.ntmps11
  go_wp2_with (at_builtin; refine wpList_append_own _ rfl _ _ 41 rfl w.heap.size 3 i0 (.int .i64 0) 1 8 Try.underlying41 hI iz0 iz1 iz2 rfl (by decide) _ 0 [] rfl (World.ownsRow_nil _ _ _ _) ⟨gr, 0, none⟩ 0 _ ([]) rfl ?c0 ?c1 ?c2 ?c3 ?c4 ?c5 ?_)
  try (case c0 => rfl)
  try (case c1 => intro j u hj; simp at hj)
  try (case c2 => intro u hu; cases hu)
  try (case c3 => unfold maxLen; omega)
  try (case c4 => omega)
  try (case c5 => first | exact Nat.le_refl _ | omega | (simp; done) | (simp; omega))
  intro v' w1 hown hgrow _
  obtain ⟨va, vn, vc, rfl⟩ := owns_slice hown
  have hb1 : But [] (w.alloc (.cells #[.int .i64 a, .int .i64 b, .bool c, .int .i64 d, .int .u64 e] 32)) w1 := .of_none hgrow []
  have h3 := H.out.setRest (rv' := .slice va vn vc) (F' := []) hb1 (by simpa [I64N] using owns_low (Nat.zero_le _) hown) (by simp)
  have h2 := H.out.fresh hb1
  have cR := h2.cellR
  have fR := h2.frozen 1
  obtain ⟨b0, b1, b2, b3, b4⟩ := cell5 ((hb1.block w.heap.size (by simp) (by simp)).trans kbox)
  have hne : R ≠ w.heap.size := by omega
  have hB := (hb0.next hb1)
  have hcall := rset_there i (some (a, b, c, d, e)) true a b c d e _ h3 hi rfl rfl
  clear hown hgrow h2 h3 kbox hc hx hb1
  go_wp2_with fail
  refine hcall.mono ?_
  rintro e' w2 ⟨rfl, g', c', rv', hR, hB2⟩
  go_wp2_with fail
  go_ret2
  exact ⟨rfl, g', c', rv', hR, ((hB.mono (by simp)).set (p := ⟨R, 1, none⟩) (.inl (by simp)) _).next hB2⟩

set_option maxHeartbeats 1600000 in
theorem rtake_more {R g cap gr cr i : Nat} {T : List (Option Sud)} {F : List Nat} (a b : Int) (c : Bool) (d e : Int) (w : World) (h : RefP w R g cap (.slice (some ⟨gr, 0, none⟩) (F.length + 1) cr) T (i :: F)) (hi : i < T.length) (h1c : 1 < cr) :
    Calls Try.prog 11 #[.pointer (some ⟨R, 0, none⟩), .agg #[.int .i64 a, .int .i64 b, .bool c, .int .i64 d, .int .u64 e]] w fun e' w' => e' = .returned (.tuple #[.int .i64 (i : Int), .int .i64 0]) ∧ RefNow w R (T.set i (some (a, b, c, d, e))) F w' := by
  obtain ⟨i0, hI, iz0, iz1, iz2⟩ := info_parts infoInt
  have hl := h.len
  have hfew := h.few
  rw [List.length_cons] at hfew
  have hb0 : But [] w (w.alloc (.cells #[.int .i64 a, .int .i64 b, .bool c, .int .i64 d, .int .u64 e] 32)) := (But.refl _ _).alloc _
  have kbox := World.alloc_heap_new w (.cells #[.int .i64 a, .int .i64 b, .bool c, .int .i64 d, .int .u64 e] 32)
  have h1 := h.fresh hb0
  have hc := h1.cellR
  obtain ⟨hx, hcap, hmax, hat⟩ := rest_at h1.rest
  have hltR := h.ltR
  have H := Lib.hid h1
  clear h h1
  have hk1 : (0 : Int) < (F.length : Int) + 1 := by omega
  have hk2 : (1 : Int) ≤ (F.length : Int) + 1 := by omega
  have hk3 : (F.length : Int) + 1 ≤ (cr : Int) := by omega
  have hk0 : ((F.length : Int) + 1 == 0) = false := by simp; omega
  have hk4 : (1 : Int) ≤ (cr : Int) := by omega
  have hk5 : ¬ (cr : Int) = 1 := by omega
  have hk6 : ¬ cr = 1 := by omega
  have hk7 : ¬ cr - 1 = 0 := by omega
  have hk8 : ¬ (cr ≤ 1) := by omega
  go_enter Try.func11, Try.ntmps11
  go_wp2_with (at_builtin; refine wpList_append_own _ rfl _ _ 41 rfl w.heap.size 3 i0 (.int .i64 0) 1 8 Try.underlying41 hI iz0 iz1 iz2 rfl (by decide) _ 0 [] rfl (World.ownsRow_nil _ _ _ _) ⟨gr, 1, none⟩ F.length _ (I64N F) rfl ?c0 ?c1 ?c2 ?c3 ?c4 ?c5 ?_)
  case c0 => rw [I64N_len]; omega
  case c1 =>
    intro j u hj
    have := hat j (I64N_get hj)
    by_cases h0 : j = 0
    · subst h0; simpa [Addr.add] using this.trans hj
    · simpa [Addr.add, h0] using this.trans hj
  case c2 => intro u hu; simp [I64N] at hu; obtain ⟨y, _, rfl⟩ := hu; rfl
  try (case c3 => unfold maxLen; omega)
  try (case c4 => omega)
  try (case c5 => first | exact Nat.le_refl _ | omega | (simp; done) | (simp; omega))
  intro v' w1 hown hgrow _
  obtain ⟨va, vn, vc, rfl⟩ := owns_slice hown
  have hb1 : But [] (w.alloc (.cells #[.int .i64 a, .int .i64 b, .bool c, .int .i64 d, .int .u64 e] 32)) w1 := .of_none hgrow []
  have h3 := H.out.setRest (rv' := .slice va vn vc) (F' := F) hb1 (by simpa using owns_low (Nat.zero_le _) hown) (by omega)
  have h2 := H.out.fresh hb1
  have cR := h2.cellR
  have fR := h2.frozen 1
  obtain ⟨b0, b1, b2, b3, b4⟩ := cell5 ((hb1.block w.heap.size (by simp) (by simp)).trans kbox)
  have hne : R ≠ w.heap.size := by omega
  have hB := (hb0.next hb1)
  have hcall := rset_there i (some (a, b, c, d, e)) true a b c d e _ h3 hi rfl rfl
  clear hown hgrow h2 h3 kbox hc hx hb1 hat
  go_wp2_with fail
  refine hcall.mono ?_
  rintro e' w2 ⟨rfl, g', c', rv', hR, hB2⟩
  go_wp2_with fail
  go_ret2
  exact ⟨rfl, g', c', rv', hR, ((hB.mono (by simp)).set (p := ⟨R, 1, none⟩) (.inl (by simp)) _).next hB2⟩

theorem rtake_some {R g cap i : Nat} {rv : Value} {T : List (Option Sud)} {F : List Nat} (x : Sud) (w : World) (h : RefP w R g cap rv T (i :: F)) (hi : i < T.length) :
    Calls Try.prog 11 #[.pointer (some ⟨R, 0, none⟩), sudA x] w fun e' w' => e' = .returned (.tuple #[.int .i64 (i : Int), .int .i64 0]) ∧ RefNow w R (T.set i (some x)) F w' := by
  obtain ⟨a, b, c, d, e⟩ := x
  have hr := h.rest
  rw [List.length_cons] at hr
  rcases id hr.2 with ⟨_, h0⟩ | ⟨gr, cr, cur, rfl, _, _, hcap, _⟩
  · omega
  by_cases hc1 : cr = 1
  · subst hc1
    obtain rfl : F = [] := List.length_eq_zero_iff.mp (by omega)
    exact rtake_one a b c d e w h hi
  · exact rtake_more a b c d e w h hi (by omega)

/-! ### Give -/
theorem rgive_not {R g cap : Nat} {rv : Value} {T : List (Option Sud)} {F : List Nat} (i : Int) (w : World) (h : RefP w R g cap rv T F) (hi : heldAt T i = none) :
    Calls Try.prog 13 #[.pointer (some ⟨R, 0, none⟩), .int .i64 i] w fun e w' => e = .returned (.int .i64 3) ∧ But [] w w' := by
  have hof := rof_any i w h
  rw [hi] at hof
  simp only [Option.getD_none, Option.isSome_none, sudA, zeroS] at hof
  clear h
  go_enter Try.func13, Try.ntmps13
  go_wp2_with fail
  refine hof.mono ?_
  rintro e w1 ⟨rfl, hb⟩
  go_wp2_with fail
  go_ret
  exact ⟨rfl, hb.alloc _⟩

set_option maxHeartbeats 1600000 in
theorem rgive_there {R g cap i : Nat} {rv : Value} {T : List (Option Sud)} {F : List Nat} {x : Sud} (w : World) (h : RefP w R g cap rv T F) (hi : T[i]? = some (some x)) (hfew : F.length < 60) :
    Calls Try.prog 13 #[.pointer (some ⟨R, 0, none⟩), .int .i64 (i : Int)] w fun e w' => e = .returned (.int .i64 0) ∧ RefNow w R (T.set i none) (i :: F) w' := by
  obtain ⟨i0, hI, iz0, iz1, iz2⟩ := info_parts infoInt
  have hlt : i < T.length := (List.getElem?_eq_some_iff.1 hi).1
  obtain ⟨a, b, c, d, e⟩ := x
  have hof := rof_any (i : Int) w h
  rw [held_of hi] at hof
  simp only [Option.getD_some, Option.isSome_some, sudA] at hof
  go_enter Try.func13, Try.ntmps13
  go_wp2_with fail
  refine hof.mono ?_
  rintro e9 w1 ⟨rfl, hb⟩
  have h1 := h.fresh (hb.alloc (.cells #[.int .i64 a, .int .i64 b, .bool c, .int .i64 d, .int .u64 e] 32))
  have hb1 := hb.alloc (.cells #[.int .i64 a, .int .i64 b, .bool c, .int .i64 d, .int .u64 e] 32)
  clear h hb hof
  go_wp2_with fail
  refine (rset_there i none false 0 0 false 0 0 _ h1 hlt rfl rfl).mono ?_
  rintro e9 w2 ⟨rfl, g2, c2, rv2, h2, hb2⟩
  have hB2 := (hb1.mono (by simp)).next hb2
  have hb3 : But [] w2 (w2.alloc (.cells #[.int .i64 (i : Int)] 3)) := (But.refl _ _).alloc _
  have o1 : (w2.alloc (.cells #[.int .i64 (i : Int)] 3)).ownsRow w2.heap.size 3 1 (.slice (some ⟨w2.heap.size, 0, none⟩) 1 1) 1 [.int .i64 (i : Int)] :=
    ⟨rfl, .inr ⟨w2.heap.size, 1, #[.int .i64 (i : Int)], rfl, Nat.le_refl _, World.alloc_heap_new w2 _, Nat.le_refl _, by decide, rfl, rfl⟩⟩
  have hltR := h2.ltR
  have fR := h2.frozen 1
  have H := Lib.hid h2
  have hrest := h2.rest
  have cR := h2.cellR
  clear h1 hb1 hb2 h2
  rcases id hrest.2 with ⟨rfl, h0⟩ | ⟨gr, cr, cur, rfl, _, _, hcap, hmax, _, _⟩
  · obtain rfl : F = [] := List.length_eq_zero_iff.mp h0
    have h3 := Lib.hid (H.out.setRest (rv' := .slice (some ⟨w2.heap.size, 0, none⟩) 1 1) (F' := [i]) hb3 (by simpa [I64N] using owns_low (Nat.zero_le _) o1) (by simp))
    have hsw := World.setCell_alloc_past (w := w2) (.cells #[.int .i64 (i : Int)] 3) R 1 (.slice (some ⟨w2.heap.size, 0, none⟩) 1 1) hltR
    rw [hsw] at h3
    have hB5 := (hB2.next (hb3.mono (by simp))).set (p := ⟨R, 1, none⟩) (.inl (by simp)) (.slice (some ⟨w2.heap.size, 0, none⟩) 1 1)
    rw [hsw] at hB5
    clear hrest o1 hsw
    go_wp2_with fail
    go_ret
    exact ⟨rfl, _, _, _, h3.out, hB5⟩
  · have hat := fun j (hj : j < F.length) => hrest.cellAt j (by omega : j < F.length * 1)
    have hat1 : ∀ j, j < F.length → (w2.alloc (.cells #[.int .i64 (i : Int)] 3)).cell? ⟨gr, j, none⟩ = (I64N F)[j]? := fun j hj => by
      rw [← hat j hj]
      have hlt : gr < w2.heap.size := (ownsRow_at hrest (g := gr) rfl).elim fun _ h => h.elim fun _ h => (Array.getElem?_eq_some_iff.1 h).1
      exact World.cell?_of_block (hb3.block gr hlt (by simp))
    clear hrest hat
    go_wp2_with (at_builtin; refine wpList_append_own _ rfl _ _ 41 rfl w2.heap.size 3 i0 (.int .i64 0) 1 8 Try.underlying41 hI iz0 iz1 iz2 rfl (by decide) _ 1 [.int .i64 (i : Int)] rfl o1 ⟨gr, 0, none⟩ F.length cr (I64N F) rfl ?c0 ?c1 ?c2 ?c3 ?c4 ?c5 ?_)
    case c0 => rw [I64N_len]; omega
    case c1 =>
      intro j u hj
      have := hat1 j (I64N_get hj)
      by_cases h0 : j = 0
      · subst h0; simpa [Addr.add] using this.trans hj
      · simpa [Addr.add, h0] using this.trans hj
    case c2 => intro u hu; simp [I64N] at hu; obtain ⟨y, _, rfl⟩ := hu; rfl
    try (case c3 => unfold maxLen; omega)
    try (case c4 => omega)
    try (case c5 => first | exact Nat.le_refl _ | omega | (simp; done) | (simp; omega))
    intro v' w3 hown hgrow _
    obtain ⟨va, vn, vc, rfl⟩ := owns_slice hown
    have hb4 : But [] w2 w3 := hb3.trans (.of_some (S := [w2.heap.size]) hgrow (by simp)) (by simp)
    have h3 := Lib.hid (H.out.setRest (rv' := .slice va vn vc) (F' := i :: F) hb4 (by rw [List.length_cons, Nat.add_comm]; exact owns_low (Nat.zero_le _) hown) (by rw [List.length_cons]; omega))
    have h5 := H.out.fresh hb4
    have cR3 := h5.cellR
    have fR3 := h5.frozen 1
    clear hown hgrow h5 hat1 o1
    go_wp2_with fail
    go_ret
    exact ⟨rfl, _, _, _, h3.out, (hB2.next (hb4.mono (by simp))).set (p := ⟨R, 1, none⟩) (.inl (by simp)) _⟩
end Go.Proofs.Ytmllalmdaobboaa
