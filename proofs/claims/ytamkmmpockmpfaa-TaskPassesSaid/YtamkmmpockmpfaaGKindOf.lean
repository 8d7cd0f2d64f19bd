/-
  The walk of kindOf: the kind of an instruction, and a loop over what it names.
-/
import Derived.Deep.Cut
import Derived.Deep.RegionHeld3
import Derived.Deep.CutRange
import Derived.Test.YtamkmmpockmpfaaGTwo
namespace Go.Proofs.Ytamkmmpockmpfaa
open Go.RowKit Go.Shelf

attribute [local go_sem] Oper.semAt_some

theorem KMap.looks {W : World} {M : Nat} (h : KMap W M 10) {o : Nat} (ho : o < 256) : ∃ a n c, RowN W (.slice a n c) (namesOf o) ∧
    ∀ W', But [] W W' → (Instr.lookup 122 (.map (some M)) (.int .u8 (o : Int)) true).run Try.prog W' = .ok (.tuple #[.agg #[.string ⟨(wordL o).toArray⟩, .slice a n c], .bool (known o)]) W' := by
  obtain ⟨g, h1, h2, h3⟩ := h
  have hk : (g o).isSome = known o := h2 o
  have hv : Kin W ((g o).getD zeroK) o := by
    cases e : g o with
    | none => rw [e] at hk; exact kin_zero W hk.symm
    | some v => exact h3 o v e
  obtain ⟨sl, e, hrow⟩ := hv
  have hsl : ∃ a n c, sl = .slice a n c := by
    rcases hrow with ⟨_, rfl⟩ | ⟨b, rfl, _⟩ <;> exact ⟨_, _, _, rfl⟩
  obtain ⟨a, n, c, rfl⟩ := hsl
  refine ⟨a, n, c, hrow, fun W' hb => ?_⟩
  rw [(h1.but hb (by simp)).look ho, hk, e]

/-- Behind the look-up: the kind in its variable. -/
structure Got (w W : World) (B : Nat) (x : In) (a : Option Addr) (n c : Nat) : Prop where
  box : InAt W w.heap.size x
  res : Two W (w.heap.size + 1) 117 (.string ⟨#[]⟩) (.slice none 0 0)
  kind : Two W B 117 (.string ⟨(wordL x.o).toArray⟩) (.slice a n c)
  row : RowN W (.slice a n c) (namesOf x.o)
  below : Below w.heap.size w W
  lt : w.heap.size + 1 < B
  ltw : w.heap.size < W.heap.size
theorem Got.but {w W W' : World} {B : Nat} {x : In} {a : Option Addr} {n c : Nat} (h : Got w W B x a n c) {S : List Nat} (hb : But S W W') (h0 : w.heap.size ∉ S) (h1 : w.heap.size + 1 ∉ S) (h2 : B ∉ S) (hS : ∀ k ∈ S, w.heap.size ≤ k) (hr : ∀ k ∈ S, ∀ cs z, W.heap[k]? ≠ some (.cells cs 112 z)) : Got w W' B x a n c :=
  ⟨h.box.of_block (hb.block _ h.box.lt h0), h.res.of_block (hb.block _ h.res.lt h1), h.kind.of_block (hb.block _ h.kind.lt h2), h.row.but hb hr, h.below.trans (hb.below h.below.size hS), h.lt, Nat.lt_of_lt_of_le h.ltw hb.size⟩
theorem Got.fresh {w W W' : World} {B : Nat} {x : In} {a : Option Addr} {n c : Nat} (h : Got w W B x a n c) (hb : But [] W W') : Got w W' B x a n c := h.but hb (by simp) (by simp) (by simp) (by simp) (by simp)

theorem sz1 (W : World) (o : Obj) : (W.alloc o).drew.heap.size = W.heap.size + 1 := World.size_alloc W o
theorem cells_kept {A W' : World} {row : Option Nat} (hg : A.grownBy W' row) (hr : ∀ r, row = some r → ∃ o, A.heap[r]? = some o ∧ o.isCells = false) {k : Nat} {cs : Array Value} {t : TypeId} {z : Nat × Nat} (hs : A.heap[k]? = some (.cells cs t z)) : W'.heap[k]? = A.heap[k]? :=
  hg.block k (Array.getElem?_eq_some_iff.1 hs).1 (fun e => by
    obtain ⟨o, ho, hc⟩ := hr k e.symm
    rw [hs] at ho
    obtain rfl := Option.some.inj ho
    cases hc)
theorem blk_abides {β : Type} (B : Nat) (t : TypeId) (cs : β → Array Value) (z : Nat × Nat) (m : Nat) : OwnFrom m (fun (s : β) W => W.heap[B]? = some (.cells (cs s) t z)) :=
  Own.from (I := fun (s : β) (W : World) => W.heap[B]? = some (.cells (cs s) t z)) (fun _ _ _ _ hs hg hr => (cells_kept hg hr hs).trans hs) m
/-- What is told of blocks of cells alone abides. -/
theorem cells_abide {β : Type} {P : World → Prop} (h : ∀ A W' : World, (∀ (k : Nat) (cs : Array Value) (t : TypeId) (z : Nat × Nat), A.heap[k]? = some (.cells cs t z) → W'.heap[k]? = A.heap[k]?) → P A → P W') (m : Nat) : OwnFrom m (fun (_ : β) W => P W) :=
  Own.from (fun _ A W' _ hs hg hr => h A W' (fun _ _ _ _ hk => cells_kept hg hr hk) hs) m
theorem keepsFrom_but {W W' : World} {S : List Nat} {B : Nat} (h : But S W W') (hS : ∀ k ∈ S, k < B) : KeepsFrom B W W' :=
  ⟨h.size, fun k o hk hko _ => (h.block k (Array.getElem?_eq_some_iff.1 hko).1 (fun hm => by have := hS k hm; omega)).trans hko⟩
theorem InAt.abides {β : Type} (B : Nat) (f : β → In) (m : Nat) : OwnFrom m (fun (s : β) W => InAt W B (f s)) := blk_abides B 77 (fun s => #[.int .u8 ((f s).o : Int), .int .i64 (f s).a, .int .i64 (f s).b, .int .i64 (f s).c, .int .i64 (f s).k]) (0, 0) m
/-- The five cells of an instruction are stored. -/
def put5 (W : World) (B : Nat) (y : In) : World := ((((W.setCell ⟨B, 0, none⟩ (.int .u8 (y.o : Int))).setCell ⟨B, 1, none⟩ (.int .i64 y.a)).setCell ⟨B, 2, none⟩ (.int .i64 y.b)).setCell ⟨B, 3, none⟩ (.int .i64 y.c)).setCell ⟨B, 4, none⟩ (.int .i64 y.k)
theorem InAt.put5 {W : World} {B : Nat} {x : In} (h : InAt W B x) (y : In) : InAt (put5 W B y) B y := by
  have h0 := heap_set_same (k := 0) (.int .u8 (y.o : Int)) h
  have h1 := heap_set_same (k := 1) (.int .i64 y.a) h0
  have h2 := heap_set_same (k := 2) (.int .i64 y.b) h1
  have h3 := heap_set_same (k := 3) (.int .i64 y.c) h2
  have h4 := heap_set_same (k := 4) (.int .i64 y.k) h3
  simpa [InAt, Go.Proofs.Ytamkmmpockmpfaa.put5] using h4
theorem but_put5 (W : World) (B : Nat) (y : In) : But [B] W (put5 W B y) :=
  (((((But.refl [B] W).set (p := ⟨B, 0, none⟩) (.inl (by simp)) _).set (p := ⟨B, 1, none⟩) (.inl (by simp)) _).set (p := ⟨B, 2, none⟩) (.inl (by simp)) _).set (p := ⟨B, 3, none⟩) (.inl (by simp)) _).set (p := ⟨B, 4, none⟩) (.inl (by simp)) _
theorem not_in_type {W : World} {B : Nat} {cs : Array Value} {t : TypeId} {z : Nat × Nat} (h : W.heap[B]? = some (.cells cs t z)) (ht : t ≠ 112) : ∀ k ∈ [B], ∀ cs z, W.heap[k]? ≠ some (.cells cs 112 z) := by
  intro k hk cs z e
  obtain rfl := List.mem_singleton.1 hk
  rw [h] at e
  simp only [Option.some.injEq, Obj.cells.injEq] at e
  exact ht e.2.1
section
variable {w W0 wk : World} {x : In} {ka : Option Addr} {kn kc : Nat}
theorem got_abides {β : Type} (w : World) (B : Nat) (x : In) (a : Option Addr) (n c m : Nat) (hm : w.heap.size ≤ m) : OwnFrom m (fun (_ : β) W => Got w W B x a n c) := fun s A W' row hs hg hr => by
  have hk : ∀ (k : Nat) (cs : Array Value) (t : TypeId) (z : Nat × Nat), A.heap[k]? = some (.cells cs t z) → W'.heap[k]? = A.heap[k]? := fun k cs t z h => cells_kept hg (fun r e => (hr r e).2) h
  exact ⟨hs.box.of_block (hk _ _ _ _ hs.box), hs.res.of_block (hk _ _ _ _ hs.res), hs.kind.of_block (hk _ _ _ _ hs.kind), hs.row.same (fun k cs z h => hk k cs _ z h), ownFrom_below (β := Unit) (Nat.le_refl _) hm () A W' row hs.below hg hr, hs.lt, Nat.lt_of_lt_of_le hs.ltw hg.size⟩
theorem gotA (hbox : InAt W0 w.heap.size x) (hres : Two W0 (w.heap.size + 1) 117 (.string ⟨#[]⟩) (.slice none 0 0)) (hB0 : Below w.heap.size w W0) (hsz : W0.heap.size = w.heap.size + 2) (hBk : Below W0.drew.heap.size W0.drew wk) (hrow : RowN wk (.slice ka kn kc) (namesOf x.o)) :
    Got w (wk.alloc (.cells #[.string ⟨(wordL x.o).toArray⟩, .slice ka kn kc] 117)) wk.heap.size x ka kn kc := by
  have h1 : But [] W0 wk := (But.refl [] W0).drew.next (But.of_below hBk [])
  have h2 := h1.alloc (.cells #[.string ⟨(wordL x.o).toArray⟩, .slice ka kn kc] 117)
  have h3 := h1.size
  exact ⟨hbox.of_block (h2.block _ (by omega) (by simp)), hres.of_block (h2.block _ (by omega) (by simp)), two_new wk _ _ _, hrow.fresh ((But.refl [] wk).alloc _), hB0.trans (h2.below hB0.size (by simp)), by omega, by simp; omega⟩
theorem gotB (hbox : InAt W0 w.heap.size x) (hres : Two W0 (w.heap.size + 1) 117 (.string ⟨#[]⟩) (.slice none 0 0)) (hB0 : Below w.heap.size w W0) (hsz : W0.heap.size = w.heap.size + 2)
    (hBk : Below (W0.alloc (.cells #[.string ⟨#[]⟩, .slice none 0 0] 117)).drew.heap.size (W0.alloc (.cells #[.string ⟨#[]⟩, .slice none 0 0] 117)).drew wk) (t2 : Two wk W0.heap.size 117 (.string ⟨#[]⟩) (.slice none 0 0)) (hrow : RowN wk (.slice ka kn kc) (namesOf x.o)) :
    Got w ((wk.setCell ⟨W0.heap.size, 0, none⟩ (.string ⟨(wordL x.o).toArray⟩)).setCell ⟨W0.heap.size, 1, none⟩ (.slice ka kn kc)) W0.heap.size x ka kn kc := by
  have h1 : But [] W0 wk := ((But.refl [] W0).alloc _).drew.next (But.of_below hBk [])
  have h2 := ((But.refl [W0.heap.size] wk).set (p := ⟨W0.heap.size, 0, none⟩) (.inl (by simp)) (.string ⟨(wordL x.o).toArray⟩)).set (p := ⟨W0.heap.size, 1, none⟩) (.inl (by simp)) (.slice ka kn kc)
  have h3 := h1.size
  exact ⟨(hbox.of_block (h1.block _ (by omega) (by simp))).of_block (h2.block _ (by omega) (by simp; omega)), (hres.of_block (h1.block _ (by omega) (by simp))).of_block (h2.block _ (by omega) (by simp; omega)), t2.set _ _, hrow.but h2 (not_in_type t2 (by decide)),
    (hB0.trans (h1.below hB0.size (by simp))).trans (h2.below (by have := hB0.size; omega) (by simp; omega)), by omega, by have := h2.size; omega⟩
end
theorem eq_run (y x : In) (W : World) : (binOp .eql 77 (.agg #[.int .u8 (y.o : Int), .int .i64 y.a, .int .i64 y.b, .int .i64 y.c, .int .i64 y.k]) (.agg #[.int .u8 (x.o : Int), .int .i64 x.a, .int .i64 x.b, .int .i64 x.c, .int .i64 x.k])).run Try.prog W = .ok (.bool (In.eq y x)) W := by
  have u := Try.underlying77
  simp [go_sem]
  cases h : In.eq y x with
  | true =>
    obtain rfl := In.eq_iff.1 h
    simp
  | false =>
    have hne : y ≠ x := fun e => by rw [In.eq_iff.2 e] at h; cases h
    repeat' split
    all_goals first
      | rfl
      | exact absurd (by cases y; cases x; simp only at *; simp only [In.mk.injEq]; omega) hne
theorem kindOf_end (w W : World) (D : Nat) (T : Array Value) (b : Bool) (x : In) (ka : Option Addr) (kn kc B : Nat) (h2 : T[2]?.getD undef = .pointer (some ⟨w.heap.size + 1, 0, none⟩)) (h3 : T[3]?.getD undef = .bool b) (hb : b = okI x)
    (hG : Got w W B x ka kn kc) (hw : w.heap.size ≤ D) (hK : W.heap[D]? = some (.deferred (some []))) :
    bodyPostM Fence.wide 4 Try.prog Try.f57 (fun e w' => ∃ v, e = .returned (.tuple #[v, .bool (okI x)]) ∧ Kin w' v x.o ∧ Below w.heap.size w w') .ret
      { tmps := T, defers := [{ target := Target.collected D, args := #[] }] } ((W.setCell ⟨w.heap.size + 1, 0, none⟩ (.string ⟨(wordL x.o).toArray⟩)).setCell ⟨w.heap.size + 1, 1, none⟩ (.slice ka kn kc)).drew := by
  have hk := (((KeepsOthers.setCell W ⟨w.heap.size + 1, 0, none⟩ (.string ⟨(wordL x.o).toArray⟩)).trans (KeepsOthers.setCell _ ⟨w.heap.size + 1, 1, none⟩ (.slice ka kn kc))).trans (KeepsOthers.drew _)).same D _ hK rfl
  have hb5 := ((But.refl [w.heap.size + 1] W).set (p := ⟨w.heap.size + 1, 0, none⟩) (.inl (by simp)) (.string ⟨(wordL x.o).toArray⟩)).set (p := ⟨w.heap.size + 1, 1, none⟩) (.inl (by simp)) (.slice ka kn kc)
  have hT5 := hG.res.set (.string ⟨(wordL x.o).toArray⟩) (.slice ka kn kc)
  have hrow5 := hG.row.but hb5 (not_in_type hG.res (by decide))
  have hB5 := hG.below.trans (hb5.below hG.below.size (by simp))
  clear hb5
  generalize (W.setCell ⟨w.heap.size + 1, 0, none⟩ (.string ⟨(wordL x.o).toArray⟩)).setCell ⟨w.heap.size + 1, 1, none⟩ (.slice ka kn kc) = W5 at hk hT5 hrow5 hB5 ⊢
  refine ⟨by simp, .inl ⟨_, _, rfl, run_takeDeferred hk, ?_⟩⟩
  have c0 := cell_kept (show W5.drew.cell? ⟨w.heap.size + 1, 0, none⟩ = some (.string ⟨(wordL x.o).toArray⟩) from hT5.c0) (grownBy_putObj' _ D (.deferred none)) (fun r e => by cases e; exact ⟨_, hk, rfl⟩)
  have c1 := cell_kept (show W5.drew.cell? ⟨w.heap.size + 1, 1, none⟩ = some (.slice ka kn kc) from hT5.c1) (grownBy_putObj' _ D (.deferred none)) (fun r e => by cases e; exact ⟨_, hk, rfl⟩)
  refine ⟨.tuple #[.agg #[.string ⟨(wordL x.o).toArray⟩, .slice ka kn kc], .bool b], ?_, _, by rw [hb], ⟨_, rfl, ?_⟩, ?_⟩
  · simp [results, Try.f57, go_sem, c0, c1, h2, h3]
  · refine hrow5.same fun k cs z h => ?_
    exact (grownBy_putObj' W5.drew D (.deferred none)).block k (Array.getElem?_eq_some_iff.1 h).1 (fun e => by
      obtain rfl := Option.some.inj e
      have e2 := (show W5.heap[k]? = _ from hk).symm.trans h
      cases e2)
  · exact (below_drewN hB5 1).trans (belowK_b (w := w) (Nat.le_refl _) _ D _ _ hw hk rfl rfl)
set_option maxRecDepth 100000 in
set_option maxHeartbeats 1000000 in
theorem kindOf_any (x : In) (hx : x.ok) (w : World) :
    Calls Try.prog 57 #[x.val] w fun e w' => ∃ v, e = .returned (.tuple #[v, .bool (okI x)]) ∧ Kin w' v x.o ∧ Below w.heap.size w w' := by
  have ho := hx.o
  obtain ⟨W0, hW0⟩ : ∃ W0, W0 = (w.alloc (.cells #[.int .u8 (x.o : Int), .int .i64 x.a, .int .i64 x.b, .int .i64 x.c, .int .i64 x.k] 77)).alloc (.cells #[.string ⟨#[]⟩, .slice none 0 0] 117) := ⟨_, rfl⟩
  have hbox : InAt W0 w.heap.size x := by rw [hW0]; exact (inAt_new w x).alloc _
  have hres : Two W0 (w.heap.size + 1) 117 (.string ⟨#[]⟩) (.slice none 0 0) := by
    rw [hW0]
    have := two_new (w.alloc (.cells #[.int .u8 (x.o : Int), .int .i64 x.a, .int .i64 x.b, .int .i64 x.c, .int .i64 x.k] 77)) 117 (.string ⟨#[]⟩) (.slice none 0 0)
    simpa using this
  have hsz : W0.heap.size = w.heap.size + 2 := by rw [hW0]; simp
  have hB0 : Below w.heap.size w W0 := by rw [hW0]; exact below2 w _ _
  unfold In.val
  refine (callsIn_wide (n := 4)).1 ?_
  refine callsIn_of_wp_marks Try.func57 rfl trivial ?_ rfl
  simp only [Try.ntmps57, List.size_toArray, List.length_cons, List.length_nil, Nat.reduceAdd, Nat.reduceSub, Array.replicate_succ, Array.replicate_zero, List.push_toArray, List.append_toArray, List.nil_append, List.cons_append]
  refine wpIn_wide.2 ?_
  go_upto_region 1 with fail
  rw [← hW0]
  have HS := Lib.hid hsz
  clear hW0 hsz
  go_cut [4, 5] from 9 to 16 (fun kv bv W => ∃ B a n c, kv = .pointer (some ⟨B, 0, none⟩) ∧ bv = .bool (known x.o) ∧ Got w W B x a n c)
  case first =>
    have hc0 : ∀ W, But [] W0 W → W.cell? ⟨w.heap.size, 0, none⟩ = some (.int .u8 (x.o : Int)) := fun W hW => (hbox.of_block (hW.block _ hbox.lt (by simp))).c0
    have r0 : But [] W0 W0.drew := (But.refl _ _).drew
    have r1 : ∀ o, But [] W0 (W0.alloc o).drew := fun o => ((But.refl _ _).alloc _).drew
    have hlt0 : w.heap.size < W0.drew.heap.size := hbox.lt
    have hlt1 : ∀ o, w.heap.size < (W0.alloc o).drew.heap.size := fun o => Nat.lt_of_lt_of_le hbox.lt (r1 o).size
    have tw : Two (W0.alloc (.cells #[.string ⟨#[]⟩, .slice none 0 0] 117)).drew W0.heap.size 117 (.string ⟨#[]⟩) (.slice none 0 0) := two_new W0 _ _ _
    have tl := tw.lt
    have hne : (⟨w.heap.size, 0, none⟩ : Addr).block ∉ [W0.heap.size] := by have := hbox.lt; simp; omega
    have c0 := hc0 _ r0
    have c1 := fun o => hc0 _ (r1 o)
    go_region_held3 (fun w' => w'.cell? ⟨w.heap.size, 0, none⟩ = some (.int .u8 (x.o : Int))) (first | exact c0 | exact c1 _ | exact k0 | exact k1 _ | exact k2 _ _ | assumption) ((first | (go_at_call 59; refine (kinds_any _).mono ?_; rintro e wk ⟨rfl, hK, hBk⟩; obtain ⟨ka, kn, kc, hrow, hlk⟩ := hK.looks ho; have k0 := (hBk.cell (p := ⟨w.heap.size, 0, none⟩) (by first | exact hlt0 | exact hlt1 _)).trans (by first | exact c0 | exact c1 _); have k1 := fun o => (((But.refl [] wk).alloc o).cell k0 (by simp)); try (simp only [show W0.drew.heap.size = W0.heap.size from rfl, show ∀ o : Obj, (W0.alloc o).drew.heap.size = W0.heap.size + 1 from fun o => sz1 W0 o] at hlk); have l0 := hlk _ (But.refl [] wk); have l1 := fun o => hlk _ ((But.refl [] wk).alloc o); first | (have t2 : Two wk W0.heap.size 117 (.string ⟨#[]⟩) (.slice none 0 0) := tw.of_block (hBk.block _ tl); have t20 := t2.c0; have t21 := t2.c1; have t22 := t2.frozen 0; have t23 := t2.frozen 1; have k2 := fun a b => (((But.refl [W0.heap.size] wk).set (p := ⟨W0.heap.size, 0, none⟩) (.inl (by simp)) a).set (p := ⟨W0.heap.size, 1, none⟩) (.inl (by simp)) b).cell k0 hne) | skip)))
    all_goals go_wp2_with fail
    all_goals go_meet
    all_goals first
      | exact ⟨_, _, _, _, rfl, rfl, gotA hbox hres hB0 HS.out hBk hrow⟩
      | exact ⟨_, _, _, _, rfl, rfl, gotB hbox hres hB0 HS.out hBk t2 hrow⟩
  case rest =>
    obtain ⟨B, ka, kn, kc, rfl, rfl, hG⟩ := hcut
    clear hbox hres hB0 HS
    obtain ⟨WB, hWB⟩ : ∃ WB, WB = wc.alloc (.cells #[.int .u8 (x.o : Int), .int .i64 0, .int .i64 0, .int .i64 0, .int .i64 0] 77) := ⟨_, rfl⟩
    have b0 := hG.box.c0
    have hG1 : Got w WB B x ka kn kc := by rw [hWB]; exact hG.fresh ((But.refl [] wc).alloc _)
    have hC : InAt WB wc.heap.size (In.only x.o) := by rw [hWB]; exact inAt_new wc (In.only x.o)
    have hsz1 : WB.heap.size = wc.heap.size + 1 := by rw [hWB]; simp
    have hwc := hG.kind.lt
    have hwl := hG.lt
    have hnm := named_any ⟨(wordL x.o).toArray⟩ ka kn kc x WB hG1.row
    clear hG
    have c0 := hG1.box.c0
    have c1 := hG1.box.c1
    have c2 := hG1.box.c2
    have c3 := hG1.box.c3
    have c4 := hG1.box.c4
    have k0 := hG1.kind.c0
    have k1 := hG1.kind.c1
    unfold In.val at hnm
    rw [hWB] at c0 c1 c2 c3 c4 k0 k1 hnm
    go_wp2_with fail
    refine hnm.mono ?_
    rw [← hWB]
    rintro e Wn ⟨rfl, hN, hszn, hbn⟩
    have hGn := hG1.fresh hbn
    have hCn : InAt Wn wc.heap.size (In.only x.o) := hC.of_block (hbn.block _ hC.lt (by simp))
    have HW := Lib.hid hWB
    have HS1 := Lib.hid hsz1
    have HSn := Lib.hid hszn
    have hn3 := hN.lt
    have hnW : Wn.heap.size = WB.heap.size + 3 + 1 := hszn
    have hCw : wc.heap.size < WB.heap.size := by omega
    clear hWB c0 c1 c2 c3 c4 k0 k1 hnm b0 hszn hG1 hC hbn
    have HZ := Lib.hid hnW
    have HZ1 := Lib.hid hsz1
    clear hnW hsz1
    go_wp2_with fail
    refine (wpIn_wide (n := 4)).1 ?_
    refine wpIn_rangeFunc_ownG rfl (by omega) (gf := 62) (lb := #[.pointer (some ⟨WB.heap.size, 0, none⟩), .pointer (some ⟨WB.heap.size + 3, 0, none⟩)]) rfl trivial (enters_of Try.func62 (by kernel_rfl) rfl)
      (iter_named hx hN) (fun h k => KeepK.trans h k) (fun W l o o' hl ho hc _ => keepK_putObj W l o o' hn3 hl ho hc) (Below.refl _ _) (fun _ => rfl)
      (fun pre W => InAt W wc.heap.size ((pre.map (·.1)).foldl bareStep (In.only x.o)) ∧ Got w W B x ka kn kc ∧ Nmd W WB.heap.size ⟨(wordL x.o).toArray⟩ (.slice ka kn kc) x)
      (fun _ _ _ => False)
      (OwnFrom.and (InAt.abides _ _ _) (OwnFrom.and (got_abides _ _ _ _ _ _ _ (Nat.le_of_lt hGn.ltw)) (nmd_abides _ _ _ _ _)))
      (fun _ _ _ _ _ hs _ _ => hs)
      ⟨hCn, hGn, hN⟩ ?a1 ?assign ?body ?done ?stop
    case assign =>
      intro l p W K hK
      gi_wp2
      exact hK
    case body =>
      rintro l pre p W ⟨hC, hG, hN⟩ hlt
      obtain ⟨y, hy⟩ : ∃ y, y = (pre.map (·.1)).foldl bareStep (In.only x.o) := ⟨_, rfl⟩
      obtain ⟨z, hz⟩ : ∃ z, z = y.put p.1.1 p.1.2 := ⟨_, rfl⟩
      have HY : Hid (((pre ++ [p]).map (·.1)).foldl bareStep (In.only x.o) = z) := Lib.hid (by rw [hz, hy]; simp [bareStep])
      rw [← hy] at hC
      have hw := with_any y p.1.1 p.1.2 W
      rw [← hz] at hw
      unfold In.val at hw
      clear hy hz
      have c0 := hC.c0
      have c1 := hC.c1
      have c2 := hC.c2
      have c3 := hC.c3
      have c4 := hC.c4
      gi_wp2_with (refine ⟨trivial, ?_⟩; gi_at_call 60; refine (callsIn_wide.2 hw).mono ?_; rintro e Wx ⟨rfl, hbx⟩; have hCx := hC.of_block (hbx.block _ hC.lt); have d0 := hCx.c0; have d1 := hCx.c1; have d2 := hCx.c2; have d3 := hCx.c3; have d4 := hCx.c4; have f0 := hCx.frozen 0; have f1 := hCx.frozen 1; have f2 := hCx.frozen 2; have f3 := hCx.frozen 3; have f4 := hCx.frozen 4)
      have hb1 : But [wc.heap.size] W Wx := But.of_below hbx _
      have hb2 := hb1.next (but_put5 Wx wc.heap.size z)
      have hnm := not_in_type hC (by decide)
      have hWl := hG.ltw
      refine ⟨keepsFrom_but hb2 (by simp; omega), hN.keeps hb2 (by simp; omega) (by simp; omega) (by simp; omega) hnm, ?_, hG.but hb2 (by simp; omega) (by simp; omega) (by simp; omega) (by simp; omega) hnm, hN.but hb2 (by simp; omega) (by simp; omega) (by simp; omega) hnm⟩
      rw [HY.out]
      exact hCx.put5 z
    case done =>
      rintro D xs W hD hxs ⟨hC, hG, hN⟩ hK
      have HX : Hid ((xs.map (·.1)).foldl bareStep (In.only x.o) = bareOf x) := Lib.hid (by rw [show xs = _ from hxs, nvs_map]; rfl)
      rw [HX.out] at hC
      clear hxs
      obtain ⟨y, hy⟩ : ∃ y, y = bareOf x := ⟨_, rfl⟩
      rw [← hy] at hC
      have HYB := Lib.hid hy
      clear hy
      have hq := eq_run y x
      have c0 := hC.c0
      have c1 := hC.c1
      have c2 := hC.c2
      have c3 := hC.c3
      have c4 := hC.c4
      have b0 := hG.box.c0
      have b1 := hG.box.c1
      have b2 := hG.box.c2
      have b3 := hG.box.c3
      have b4 := hG.box.c4
      have k0 := hG.kind.c0
      have k1 := hG.kind.c1
      have r0 := hG.res.c0
      have r1 := hG.res.c1
      have e0 := hG.res.frozen 0
      have e1 := hG.res.frozen 1
      cases hkn : known x.o with
      | false =>
        have HO : Hid (okI x = false) := Lib.hid (by unfold okI; rw [hkn]; rfl)
        clear hkn
        go_wp2_with fail
        go_region
        go_wp2_with fail
        exact kindOf_end w W D _ _ x ka kn kc B rfl rfl HO.out.symm hG (by have := hGn.ltw; omega) hK
      | true =>
        have HO : Hid (okI x = In.eq y x) := Lib.hid (by unfold okI; rw [hkn, HYB.out]; rfl)
        clear hkn
        go_wp2_with fail
        go_region
        go_wp2_with fail
        exact kindOf_end w W D _ _ x ka kn kc B rfl rfl HO.out.symm hG (by have := hGn.ltw; omega) hK
    case stop =>
      rintro D c pre W _ _ h _
      exact h.elim
end Go.Proofs.Ytamkmmpockmpfaa
