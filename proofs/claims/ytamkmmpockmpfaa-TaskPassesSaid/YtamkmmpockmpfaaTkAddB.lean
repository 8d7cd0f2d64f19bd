/-
  The walk of task.Add, each way.
-/
import Derived.Test.YtamkmmpockmpfaaTkAdd
namespace Go.Proofs.Ytamkmmpockmpfaa
open Go.RowKit

theorem rise_len (n : Nat) : (Od.rise n).length = n := by simp [Od.rise]
theorem cell_two (W : World) (o : Obj) (v : Value) (t : TypeId) : ((W.alloc o).alloc (.cells #[v] t)).cell? ⟨W.heap.size + 1, 0, none⟩ = some v := by
  have h := blk_new (W.alloc o) t #[v]
  rw [World.size_alloc] at h
  exact h.cell rfl
theorem But.of_grown {w w' : World} {r : Option Nat} (h : w.grownBy w' r) : But r.toList w w' := by
  cases r with
  | none => exact But.of_none h _
  | some b => exact But.of_some h (by simp)
theorem add_blk {w2 w3 w5 : World} {A : Ad} {s : Tb} {o1 o2 : Obj} (h : Tab w2 A s) (hb3 : But [] w2 w3) (hg : ((w3.alloc o1).alloc o2).grownBy w5 A.R.ownBlock) : Blk w5 A.T 59 #[A.v1, A.v2, A.v3, A.R] := by
  have hq5 : But A.R.ownBlock.toList w2 w5 := (((hb3.mono (by simp)).alloc _).alloc _).next (But.of_grown hg)
  refine (hq5.block _ h.blk.lt (fun hx => ?_)).trans h.blk
  obtain ⟨cur, hc⟩ := owns_lt h.row (by simpa using hx)
  have := h.blk
  unfold Blk at this
  rw [hc] at this
  simp only [Option.some.injEq, Obj.cells.injEq] at this
  exact absurd this.2.1 (by decide)
/-- What Add leaves. -/
theorem add_end {w2 w3 w5 : World} {A : Ad} {s : Tb} {f : Fra} {M : Nat} {O : List Nat} {v1 : Value} (h : Tab w2 A s) (hl : s.ts.length < 32) (hO : Ords w3 w2.heap.size M O s.p.sites) (hb3 : But [] w2 w3)
    (hown : w5.ownsRow 0 61 1 v1 (s.ts.length + 1) (A.ks.map ptrT ++ [.pointer (some ⟨w3.heap.size, 0, none⟩)]))
    (hg : ((w3.alloc (.cells (tkA 1 f 0 (.slice none 0 0) M) 67)).alloc (.cells #[.pointer (some ⟨w3.heap.size, 0, none⟩)] 61)).grownBy w5 A.R.ownBlock)
    (hat : v1.ownBlock = A.R.ownBlock ∨ v1.ownBlock = some ((w3.alloc (.cells (tkA 1 f 0 (.slice none 0 0) M) 67)).alloc (.cells #[.pointer (some ⟨w3.heap.size, 0, none⟩)] 61)).heap.size) :
    ∃ A', Tab (w5.setCell ⟨A.T, 3, none⟩ v1) A' ⟨s.p, s.ts ++ [newTk s.p f]⟩ ∧ Turn w2 (w5.setCell ⟨A.T, 3, none⟩ v1) A A' := by
  have hz3 := hb3.size
  have hSlt : ∀ x ∈ A.T :: A.R.ownBlock.toList, x < w2.heap.size := fun x hx => by
    rcases List.mem_cons.1 hx with rfl | hx
    · exact h.blk.lt
    · exact h.lt (Ad.foot_R (by simpa using hx))
  have hgb : But A.R.ownBlock.toList ((w3.alloc (.cells (tkA 1 f 0 (.slice none 0 0) M) 67)).alloc (.cells #[.pointer (some ⟨w3.heap.size, 0, none⟩)] 61)) w5 := But.of_grown hg
  have hgb' : But (A.T :: A.R.ownBlock.toList) ((w3.alloc (.cells (tkA 1 f 0 (.slice none 0 0) M) 67)).alloc (.cells #[.pointer (some ⟨w3.heap.size, 0, none⟩)] 61)) (w5.setCell ⟨A.T, 3, none⟩ v1) := (hgb.mono (fun x hx => List.mem_cons_of_mem _ hx)).set (p := ⟨A.T, 3, none⟩) (.inl (by simp)) _
  have h1 : But (A.T :: A.R.ownBlock.toList) (w3.alloc (.cells (tkA 1 f 0 (.slice none 0 0) M) 67)) (w5.setCell ⟨A.T, 3, none⟩ v1) := ((But.refl _ _).alloc _).next hgb'
  have h3 : But (A.T :: A.R.ownBlock.toList) w3 (w5.setCell ⟨A.T, 3, none⟩ v1) := ((But.refl _ _).alloc _).next h1
  have h2 : But (A.T :: A.R.ownBlock.toList) w2 (w5.setCell ⟨A.T, 3, none⟩ v1) := (hb3.mono (by simp)).next h3
  have hT5 := add_blk h hb3 hg
  have hB := blk_new w3 67 (tkA 1 f 0 (.slice none 0 0) M)
  have hM := hO.hm
  have hBn : w3.heap.size ∉ A.T :: A.R.ownBlock.toList := fun hx => by have := hSlt _ hx; omega
  have hO5 : Ords (w5.setCell ⟨A.T, 3, none⟩ v1) w2.heap.size M O s.p.sites := hO.fresh h3 hSlt
  have hk : TkAt (w5.setCell ⟨A.T, 3, none⟩ v1) ⟨w3.heap.size, .slice none 0 0, M, O⟩ (newTk s.p f) := by
    refine ⟨(h1.block _ hB.lt hBn).trans hB, World.ownsRow_nil _ _ _ _, hO5.map, by simp [newTk, hO5.len], fun j o l hj hl => ?_, hO5.nd⟩
    simp only [newTk, List.getElem?_map, Option.map_eq_some_iff] at hl
    obtain ⟨x, hx, rfl⟩ := hl
    rw [rise_len]
    exact hO5.ords j o x hj hx
  refine ⟨_, h.add h2 (hT5.set 3 v1) (owns_beside hown hT5 (by decide) _) (fun g hg' => ?_) hk (fun x hx => ?_) hl⟩
  · rcases hat with q | q
    · exact .inl (q ▸ hg')
    · rw [q] at hg'
      simp only [World.size_alloc, Option.some.injEq] at hg'
      exact .inr (by omega)
  · simp only [Ta.foot, Value.ownBlock, Option.toList_none, List.append_nil, List.mem_cons] at hx
    rcases hx with rfl | rfl | hx
    · exact hz3
    · exact hM
    · exact hO.ho x hx

set_option maxRecDepth 100000 in
set_option maxHeartbeats 3200000 in
theorem add_bad {A : Ad} {s : Tb} (f : Fra) (w : World) (h : Tab w A s) (hok : (atF s.p f).isSome = false) :
    Calls Try.prog 7 #[.pointer (some ⟨A.T, 0, none⟩), fraV f] w fun e w' => e = .returned (.tuple #[.int .i64 0, .int .i64 2]) ∧ But [] w w' := by
  have hb0 := (But.refl [] w).alloc (.cells (fraA f) 38)
  have hF0 : Blk (w.alloc (.cells (fraA f) 38)) w.heap.size 38 (fraA f) := blk_new w _ _
  obtain ⟨w0, hw0⟩ : ∃ w0, w0 = w.alloc (.cells (fraA f) 38) := ⟨_, rfl⟩
  rw [← hw0] at hb0 hF0
  have hT0 := h.fresh hb0
  have hS : ∀ W, But [] w0.drew W → W.cell? ⟨A.T, 0, none⟩ = some A.v1 ∧ W.cell? ⟨A.T, 1, none⟩ = some A.v2 ∧ W.cell? ⟨A.T, 2, none⟩ = some A.v3 ∧ W.cell? ⟨w.heap.size, 0, none⟩ = some (.int .i64 f.c) ∧ W.cell? ⟨w.heap.size, 1, none⟩ = some (.int .i64 f.p) ∧ W.cell? ⟨w.heap.size, 2, none⟩ = some (.int .i64 f.r0) ∧ W.cell? ⟨w.heap.size, 3, none⟩ = some (.int .i64 f.r1) ∧ W.cell? ⟨w.heap.size, 4, none⟩ = some (.int .i64 f.r2) ∧ W.cell? ⟨w.heap.size, 5, none⟩ = some (.int .i64 f.r3) ∧ W.cell? ⟨w.heap.size, 6, none⟩ = some (.int .i64 f.r4) ∧ W.cell? ⟨w.heap.size, 7, none⟩ = some (.int .i64 f.r5) ∧ W.cell? ⟨w.heap.size, 8, none⟩ = some (.int .i64 f.r6) ∧ W.cell? ⟨w.heap.size, 9, none⟩ = some (.int .i64 f.r7) := fun W hb => by
    have h1 := (hT0.drew.fresh hb).blk
    obtain ⟨g0, g1, g2, g3, g4, g5, g6, g7, g8, g9⟩ := fra_cells ((hb.block w.heap.size hF0.lt (by simp)).trans hF0)
    exact ⟨h1.cell rfl, h1.cell rfl, h1.cell rfl, g0, g1, g2, g3, g4, g5, g6, g7, g8, g9⟩
  have hck : ∀ W, But [] w0.drew W → Calls Try.prog 17 #[.agg #[A.v1, A.v2, A.v3], fraV f] W fun e w' => e = .returned (.int .i64 (okE false)) ∧ But [] w0.drew w' := fun W hb => (fcheck_any W (hT0.drew.fresh hb).prg hT0.small f).mono (fun e w' hp => by
    rw [hok] at hp
    exact ⟨hp.1, hb.next (But.of_below hp.2 [])⟩)
  simp only [okE, Bool.false_eq_true, if_false] at hck
  have hd0 : But [] w0.drew w0.drew := But.refl _ _
  have HW := Lib.hid hw0
  have HF := Lib.hid hF0
  have HT := Lib.hid hT0
  have HB := Lib.hid hb0
  have HOK := Lib.hid hok
  clear hF0 hT0 hb0 hok hw0 h
  go_enter Try.func7, Try.ntmps7
  go_wp2_with fail
  rw [← HW.out]
  go_region_held3 (fun w' => w'.cell? ⟨A.T, 0, none⟩ = some A.v1 ∧ w'.cell? ⟨A.T, 1, none⟩ = some A.v2 ∧ w'.cell? ⟨A.T, 2, none⟩ = some A.v3 ∧ w'.cell? ⟨w.heap.size, 0, none⟩ = some (.int .i64 f.c) ∧ w'.cell? ⟨w.heap.size, 1, none⟩ = some (.int .i64 f.p) ∧ w'.cell? ⟨w.heap.size, 2, none⟩ = some (.int .i64 f.r0) ∧ w'.cell? ⟨w.heap.size, 3, none⟩ = some (.int .i64 f.r1) ∧ w'.cell? ⟨w.heap.size, 4, none⟩ = some (.int .i64 f.r2) ∧ w'.cell? ⟨w.heap.size, 5, none⟩ = some (.int .i64 f.r3) ∧ w'.cell? ⟨w.heap.size, 6, none⟩ = some (.int .i64 f.r4) ∧ w'.cell? ⟨w.heap.size, 7, none⟩ = some (.int .i64 f.r5) ∧ w'.cell? ⟨w.heap.size, 8, none⟩ = some (.int .i64 f.r6) ∧ w'.cell? ⟨w.heap.size, 9, none⟩ = some (.int .i64 f.r7))
    ((refine hS _ ?_; with_reducible first | exact hd0 | exact hb2))
    ((first | (go_at_call 17; with_reducible refine (hck _ hd0).mono ?_; rintro e w2 ⟨rfl, hb2⟩)))
  all_goals clear hS hck hd0
  all_goals go_wp2_with fail
  all_goals go_ret2
  all_goals exact ⟨rfl, HB.out.drew.next hb2⟩

set_option maxRecDepth 100000 in
set_option maxHeartbeats 3200000 in
theorem add_full {A : Ad} {s : Tb} (f : Fra) (w : World) (h : Tab w A s) (hok : (atF s.p f).isSome = true) (hl : s.ts.length = 32) :
    Calls Try.prog 7 #[.pointer (some ⟨A.T, 0, none⟩), fraV f] w fun e w' => e = .returned (.tuple #[.int .i64 0, .int .i64 4]) ∧ But [] w w' := by
  have hb0 := (But.refl [] w).alloc (.cells (fraA f) 38)
  have hF0 : Blk (w.alloc (.cells (fraA f) 38)) w.heap.size 38 (fraA f) := blk_new w _ _
  obtain ⟨w0, hw0⟩ : ∃ w0, w0 = w.alloc (.cells (fraA f) 38) := ⟨_, rfl⟩
  rw [← hw0] at hb0 hF0
  have hT0 := h.fresh hb0
  have hS : ∀ W, But [] w0.drew W → W.cell? ⟨A.T, 0, none⟩ = some A.v1 ∧ W.cell? ⟨A.T, 1, none⟩ = some A.v2 ∧ W.cell? ⟨A.T, 2, none⟩ = some A.v3 ∧ W.cell? ⟨w.heap.size, 0, none⟩ = some (.int .i64 f.c) ∧ W.cell? ⟨w.heap.size, 1, none⟩ = some (.int .i64 f.p) ∧ W.cell? ⟨w.heap.size, 2, none⟩ = some (.int .i64 f.r0) ∧ W.cell? ⟨w.heap.size, 3, none⟩ = some (.int .i64 f.r1) ∧ W.cell? ⟨w.heap.size, 4, none⟩ = some (.int .i64 f.r2) ∧ W.cell? ⟨w.heap.size, 5, none⟩ = some (.int .i64 f.r3) ∧ W.cell? ⟨w.heap.size, 6, none⟩ = some (.int .i64 f.r4) ∧ W.cell? ⟨w.heap.size, 7, none⟩ = some (.int .i64 f.r5) ∧ W.cell? ⟨w.heap.size, 8, none⟩ = some (.int .i64 f.r6) ∧ W.cell? ⟨w.heap.size, 9, none⟩ = some (.int .i64 f.r7) := fun W hb => by
    have h1 := (hT0.drew.fresh hb).blk
    obtain ⟨g0, g1, g2, g3, g4, g5, g6, g7, g8, g9⟩ := fra_cells ((hb.block w.heap.size hF0.lt (by simp)).trans hF0)
    exact ⟨h1.cell rfl, h1.cell rfl, h1.cell rfl, g0, g1, g2, g3, g4, g5, g6, g7, g8, g9⟩
  have hck : ∀ W, But [] w0.drew W → Calls Try.prog 17 #[.agg #[A.v1, A.v2, A.v3], fraV f] W fun e w' => e = .returned (.int .i64 (okE true)) ∧ But [] w0.drew w' := fun W hb => (fcheck_any W (hT0.drew.fresh hb).prg hT0.small f).mono (fun e w' hp => by
    rw [hok] at hp
    exact ⟨hp.1, hb.next (But.of_below hp.2 [])⟩)
  simp only [okE, if_true] at hck
  have hd0 : But [] w0.drew w0.drew := But.refl _ _
  have HW := Lib.hid hw0
  have HF := Lib.hid hF0
  have HT := Lib.hid hT0
  have HB := Lib.hid hb0
  have HOK := Lib.hid hok
  clear hF0 hT0 hb0 hok hw0 h
  go_enter Try.func7, Try.ntmps7
  go_wp2_with fail
  rw [← HW.out]
  go_region_held3 (fun w' => w'.cell? ⟨A.T, 0, none⟩ = some A.v1 ∧ w'.cell? ⟨A.T, 1, none⟩ = some A.v2 ∧ w'.cell? ⟨A.T, 2, none⟩ = some A.v3 ∧ w'.cell? ⟨w.heap.size, 0, none⟩ = some (.int .i64 f.c) ∧ w'.cell? ⟨w.heap.size, 1, none⟩ = some (.int .i64 f.p) ∧ w'.cell? ⟨w.heap.size, 2, none⟩ = some (.int .i64 f.r0) ∧ w'.cell? ⟨w.heap.size, 3, none⟩ = some (.int .i64 f.r1) ∧ w'.cell? ⟨w.heap.size, 4, none⟩ = some (.int .i64 f.r2) ∧ w'.cell? ⟨w.heap.size, 5, none⟩ = some (.int .i64 f.r3) ∧ w'.cell? ⟨w.heap.size, 6, none⟩ = some (.int .i64 f.r4) ∧ w'.cell? ⟨w.heap.size, 7, none⟩ = some (.int .i64 f.r5) ∧ w'.cell? ⟨w.heap.size, 8, none⟩ = some (.int .i64 f.r6) ∧ w'.cell? ⟨w.heap.size, 9, none⟩ = some (.int .i64 f.r7))
    ((refine hS _ ?_; with_reducible first | exact hd0 | exact hb2))
    ((first | (go_at_call 17; with_reducible refine (hck _ hd0).mono ?_; rintro e w2 ⟨rfl, hb2⟩)))
  all_goals clear hS hck hd0
  all_goals
    have h2 := HT.out.drew.fresh hb2
    obtain ⟨ra, rc, hR⟩ := owns_slice h2.row
    have c3 : w2.cell? ⟨A.T, 3, none⟩ = some (.slice ra s.ts.length rc) := by rw [← hR]; exact h2.blk.cell rfl
    rw [hl] at c3
    clear h2 hR
    go_wp2_with fail
    go_ret2
    exact ⟨rfl, HB.out.drew.next hb2⟩

end Go.Proofs.Ytamkmmpockmpfaa
