/-
  The walk of Copy.
-/
import Derived.Test.YtkfbleihcokfaaaLShelf
import Derived.Test.YtkfbleihcokfaaaLDrop
namespace Go.Proofs.Ytkfbleihcokfaaa
open Go.RowKit Go.Shelf

theorem copy_nil (w : World) :
    Calls Try.prog 15 #[.pointer none] w fun e w' => e = .returned (.pointer none) ∧ w' = w := by
  go_enter Try.func15, Try.ntmps15
  go_wp2_with fail
  go_ret
  exact ⟨rfl, rfl⟩

theorem clone_map {M c : Nat} {g : Gs} (w : World) (h : MapAt w M g c) :
    ∃ o, MapAt (w.alloc o) w.heap.size g c ∧ Calls Try.prog 25 #[.map (some M)] w fun e w' => e = .returned (.map (some w.heap.size)) ∧ w' = w.alloc o := by
  obtain ⟨D, ⟨es, clock, hb, r⟩, h2⟩ := h
  have hc := AnyW.maps_Clone Try.cloneL M es clock w hb
  exact ⟨_, ⟨D, ⟨es, clock, (MapKept.heap_alloc w _).1, r⟩, h2⟩, hc⟩

set_option maxHeartbeats 1000000 in
theorem copy_any {B M : Nat} {xs : List Int} (w : World) (h : Que w B M xs) :
    Calls Try.prog 15 #[.pointer (some ⟨B, 0, none⟩)] w fun e w' => e = .returned (.pointer (some ⟨w.heap.size + 1, 0, none⟩)) ∧ Que w' (w.heap.size + 1) w.heap.size xs ∧ But [] w w' := by
  obtain ⟨g, f, l, hl, k⟩ := h
  obtain ⟨o, hm, hcall⟩ := clone_map w.drew (hl.map.but (But.refl [] w).drew (by simp))
  replace hm : MapAt (w.alloc o) w.heap.size g xs.length := hm
  have hcM := hl.cellM
  have hcF := hl.cellF
  have hcL := hl.cellL
  have h0 := hl.but (But.refl [] w).drew (by simp) (by simp)
  have d1 := h0.cellM
  have d2 := h0.cellF
  have d3 := h0.cellL
  have h1 := hl.but ((But.refl [] w).alloc o).drew (by simp) (by simp)
  have e0 := h1.cellM
  have e1 := h1.cellF
  have e2 := h1.cellL
  have e : (w.alloc o).heap.size = w.heap.size + 1 := by simp
  have hh := (MapKept.heap_alloc (w.alloc o) (.cells #[.map (some w.heap.size), .int .i64 f, .int .i64 l] 48)).1
  rw [e] at hh
  have hbe : But [] (w.alloc o) ((w.alloc o).alloc (.cells #[.map (some w.heap.size), .int .i64 f, .int .i64 l] 48)).drew := ((But.refl _ _).alloc _).drew
  have hend : Que ((w.alloc o).alloc (.cells #[.map (some w.heap.size), .int .i64 f, .int .i64 l] 48)).drew (w.heap.size + 1) w.heap.size xs := ⟨g, f, l, ⟨hh, hm.but hbe (by simp)⟩, k⟩
  have hbw : But [] w ((w.alloc o).alloc (.cells #[.map (some w.heap.size), .int .i64 f, .int .i64 l] 48)).drew := ((But.refl _ _).alloc _).next hbe
  have h2 := hl.but hbw (by simp) (by simp)
  have g0 := h2.cellM
  have g1 := h2.cellF
  have g2 := h2.cellL
  clear hl h0 h1 h2 k hh hm hbe e
  go_enter Try.func15, Try.ntmps15
  go_wp2_with fail
  go_region_held3 (fun w' => w'.cell? ⟨B, 0, none⟩ = some (.map (some M)) ∧ w'.cell? ⟨B, 1, none⟩ = some (.int .i64 f) ∧ w'.cell? ⟨B, 2, none⟩ = some (.int .i64 l)) (refine ⟨?_, ?_, ?_⟩ <;> first | assumption) ((first | (go_at_call 25; refine hcall.mono ?_; rintro e w' ⟨rfl, rfl⟩)))
  all_goals go_wp2_with fail
  all_goals go_ret
  all_goals exact ⟨rfl, hend, hbw⟩
end Go.Proofs.Ytkfbleihcokfaaa
