/-
  The walks of slices.Clone of slots, and of pool.Copy.
-/
import Derived.Lib.SliceRun
import Derived.Test.YtmllalmdaobboaaPList
namespace Go.Proofs.Ytmllalmdaobboaa
open Go.RowKit

theorem slo_cell {l : List Slo} : ∀ u ∈ l.flatMap sloV, u.oneCell' = true := by
  intro u hu
  obtain ⟨s, _, hu⟩ := List.mem_flatMap.1 hu
  simp only [sloV, sudV, List.cons_append, List.nil_append, List.mem_cons, List.not_mem_nil, or_false] at hu
  rcases hu with rfl | rfl | rfl | rfl | rfl | rfl | rfl <;> rfl

set_option maxHeartbeats 800000 in
theorem clone_slots {V cap : Nat} {l : List Slo} (w : World) (h : Slots w V cap l) (hl : l.length ≤ 1024) :
    Calls Try.prog 24 #[.slice (some ⟨V, 0, none⟩) l.length cap] w fun e w' => ∃ g cap', e = .returned (.slice (some ⟨g, 0, none⟩) l.length cap') ∧ Slots w' g cap' l ∧ w.heap.size ≤ g ∧ But [] w w' := by
  obtain ⟨i0, hi, hz0, hz1, hz2⟩ := info_parts infoSlot
  have qT : ∀ w : World, (binOp .eql 50 (.slice (some ⟨V, 0, none⟩) l.length cap) (.slice none 0 0)).run Try.prog w = .ok (.bool false) w := fun w => Lib.run_eql_slice_nil w 50 54 (some ⟨V, 0, none⟩) l.length cap 0 0 Try.underlying50
  go_enter Try.func24, Try.ntmps24
  have hb0 : But [] w (w.alloc (.cells #[] 54)) := (But.refl _ _).alloc _
  have hV : Slots (w.alloc (.cells #[] 54)) V cap l := h.but hb0 (by simp)
  have hle := h.le
  clear h
  go_wp2_with (at_builtin; refine wpList_append_own _ rfl _ _ 50 rfl w.heap.size 54 i0 (.agg #[.bool false, .int .i64 0, .int .i64 0, .bool false, .int .i64 0, .int .u64 0, .int .i64 0]) 7 56 Try.underlying50 hi hz0 hz1 hz2 rfl (by decide) _ 0 [] rfl (World.ownsRow_made w #[] 0 (Nat.le_refl _) (by decide) rfl) ⟨V, 0, none⟩ l.length cap (l.flatMap sloV) rfl ?c0 ?c1 ?c2 ?c3 ?c4 ?c5 ?_)
  case c0 => exact flat_len sloV 7 (fun _ => rfl) l
  case c1 => exact hV.list (fun _ => rfl)
  case c2 => exact slo_cell
  case c3 => unfold maxLen; omega
  case c4 => omega
  try (case c5 => first | exact Nat.le_refl _ | omega | (simp; done) | (simp; omega))
  intro v1 w1 hown hgrow hnil
  obtain ⟨g', c', rfl, hg', hc'⟩ : ∃ g' c', v1 = .slice (some ⟨g', 0, none⟩) l.length c' ∧ w.heap.size ≤ g' ∧ l.length ≤ c' := by
    rcases hown.2 with ⟨h0, _⟩ | ⟨g', c, cur, he, hle, _, hcc, _⟩
    · exact absurd h0 hnil
    · exact ⟨g', c, he, hle, hcc⟩
  have hb1 : But [] w w1 := hb0.trans (.of_some (S := [w.heap.size]) hgrow (by simp)) (by simp)
  have hR : Slots w1 g' c' l := RowOf.of_owns (f := sloV) (n := 7) (fun _ => rfl) hown rfl
  clear hown hgrow hnil hV
  go_wp2_with fail
  go_ret
  exact ⟨g', c', rfl, hR, hg', hb1⟩

theorem pcopy_nil (w : World) :
    Calls Try.prog 14 #[.pointer none] w fun e w' => e = .returned (.pointer none) ∧ w' = w := by
  go_enter Try.func14, Try.ntmps14
  go_wp2_with fail
  go_ret
  exact ⟨rfl, rfl⟩

/-- What Copy leaves. -/
def CopiedPool (w : World) (T : List (Option Sud)) (F : List Nat) (e : Ending) (w' : World) : Prop := ∃ B V cap, e = .returned (.pointer (some ⟨B, 0, none⟩)) ∧ PoolAt w' B V cap T F ∧ w.heap.size ≤ B ∧ w.heap.size ≤ V ∧ But [] w w'

set_option maxHeartbeats 800000 in
theorem pt_copy {B V cap : Nat} {T : List (Option Sud)} {F : List Nat} (w : World) (h : PoolAt w B V cap T F) :
    Calls Try.prog 14 #[.pointer (some ⟨B, 0, none⟩)] w (CopiedPool w T F) := by
  obtain ⟨l, f, h3, h4, h5⟩ := h.raw
  have hc := h3.cellS
  have hd := h3.cellF
  have hN := h3.cellN
  have hne := h3.ne
  have hBs := h3.ltB
  have hVs := h3.ltV
  have H := Lib.hid (And.intro h (And.intro h3 (And.intro h4 h5)))
  have hb0 : But [] w (w.alloc (.cells #[.slice (some ⟨V, 0, none⟩) l.length cap, .int .i64 (f : Int), .int .i64 (cntTo T T.length : Int)] 52)) := (But.refl _ _).alloc _
  have hcall := clone_slots _ (h3.row.but hb0 (by simp)) h3.len
  clear h h3 h4 h5
  go_enter Try.func14, Try.ntmps14
  go_wp2_with fail
  refine hcall.mono ?_
  rintro e w1 ⟨g, c, rfl, hR, hg, hb1⟩
  have k0 := World.alloc_heap_new w (.cells #[.slice (some ⟨V, 0, none⟩) l.length cap, .int .i64 (f : Int), .int .i64 (cntTo T T.length : Int)] 52)
  have k1 := (hb1.block w.heap.size (by simp) (by simp)).trans k0
  have c0 : w1.cell? ⟨w.heap.size, 0, none⟩ = some (.slice (some ⟨V, 0, none⟩) l.length cap) := by simp [World.cell?, k1]
  have f0 : w1.frozen? ⟨w.heap.size, 0, none⟩ = false := by simp [World.frozen?, k1]
  have hgw : w.heap.size ≠ g := by simp at hg; omega
  have k2 := heap_set_same (k := 0) (.slice (some ⟨g, 0, none⟩) l.length c) k1
  have K := Lib.hid k2
  clear k0 k1 k2
  go_wp2_with fail
  go_ret
  obtain ⟨h, h3, h4, h5⟩ := H.out
  refine ⟨w.heap.size, g, c, rfl, ⟨⟨l, f, ⟨K.out, hR.of_block (Below.heap_setCell w1 _ _ g hgw.symm), h3.first, h3.cnt, h3.len⟩, h4, h5⟩, h.nodup, h.all, h.some, h.sum, h.len⟩, Nat.le_refl _, by simp at hg; omega, (hb0.next hb1).set (p := ⟨w.heap.size, 0, none⟩) (.inr (Nat.le_refl _)) _⟩
end Go.Proofs.Ytmllalmdaobboaa
