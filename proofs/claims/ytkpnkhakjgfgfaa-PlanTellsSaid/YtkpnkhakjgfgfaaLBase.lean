/-
  A queue in memory; the walks of told, Front, Has, Next, Len, New.
-/
import Derived.Test.YtkpnkhakjgfgfaaLPure
namespace Go.Proofs.Ytkpnkhakjgfgfaa.Lq
open Go.RowKit

/-- Block B is a queue: its map in block M, the first one, the last one. -/
structure Lst (W : World) (B M : Nat) (g : Gs) (f l : Int) (c : Nat) : Prop where
  head : W.heap[B]? = some (.cells #[.map (some M), .int .i64 f, .int .i64 l] 99 (0, 0))
  map : MapAt W M g c
section
variable {W W' : World} {B M c : Nat} {g : Gs} {f l : Int}
theorem Lst.ltB (h : Lst W B M g f l c) : B < W.heap.size := (Array.getElem?_eq_some_iff.1 h.head).1
theorem Lst.ne (h : Lst W B M g f l c) : B ≠ M := map_ne h.map h.head
theorem Lst.cellM (h : Lst W B M g f l c) : W.cell? ⟨B, 0, none⟩ = some (.map (some M)) := by simp [World.cell?, h.head]
theorem Lst.cellF (h : Lst W B M g f l c) : W.cell? ⟨B, 1, none⟩ = some (.int .i64 f) := by simp [World.cell?, h.head]
theorem Lst.cellL (h : Lst W B M g f l c) : W.cell? ⟨B, 2, none⟩ = some (.int .i64 l) := by simp [World.cell?, h.head]
theorem Lst.frozen (h : Lst W B M g f l c) (k : Nat) : W.frozen? ⟨B, k, none⟩ = false := by simp [World.frozen?, h.head]
theorem Lst.but (h : Lst W B M g f l c) {S : List Nat} (hb : But S W W') (h1 : B ∉ S) (h2 : M ∉ S) : Lst W' B M g f l c := ⟨(hb.block B h.ltB h1).trans h.head, h.map.but hb h2⟩
theorem Lst.setF (h : Lst W B M g f l c) (x : Int) : Lst (W.setCell ⟨B, 1, none⟩ (.int .i64 x)) B M g x l c :=
  ⟨heap_set_same _ h.head, h.map.of_block (Below.heap_setCell W _ _ M h.ne.symm)⟩
theorem Lst.setL (h : Lst W B M g f l c) (x : Int) : Lst (W.setCell ⟨B, 2, none⟩ (.int .i64 x)) B M g f x c :=
  ⟨heap_set_same _ h.head, h.map.of_block (Below.heap_setCell W _ _ M h.ne.symm)⟩
theorem Lst.mapped (h : Lst W B M g f l c) {g' : Gs} {c' : Nat} (hm : MapAt W' M g' c') (hb : But [M] W W') : Lst W' B M g' f l c' :=
  ⟨(hb.block B h.ltB (by simp [h.ne])).trans h.head, hm⟩
end

theorem told_none (w : World) :
    Calls Try.prog 59 #[.int .i64 (-1)] w fun e w' => e = .returned (.tuple #[.int .i64 0, .bool false]) ∧ w' = w := by
  go_enter Try.func59, Try.ntmps59
  go_wp2_with fail
  go_ret2
  exact ⟨rfl, rfl⟩
theorem told_some (v : Int) (h : v ≠ -1) (w : World) :
    Calls Try.prog 59 #[.int .i64 v] w fun e w' => e = .returned (.tuple #[.int .i64 v, .bool true]) ∧ w' = w := by
  have h1 : (v == -1) = false := by simpa using h
  go_enter Try.func59, Try.ntmps59
  go_wp2_with fail
  go_ret2
  exact ⟨rfl, rfl⟩
theorem told_any (o : Option Int) (h : ∀ v, o = some v → v ≠ -1) (w : World) :
    Calls Try.prog 59 #[.int .i64 (o.getD (-1))] w fun e w' => e = .returned (.tuple #[.int .i64 (o.getD 0), .bool o.isSome]) ∧ w' = w := by
  cases o with
  | none => exact told_none w
  | some v => exact told_some v (h v rfl) w

theorem front_nil (w : World) :
    Calls Try.prog 47 #[.pointer none] w fun e w' => e = .returned (.tuple #[.int .i64 0, .bool false]) ∧ w' = w := by
  go_enter Try.func47, Try.ntmps47
  go_wp2_with fail
  go_ret2
  exact ⟨rfl, rfl⟩
theorem front_raw {B M c : Nat} {g : Gs} {l : Int} (o : Option Int) (ho : ∀ v, o = some v → v ≠ -1) (w : World) (h : Lst w B M g (o.getD (-1)) l c) :
    Calls Try.prog 47 #[.pointer (some ⟨B, 0, none⟩)] w fun e w' => e = .returned (.tuple #[.int .i64 (o.getD 0), .bool o.isSome]) ∧ w' = w := by
  have hc := h.cellF
  have ht := told_any o ho w
  clear h
  go_enter Try.func47, Try.ntmps47
  go_wp2_with fail
  refine ht.mono ?_
  rintro e w' ⟨rfl, rfl⟩
  go_wp2_with fail
  go_ret2
  exact ⟨rfl, rfl⟩

theorem has_nil (i : Int) (w : World) :
    Calls Try.prog 55 #[.pointer none, .int .i64 i] w fun e w' => e = .returned (.bool false) ∧ But [] w w' := by
  go_enter Try.func55, Try.ntmps55
  go_wp2_with fail
  go_ret
  exact ⟨rfl, But.refl _ _⟩
theorem has_raw {B M c : Nat} {g : Gs} {f l : Int} (i : Int) (hi : I64b i) (w : World) (h : Lst w B M g f l c) :
    Calls Try.prog 55 #[.pointer (some ⟨B, 0, none⟩), .int .i64 i] w fun e w' => e = .returned (.bool (g i).isSome) ∧ But [] w w' := by
  have hc := h.cellM
  have hl := h.map.look hi
  simp only [linkV] at hl
  generalize (g i).isSome = b at hl ⊢
  generalize (g i).getD (0, 0) = x at hl
  obtain ⟨x, y⟩ := x
  clear h
  go_enter Try.func55, Try.ntmps55
  go_wp2_with fail
  go_ret
  exact ⟨rfl, (But.refl _ _).alloc _⟩

theorem link_snd (a b : Int) (w : World) : (Instr.field 104 (.agg #[.int .i64 a, .int .i64 b]) 1).run Try.prog w = .ok (.int .i64 b) w := by kernel_rfl
theorem new_any (w : World) :
    Calls Try.prog 35 #[] w fun e w' => e = .returned (.pointer (some ⟨w.heap.size + 1, 0, none⟩)) ∧ Lst w' (w.heap.size + 1) w.heap.size (fun _ => none) (-1) (-1) 0 ∧ But [] w w' := by
  have hmm := @run_makeMap Try.prog
  go_enter Try.func35, Try.ntmps35
  go_wp2_with fail
  go_ret
  have h0 := mapAt_made w
  have hb : But [] (w.alloc (.map #[] 0)) ((w.alloc (.map #[] 0)).alloc (.cells #[.map (some w.heap.size), .int .i64 (-1), .int .i64 (-1)] 99)) := (But.refl _ _).alloc _
  have e : (w.alloc (.map #[] 0)).heap.size = w.heap.size + 1 := by simp
  have hh := (MapKept.heap_alloc (w.alloc (.map #[] 0)) (.cells #[.map (some w.heap.size), .int .i64 (-1), .int .i64 (-1)] 99)).1
  rw [e] at hh
  exact ⟨by simp, ⟨hh, h0.but hb (by simp)⟩, ((But.refl _ _).alloc _).next hb⟩
end Go.Proofs.Ytkpnkhakjgfgfaa.Lq
