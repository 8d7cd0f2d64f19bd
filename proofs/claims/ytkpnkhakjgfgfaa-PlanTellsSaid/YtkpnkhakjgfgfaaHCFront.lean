/-
  The walks of what a channel asks its queues: Front, Row.
-/
import Derived.Test.YtkpnkhakjgfgfaaHCAsk
namespace Go.Proofs.Ytkpnkhakjgfgfaa
open Go.RowKit
open Lq (But I64b)

/-! ### Front -/
/-- What the closure leaves. -/
def Told2 (x y : Nat) (k : Int) (b : Bool) (R : World → Prop) (w' : World) : Prop := Boxed w' x 3 (.int .i64 k) ∧ Boxed w' y 4 (.bool b) ∧ R w'
theorem told2_set {x y : Nat} {k k0 : Int} {b b0 : Bool} {R : World → Prop} {w : World} (hx : Boxed w x 3 (.int .i64 k0)) (hy : Boxed w y 4 (.bool b0)) (hxy : x ≠ y)
    (hR : R ((w.setCell ⟨x, 0, none⟩ (.int .i64 k)).setCell ⟨y, 0, none⟩ (.bool b))) : Told2 x y k b R ((w.setCell ⟨x, 0, none⟩ (.int .i64 k)).setCell ⟨y, 0, none⟩ (.bool b)) := by
  have h1 : But [y] (w.setCell ⟨x, 0, none⟩ (.int .i64 k)) ((w.setCell ⟨x, 0, none⟩ (.int .i64 k)).setCell ⟨y, 0, none⟩ (.bool b)) := (Lq.But.refl [y] _).set (.inl (by simp)) _
  have h2 : But [x] w (w.setCell ⟨x, 0, none⟩ (.int .i64 k)) := (Lq.But.refl [x] w).set (.inl (by simp)) _
  exact ⟨h1.boxed (hx.set _) (by simpa using hxy), (h2.boxed hy (by simpa using hxy.symm)).set _, hR⟩
theorem hfront1_gen {x y : Nat} (o : Option Addr) (k : Int) (b : Bool) (w : World) (hx : Boxed w x 3 (.int .i64 0)) (hy : Boxed w y 4 (.bool false)) (hxy : x ≠ y)
    (hp : Calls Try.prog 47 #[.pointer o] w fun e w' => e = .returned (.tuple #[.int .i64 k, .bool b]) ∧ w' = w) :
    Calls Try.prog 46 #[.pointer o, ptrO x, ptrO y] w fun e w' => e = .returned (.tuple #[]) ∧ Told2 x y k b (fun w' => But [x, y] w w') w' := by
  have hcx := hx.cell
  have hfx := hx.frozen
  have h2 : But [x] w (w.setCell ⟨x, 0, none⟩ (.int .i64 k)) := (Lq.But.refl [x] w).set (.inl (by simp)) _
  have hy1 := h2.boxed hy (by simpa using hxy.symm)
  have hcy0 := hy.cell
  have hfy0 := hy.frozen
  have hcy := hy1.cell
  have hfy := hy1.frozen
  have hb : But [x, y] w ((w.setCell ⟨x, 0, none⟩ (.int .i64 k)).setCell ⟨y, 0, none⟩ (.bool b)) := ((Lq.But.refl [x, y] w).set (.inl (by simp)) _).set (.inl (by simp)) _
  have ht := told2_set (k := k) (b := b) (R := fun w' => But [x, y] w w') hx hy hxy hb
  clear hx hy h2 hy1 hb
  go_enter Try.func46, Try.ntmps46
  go_wp2_with fail
  refine hp.mono ?_
  rintro e w1 ⟨rfl, rfl⟩
  clear hp
  go_wp2_with fail
  go_end0
  exact ⟨rfl, ht⟩
set_option maxRecDepth 100000 in
theorem hfront_of (o : Option Addr) (send : Bool) (k : Int) (b : Bool) (R : World → Prop) (w : World)
    (hq : Calls Try.prog 37 #[.pointer o, .bool send, .func (.func 46) #[] #[ptrO w.heap.size, ptrO (w.heap.size + 1)]] ((w.alloc (.cells #[.int .i64 0] 3)).alloc (.cells #[.bool false] 4)) fun e w' => e = .returned (.tuple #[]) ∧ Told2 w.heap.size (w.heap.size + 1) k b R w') :
    Calls Try.prog 29 #[.pointer o, .bool send] w fun e w' => e = .returned (.tuple #[.int .i64 k, .bool b]) ∧ ∃ w1, But [w.heap.size, w.heap.size + 1] w1 w' ∧ R w1 := by
  go_enter Try.func29, Try.ntmps29
  go_wp2_with fail
  refine hq.mono ?_
  rintro e w1 ⟨rfl, hx, hy, hR⟩
  have hne : w.heap.size ≠ w.heap.size + 1 := by omega
  have hne' : w.heap.size + 1 ≠ w.heap.size := by omega
  have hcx := hx.cell
  have hfx := hx.frozen
  have hcy := hy.cell
  have hfy := hy.frozen
  have H2 := told2_set (k := k) (b := b) (R := fun _ => True) hx hy hne trivial
  have c2 := H2.1.cell
  have d2 := H2.2.1.cell
  have HB : Hid (But [w.heap.size, w.heap.size + 1] w1 ((w1.setCell ⟨w.heap.size, 0, none⟩ (.int .i64 k)).setCell ⟨w.heap.size + 1, 0, none⟩ (.bool b)).drew) := Lib.hid (((Lq.But.refl [w.heap.size, w.heap.size + 1] w1).set (.inl (by simp)) _).set (.inl (by simp)) _).drew
  clear hq hx hy H2
  go_wp2_with fail
  go_region
  go_wp2_with fail
  have c3 : (((w1.setCell ⟨w.heap.size, 0, none⟩ (.int .i64 k)).setCell ⟨w.heap.size + 1, 0, none⟩ (.bool b)).drew).cell? ⟨w.heap.size, 0, none⟩ = some (.int .i64 k) := c2
  have d3 : (((w1.setCell ⟨w.heap.size, 0, none⟩ (.int .i64 k)).setCell ⟨w.heap.size + 1, 0, none⟩ (.bool b)).drew).cell? ⟨w.heap.size + 1, 0, none⟩ = some (.bool b) := d2
  generalize ((w1.setCell ⟨w.heap.size, 0, none⟩ (.int .i64 k)).setCell ⟨w.heap.size + 1, 0, none⟩ (.bool b)).drew = W5 at c3 d3 HB ⊢
  exact bodyPost_ret (v := .tuple #[.int .i64 k, .bool b]) (by simp [results, Try.f29, go_sem, c3, d3]) rfl ⟨rfl, w1, HB.out, hR⟩
theorem boxes2 (w : World) : But [] w ((w.alloc (.cells #[.int .i64 0] 3)).alloc (.cells #[.bool false] 4)) ∧ Boxed ((w.alloc (.cells #[.int .i64 0] 3)).alloc (.cells #[.bool false] 4)) w.heap.size 3 (.int .i64 0) ∧ Boxed ((w.alloc (.cells #[.int .i64 0] 3)).alloc (.cells #[.bool false] 4)) (w.heap.size + 1) 4 (.bool false) := by
  have b0 := Boxed.new w 3 (.int .i64 0)
  have b1 := Boxed.new (w.alloc (.cells #[.int .i64 0] 3)) 4 (.bool false)
  rw [World.size_alloc] at b1
  have g1 : But [] (w.alloc (.cells #[.int .i64 0] 3)) ((w.alloc (.cells #[.int .i64 0] 3)).alloc (.cells #[.bool false] 4)) := (Lq.But.refl _ _).alloc _
  exact ⟨((Lq.But.refl _ _).alloc _).next g1, g1.boxed b0 (by simp), b1⟩
theorem hfront_any {p : Pl} {h : Hs} (send : Bool) (w : World) (H : Hch w p h) :
    Calls Try.prog 29 #[ptrO p.C, .bool send] w fun e w' => e = .returned (.tuple #[.int .i64 (((h.q send)[0]?).getD 0), .bool ((h.q send)[0]?).isSome]) ∧ But [] w w' := by
  obtain ⟨g, bx, by'⟩ := boxes2 w
  have H2 := H.fresh g
  refine (hfront_of (some ⟨p.C, 0, none⟩) send (((h.q send)[0]?).getD 0) ((h.q send)[0]?).isSome (fun w' => But [w.heap.size, w.heap.size + 1] w w') w ?_).mono ?_
  · refine queue_any 46 [ptrO w.heap.size, ptrO (w.heap.size + 1)] send _ _ H2 (enters_of Try.func46 (by kernel_rfl) rfl) (fun W hW => ?_)
    refine (hfront1_gen (some ⟨p.q send, 0, none⟩) _ _ W (hW.boxed bx (by simp)) (hW.boxed by' (by simp)) (by omega) (Lq.front_any W ((H2.fresh hW).que send))).mono ?_
    rintro e w' ⟨rfl, hx, hy, hb⟩
    exact ⟨rfl, hx, hy, ((g.next hW).mono (by simp)).next hb⟩
  · rintro e w' ⟨rfl, w1, hb, hR⟩
    exact ⟨rfl, but_new (n := w.heap.size) (but_new (n := w.heap.size + 1) ((hR.next hb).mono (by simp)) (by omega)) (Nat.le_refl _)⟩
theorem hfront_nil (send : Bool) (w : World) :
    Calls Try.prog 29 #[.pointer none, .bool send] w fun e w' => e = .returned (.tuple #[.int .i64 0, .bool false]) ∧ But [] w w' := by
  obtain ⟨g, bx, by'⟩ := boxes2 w
  refine (hfront_of none send 0 false (fun w' => But [w.heap.size, w.heap.size + 1] w w') w ?_).mono ?_
  · refine queue_nil 46 [ptrO w.heap.size, ptrO (w.heap.size + 1)] send _ _ (enters_of Try.func46 (by kernel_rfl) rfl) (fun W hW => ?_)
    refine (hfront1_gen none _ _ W (hW.boxed bx (by simp)) (hW.boxed by' (by simp)) (by omega) (Lq.front_nil W)).mono ?_
    rintro e w' ⟨rfl, hx, hy, hb⟩
    exact ⟨rfl, hx, hy, ((g.next hW).mono (by simp)).next hb⟩
  · rintro e w' ⟨rfl, w1, hb, hR⟩
    exact ⟨rfl, but_new (n := w.heap.size) (but_new (n := w.heap.size + 1) ((hR.next hb).mono (by simp)) (by omega)) (Nat.le_refl _)⟩

/-! ### Row -/
end Go.Proofs.Ytkpnkhakjgfgfaa
