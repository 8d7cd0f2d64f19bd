/-
  The walk of fifo.Copy.
-/
import Derived.Deep.WholeRow
import Derived.Deep.Cut
import Derived.Test.YtfdinodcbeipcaaFPush
namespace Go.Proofs.Ytfdinodcbeipcaa
open Go.RowKit

/-- A whole struct, stored into the block that was made last, at the operation. -/
theorem wpList_store_new {P : Program} {ops : Array Oper} {rest : List Oper} {o : Oper} {a : Act} {w : World} {Q : Exit → Act → World → Prop} (hgd : o.guard = none) (ty : TypeId) (x v : Operand) (ho : o.op = .store ty x v)
    (c c' : Array Value) (hx : a.eval x = .pointer (some ⟨w.heap.size, 0, none⟩)) (hv : a.eval v = .agg c') (hi : (P.info? ty).map (·.size) = some c'.size) (hc : c.size = c'.size) (h1 : c'.all (·.oneCell') = true)
    (h : wpList P ops Q rest (a.put o.dst undef) (w.alloc (.cells c' ty))) : wpList P ops Q (o :: rest) a (w.alloc (.cells c ty)) := by
  refine wpList_plain hgd fun K' hK' => ?_
  have hrun := run_storeAt_new (P := P) w ty c c' hi hc h1
  unfold Oper.wp
  simp [execOp, ho, hx, hv, hrun, Result.andThen]
  exact hK' _ _ h

set_option maxRecDepth 100000 in
set_option maxHeartbeats 1600000 in
theorem copy_raw {B m n f : Nat} {vs : List Int} (w : World) (hr : RawAt w B vs f n m) :
    Calls Try.prog 36 #[.pointer (some ⟨B, 0, none⟩)] w fun e w' => e = .returned (.pointer (some ⟨w.heap.size, 0, none⟩)) ∧ w' = w.alloc (.cells (I64 vs ++ tail3 f n m).toArray 63) := by
  have hsz : (Try.prog.info? 63).map (·.size) = some 35 := by kernel_rfl
  have hlen : (I64 vs ++ tail3 f n m).toArray.size = 35 := by simp [I64_len, hr.1, tail3]
  have hall : (I64 vs ++ tail3 f n m).toArray.all (·.oneCell') = true := by
    simp [I64, tail3, Value.oneCell']
  have hg := Lib.hid hr.2
  have hH := Lib.hid hlen
  have hA := Lib.hid hall
  clear hr hlen hall
  generalize (I64 vs ++ tail3 f n m).toArray = cs at hg hH hA ⊢
  go_enter Try.func36, Try.ntmps36
  go_upto_region 3 with fail
  iterate 7 go_step
  refine wpList_load_row rfl 63 (.tmp 7) rfl B rfl 63 cs (0, 0) _ hg.out Try.underlying63 rfl (by rw [hH.out]; exact hsz) ?_
  iterate 3 go_step
  refine wpList_store_new rfl 63 (.tmp 3) (.tmp 8) rfl _ cs rfl rfl (by rw [hH.out]; exact hsz) (by rw [hH.out]; rfl) hA.out ?_
  clear hsz
  go_wp2_with fail
  go_ret
  exact ⟨rfl, rfl⟩
theorem copy_any {B m : Nat} {l : List Int} (w : World) (h : Fif w B m l) :
    Calls Try.prog 36 #[.pointer (some ⟨B, 0, none⟩)] w fun e w' => e = .returned (.pointer (some ⟨w.heap.size, 0, none⟩)) ∧ Fif w' w.heap.size m l ∧ But [] w w' := by
  obtain ⟨vs, f, hr, hl, hf⟩ := h.raw
  refine (copy_raw w hr).mono ?_
  rintro e w' ⟨rfl, rfl⟩
  exact ⟨rfl, ⟨⟨vs, f, ⟨hr.1, World.alloc_heap_new w _⟩, hl, hf⟩, h.le, h.most, h.nd, h.rng⟩, (But.refl _ _).alloc _⟩
end Go.Proofs.Ytfdinodcbeipcaa
