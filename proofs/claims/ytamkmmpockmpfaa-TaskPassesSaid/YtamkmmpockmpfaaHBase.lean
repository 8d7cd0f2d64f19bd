/-
  Frames in memory; a whole struct that is stored; the walks of frame.At, Check, Begin, Spawn, arrived and of the tests on registers.
-/
import Derived.Laws.Rows
import Derived.Laws.Tables
import Derived.Test.YtamkmmpockmpfaaHPure
namespace Go.Proofs.Ytamkmmpockmpfaa
open Go.RowKit

/-- Block B is the frame f. -/
abbrev FrAt (W : World) (B : Nat) (f : Fra) : Prop := Blk W B 38 (fraA f)
section
variable {W : World} {B : Nat} {f : Fra}
theorem fra_cells {t : TypeId} (h : Blk W B t (fraA f)) : W.cell? ⟨B, 0, none⟩ = some (.int .i64 f.c) ∧ W.cell? ⟨B, 1, none⟩ = some (.int .i64 f.p) ∧ W.cell? ⟨B, 2, none⟩ = some (.int .i64 f.r0) ∧ W.cell? ⟨B, 3, none⟩ = some (.int .i64 f.r1) ∧ W.cell? ⟨B, 4, none⟩ = some (.int .i64 f.r2) ∧ W.cell? ⟨B, 5, none⟩ = some (.int .i64 f.r3) ∧ W.cell? ⟨B, 6, none⟩ = some (.int .i64 f.r4) ∧ W.cell? ⟨B, 7, none⟩ = some (.int .i64 f.r5) ∧ W.cell? ⟨B, 8, none⟩ = some (.int .i64 f.r6) ∧ W.cell? ⟨B, 9, none⟩ = some (.int .i64 f.r7) := ⟨h.cell rfl, h.cell rfl, h.cell rfl, h.cell rfl, h.cell rfl, h.cell rfl, h.cell rfl, h.cell rfl, h.cell rfl, h.cell rfl⟩
theorem reg_cells {t : TypeId} (h : Blk W B t (regA f)) : W.cell? ⟨B, 0, none⟩ = some (.int .i64 f.r0) ∧ W.cell? ⟨B, 1, none⟩ = some (.int .i64 f.r1) ∧ W.cell? ⟨B, 2, none⟩ = some (.int .i64 f.r2) ∧ W.cell? ⟨B, 3, none⟩ = some (.int .i64 f.r3) ∧ W.cell? ⟨B, 4, none⟩ = some (.int .i64 f.r4) ∧ W.cell? ⟨B, 5, none⟩ = some (.int .i64 f.r5) ∧ W.cell? ⟨B, 6, none⟩ = some (.int .i64 f.r6) ∧ W.cell? ⟨B, 7, none⟩ = some (.int .i64 f.r7) := ⟨h.cell rfl, h.cell rfl, h.cell rfl, h.cell rfl, h.cell rfl, h.cell rfl, h.cell rfl, h.cell rfl⟩
end
theorem ins_cells {W : World} {B : Nat} {t : TypeId} {x : In} (h : Blk W B t x.cellsL.toArray) : W.cell? ⟨B, 0, none⟩ = some (.int .u8 (x.o : Int)) ∧ W.cell? ⟨B, 1, none⟩ = some (.int .i64 x.a) ∧ W.cell? ⟨B, 2, none⟩ = some (.int .i64 x.b) ∧ W.cell? ⟨B, 3, none⟩ = some (.int .i64 x.c) ∧ W.cell? ⟨B, 4, none⟩ = some (.int .i64 x.k) := ⟨h.cell rfl, h.cell rfl, h.cell rfl, h.cell rfl, h.cell rfl⟩
theorem cas_cells {W : World} {B : Nat} {t : TypeId} {x : Cas} (h : Blk W B t x.cellsL.toArray) : W.cell? ⟨B, 0, none⟩ = some (.bool x.s) ∧ W.cell? ⟨B, 1, none⟩ = some (.int .i64 x.c) ∧ W.cell? ⟨B, 2, none⟩ = some (.int .i64 x.v) ∧ W.cell? ⟨B, 3, none⟩ = some (.int .i64 x.o) := ⟨h.cell rfl, h.cell rfl, h.cell rfl, h.cell rfl⟩

/-- What is stored whole: the block has it; all others stay. -/
theorem setRow_put {w : World} {g : Nat} {t : TypeId} {old cs : Array Value} (hg : Blk w g t old) : Blk (w.setRow g cs) g t cs ∧ But [g] w (w.setRow g cs) := by
  refine ⟨setRow_heap w g old cs t (0, 0) hg, ⟨rfl, rfl, rfl, by simp [World.setRow], fun k hk hn => ?_⟩⟩
  have hne : g ≠ k := fun e => hn (by simp [e])
  simp only [World.setRow, Array.getElem?_modify, if_neg hne]
theorem wpList_put {P : Program} {ops : Array Oper} {rest : List Oper} {o : Oper} {a : Act} {w : World} {Q : Exit → Act → World → Prop} (hgd : o.guard = none) (ty : TypeId) (x y : Operand) (ho : o.op = .store ty x y)
    (g : Nat) (cs : Array Value) (hx : a.eval x = .pointer (some ⟨g, 0, none⟩)) (hy : a.eval y = .agg cs) {t : TypeId} {old : Array Value} (hg : Blk w g t old) (hi : (P.info? ty).map (·.size) = some cs.size)
    (hold : old.size = cs.size) (h1 : cs.all (·.oneCell') = true)
    (h : ∀ W', Blk W' g t cs → But [g] w W' → wpList P ops Q rest (a.put o.dst undef) W') : wpList P ops Q (o :: rest) a w :=
  wpList_store_row hgd ty x y ho g cs hx hy t old hg hi hold h1 (h _ (setRow_put hg).1 (setRow_put hg).2)
theorem szFra : (Try.prog.info? 38).map (·.size) = some 10 := by kernel_rfl
theorem szIns : (Try.prog.info? 77).map (·.size) = some 5 := by kernel_rfl
theorem but_on {t : TypeId} {W W' : World} {B g : Nat} {cs : Array Value} (h : Blk W B t cs) (hb : But [g] W W') (hn : B ≠ g) : Blk W' B t cs := (hb.block B h.lt (by simpa using hn)).trans h
theorem below_but {n : Nat} {w W W' : World} {g : Nat} (h : Below n w W) (hb : But [g] W W') (hn : n ≤ w.heap.size) (hg : n ≤ g) : Below n w W' :=
  h.trans (hb.below (Nat.le_trans hn h.size) (by simpa using hg))
theorem below3 (w : World) (o1 o2 o3 : Obj) : Below w.heap.size w (((w.alloc o1).alloc o2).alloc o3) := (below2 w o1 o2).alloc (by simp; omega) _


theorem rows2 {α : Type} (x0 x1 a0 a1 : α) : ((((#[x0, x1] : Array α)).setIfInBounds 0 a0).setIfInBounds 1 a1) = #[a0, a1] := by
  simp
theorem sto2 {W : World} {B : Nat} {t : TypeId} {x0 x1 : Value} (h : Blk W B t #[x0, x1]) (a0 a1 : Value) :
    Blk ((W.setCell ⟨B, 0, none⟩ a0).setCell ⟨B, 1, none⟩ a1) B t #[a0, a1] ∧ But [B] W ((W.setCell ⟨B, 0, none⟩ a0).setCell ⟨B, 1, none⟩ a1) := by
  have hm : B ∈ [B] := by simp
  refine ⟨?_, (((But.refl [B] W).set (.inl hm) _).set (.inl hm) _)⟩
  rw [← rows2 x0 x1 a0 a1]
  exact ((h.set 0 a0).set 1 a1)
theorem rows3 {α : Type} (x0 x1 x2 a0 a1 a2 : α) : (((((#[x0, x1, x2] : Array α)).setIfInBounds 0 a0).setIfInBounds 1 a1).setIfInBounds 2 a2) = #[a0, a1, a2] := by
  simp
theorem sto3 {W : World} {B : Nat} {t : TypeId} {x0 x1 x2 : Value} (h : Blk W B t #[x0, x1, x2]) (a0 a1 a2 : Value) :
    Blk (((W.setCell ⟨B, 0, none⟩ a0).setCell ⟨B, 1, none⟩ a1).setCell ⟨B, 2, none⟩ a2) B t #[a0, a1, a2] ∧ But [B] W (((W.setCell ⟨B, 0, none⟩ a0).setCell ⟨B, 1, none⟩ a1).setCell ⟨B, 2, none⟩ a2) := by
  have hm : B ∈ [B] := by simp
  refine ⟨?_, ((((But.refl [B] W).set (.inl hm) _).set (.inl hm) _).set (.inl hm) _)⟩
  rw [← rows3 x0 x1 x2 a0 a1 a2]
  exact (((h.set 0 a0).set 1 a1).set 2 a2)
theorem rows4 {α : Type} (x0 x1 x2 x3 a0 a1 a2 a3 : α) : ((((((#[x0, x1, x2, x3] : Array α)).setIfInBounds 0 a0).setIfInBounds 1 a1).setIfInBounds 2 a2).setIfInBounds 3 a3) = #[a0, a1, a2, a3] := by
  simp
theorem sto4 {W : World} {B : Nat} {t : TypeId} {x0 x1 x2 x3 : Value} (h : Blk W B t #[x0, x1, x2, x3]) (a0 a1 a2 a3 : Value) :
    Blk ((((W.setCell ⟨B, 0, none⟩ a0).setCell ⟨B, 1, none⟩ a1).setCell ⟨B, 2, none⟩ a2).setCell ⟨B, 3, none⟩ a3) B t #[a0, a1, a2, a3] ∧ But [B] W ((((W.setCell ⟨B, 0, none⟩ a0).setCell ⟨B, 1, none⟩ a1).setCell ⟨B, 2, none⟩ a2).setCell ⟨B, 3, none⟩ a3) := by
  have hm : B ∈ [B] := by simp
  refine ⟨?_, (((((But.refl [B] W).set (.inl hm) _).set (.inl hm) _).set (.inl hm) _).set (.inl hm) _)⟩
  rw [← rows4 x0 x1 x2 x3 a0 a1 a2 a3]
  exact ((((h.set 0 a0).set 1 a1).set 2 a2).set 3 a3)
theorem rows5 {α : Type} (x0 x1 x2 x3 x4 a0 a1 a2 a3 a4 : α) : (((((((#[x0, x1, x2, x3, x4] : Array α)).setIfInBounds 0 a0).setIfInBounds 1 a1).setIfInBounds 2 a2).setIfInBounds 3 a3).setIfInBounds 4 a4) = #[a0, a1, a2, a3, a4] := by
  simp
theorem sto5 {W : World} {B : Nat} {t : TypeId} {x0 x1 x2 x3 x4 : Value} (h : Blk W B t #[x0, x1, x2, x3, x4]) (a0 a1 a2 a3 a4 : Value) :
    Blk (((((W.setCell ⟨B, 0, none⟩ a0).setCell ⟨B, 1, none⟩ a1).setCell ⟨B, 2, none⟩ a2).setCell ⟨B, 3, none⟩ a3).setCell ⟨B, 4, none⟩ a4) B t #[a0, a1, a2, a3, a4] ∧ But [B] W (((((W.setCell ⟨B, 0, none⟩ a0).setCell ⟨B, 1, none⟩ a1).setCell ⟨B, 2, none⟩ a2).setCell ⟨B, 3, none⟩ a3).setCell ⟨B, 4, none⟩ a4) := by
  have hm : B ∈ [B] := by simp
  refine ⟨?_, ((((((But.refl [B] W).set (.inl hm) _).set (.inl hm) _).set (.inl hm) _).set (.inl hm) _).set (.inl hm) _)⟩
  rw [← rows5 x0 x1 x2 x3 x4 a0 a1 a2 a3 a4]
  exact (((((h.set 0 a0).set 1 a1).set 2 a2).set 3 a3).set 4 a4)
theorem rows8 {α : Type} (x0 x1 x2 x3 x4 x5 x6 x7 a0 a1 a2 a3 a4 a5 a6 a7 : α) : ((((((((((#[x0, x1, x2, x3, x4, x5, x6, x7] : Array α)).setIfInBounds 0 a0).setIfInBounds 1 a1).setIfInBounds 2 a2).setIfInBounds 3 a3).setIfInBounds 4 a4).setIfInBounds 5 a5).setIfInBounds 6 a6).setIfInBounds 7 a7) = #[a0, a1, a2, a3, a4, a5, a6, a7] := by
  simp
theorem sto8 {W : World} {B : Nat} {t : TypeId} {x0 x1 x2 x3 x4 x5 x6 x7 : Value} (h : Blk W B t #[x0, x1, x2, x3, x4, x5, x6, x7]) (a0 a1 a2 a3 a4 a5 a6 a7 : Value) :
    Blk ((((((((W.setCell ⟨B, 0, none⟩ a0).setCell ⟨B, 1, none⟩ a1).setCell ⟨B, 2, none⟩ a2).setCell ⟨B, 3, none⟩ a3).setCell ⟨B, 4, none⟩ a4).setCell ⟨B, 5, none⟩ a5).setCell ⟨B, 6, none⟩ a6).setCell ⟨B, 7, none⟩ a7) B t #[a0, a1, a2, a3, a4, a5, a6, a7] ∧ But [B] W ((((((((W.setCell ⟨B, 0, none⟩ a0).setCell ⟨B, 1, none⟩ a1).setCell ⟨B, 2, none⟩ a2).setCell ⟨B, 3, none⟩ a3).setCell ⟨B, 4, none⟩ a4).setCell ⟨B, 5, none⟩ a5).setCell ⟨B, 6, none⟩ a6).setCell ⟨B, 7, none⟩ a7) := by
  have hm : B ∈ [B] := by simp
  refine ⟨?_, (((((((((But.refl [B] W).set (.inl hm) _).set (.inl hm) _).set (.inl hm) _).set (.inl hm) _).set (.inl hm) _).set (.inl hm) _).set (.inl hm) _).set (.inl hm) _)⟩
  rw [← rows8 x0 x1 x2 x3 x4 x5 x6 x7 a0 a1 a2 a3 a4 a5 a6 a7]
  exact ((((((((h.set 0 a0).set 1 a1).set 2 a2).set 3 a3).set 4 a4).set 5 a5).set 6 a6).set 7 a7)
theorem rows10 {α : Type} (x0 x1 x2 x3 x4 x5 x6 x7 x8 x9 a0 a1 a2 a3 a4 a5 a6 a7 a8 a9 : α) : ((((((((((((#[x0, x1, x2, x3, x4, x5, x6, x7, x8, x9] : Array α)).setIfInBounds 0 a0).setIfInBounds 1 a1).setIfInBounds 2 a2).setIfInBounds 3 a3).setIfInBounds 4 a4).setIfInBounds 5 a5).setIfInBounds 6 a6).setIfInBounds 7 a7).setIfInBounds 8 a8).setIfInBounds 9 a9) = #[a0, a1, a2, a3, a4, a5, a6, a7, a8, a9] := by
  simp
theorem sto10 {W : World} {B : Nat} {t : TypeId} {x0 x1 x2 x3 x4 x5 x6 x7 x8 x9 : Value} (h : Blk W B t #[x0, x1, x2, x3, x4, x5, x6, x7, x8, x9]) (a0 a1 a2 a3 a4 a5 a6 a7 a8 a9 : Value) :
    Blk ((((((((((W.setCell ⟨B, 0, none⟩ a0).setCell ⟨B, 1, none⟩ a1).setCell ⟨B, 2, none⟩ a2).setCell ⟨B, 3, none⟩ a3).setCell ⟨B, 4, none⟩ a4).setCell ⟨B, 5, none⟩ a5).setCell ⟨B, 6, none⟩ a6).setCell ⟨B, 7, none⟩ a7).setCell ⟨B, 8, none⟩ a8).setCell ⟨B, 9, none⟩ a9) B t #[a0, a1, a2, a3, a4, a5, a6, a7, a8, a9] ∧ But [B] W ((((((((((W.setCell ⟨B, 0, none⟩ a0).setCell ⟨B, 1, none⟩ a1).setCell ⟨B, 2, none⟩ a2).setCell ⟨B, 3, none⟩ a3).setCell ⟨B, 4, none⟩ a4).setCell ⟨B, 5, none⟩ a5).setCell ⟨B, 6, none⟩ a6).setCell ⟨B, 7, none⟩ a7).setCell ⟨B, 8, none⟩ a8).setCell ⟨B, 9, none⟩ a9) := by
  have hm : B ∈ [B] := by simp
  refine ⟨?_, (((((((((((But.refl [B] W).set (.inl hm) _).set (.inl hm) _).set (.inl hm) _).set (.inl hm) _).set (.inl hm) _).set (.inl hm) _).set (.inl hm) _).set (.inl hm) _).set (.inl hm) _).set (.inl hm) _)⟩
  rw [← rows10 x0 x1 x2 x3 x4 x5 x6 x7 x8 x9 a0 a1 a2 a3 a4 a5 a6 a7 a8 a9]
  exact ((((((((((h.set 0 a0).set 1 a1).set 2 a2).set 3 a3).set 4 a4).set 5 a5).set 6 a6).set 7 a7).set 8 a8).set 9 a9)
set_option maxRecDepth 100000 in
set_option maxHeartbeats 800000 in
theorem fat_any {lo hi : Nat} {v1 v2 v3 : Value} {p : Prg} (w : World) (h : PrgAt lo hi w v1 v2 v3 p) (hs : Small p) (f : Fra) :
    Calls Try.prog 39 #[.agg #[v1, v2, v3], fraV f] w (AtPost w (atF p f)) := by
  obtain ⟨wf, hwf⟩ : ∃ wf, wf = ((w.alloc (.cells #[v1, v2, v3] 26)).alloc (.cells (fraA f) 38)).alloc (.cells #[.int .u8 0, .int .i64 0, .int .i64 0, .int .i64 0, .int .i64 0] 77) := ⟨_, rfl⟩
  have hB : Below w.heap.size w wf := by rw [hwf]; exact below3 w _ _ _
  have hZ : Blk wf (w.heap.size + 1 + 1) 77 #[.int .u8 0, .int .i64 0, .int .i64 0, .int .i64 0, .int .i64 0] := by rw [hwf]; exact blk_at (by simp)
  have hc := at_any wf (h.later hB) hs f.c f.p
  go_enter Try.func39, Try.ntmps39
  go_wp2_with fail
  rw [← hwf]
  clear hwf
  refine hc.mono ?_
  rintro e w1 ⟨rfl, hb⟩
  have hB1 := below_next hB hb (Nat.le_refl _)
  have hZ1 := hZ.later hb hZ.lt
  have hr := Lib.hid (show atIn p f.c f.p = atF p f from rfl)
  obtain ⟨y, hy⟩ : ∃ y, y = (atIn p f.c f.p).getD In.zero := ⟨_, rfl⟩
  rw [← hy]
  have HY := Lib.hid hy
  clear hc hZ hb hB hy
  obtain ⟨z0, z1, z2, z3, z4⟩ := ins_cells (x := In.zero) hZ1
  have zf := hZ1.frozen
  have hX := sto5 hZ1 (.int .u8 (y.o : Int)) (.int .i64 y.a) (.int .i64 y.b) (.int .i64 y.c) (.int .i64 y.k)
  unfold insV
  go_wp2_with fail
  revert hX
  generalize (((((w1.setCell ⟨w.heap.size + 1 + 1, 0, none⟩ (.int .u8 (y.o : Int))).setCell ⟨w.heap.size + 1 + 1, 1, none⟩ (.int .i64 y.a)).setCell ⟨w.heap.size + 1 + 1, 2, none⟩ (.int .i64 y.b)).setCell ⟨w.heap.size + 1 + 1, 3, none⟩ (.int .i64 y.c)).setCell ⟨w.heap.size + 1 + 1, 4, none⟩ (.int .i64 y.k)) = w2
  rintro ⟨hX, hbX⟩
  obtain ⟨q0, q1, q2, q3, q4⟩ := ins_cells hX
  refine bodyPost_ret (v := .tuple #[insV y, .bool (atIn p f.c f.p).isSome]) (by simp [results, Try.f39, go_sem, insV, q0, q1, q2, q3, q4]) rfl ?_
  exact ⟨by rw [HY.out]; rfl, below_but hB1 hbX (Nat.le_refl _) (by omega)⟩
end Go.Proofs.Ytamkmmpockmpfaa
