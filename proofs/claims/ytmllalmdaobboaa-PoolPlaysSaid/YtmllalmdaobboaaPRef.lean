/-
  The reference's pool in memory: a block of two rows; the walks of tollbarref06's Of, set, Take, Give.
-/
import Derived.Deep.DrawnRows
import Derived.Test.YtmllalmdaobboaaPAlive
namespace Go.Proofs.Ytmllalmdaobboaa
open Go.RowKit

def refV (o : Option Sud) : List Value := .bool o.isSome :: sudV (o.getD zeroS)
theorem infoRef : (Try.prog.info? 60).map (fun i => (i.zero, i.size, i.bytes)) = some (some (.agg #[.bool false, .int .i64 0, .int .i64 0, .bool false, .int .i64 0, .int .u64 0]), 6, 48) := by kernel_rfl
abbrev Refs (W : World) (g cap : Nat) (T : List (Option Sud)) : Prop := RowOf refV 6 60 W g cap T

/-- Block R is a pool of the reference: in block g what the slots have; the row rv is those that are free, in order. -/
structure RefP (W : World) (R g cap : Nat) (rv : Value) (T : List (Option Sud)) (F : List Nat) : Prop where
  head : W.heap[R]? = some (.cells #[.slice (some ⟨g, 0, none⟩) T.length cap, rv] 57 (0, 0))
  row : Refs W g cap T
  rest : W.ownsRow 0 3 1 rv F.length (I64N F)
  len : T.length ≤ 60
  few : F.length ≤ 60

theorem ownsRow_at {W : World} {base : Nat} {e : TypeId} {size : Nat} {v : Value} {k : Nat} {xs : List Value} (h : W.ownsRow base e size v k xs) {g : Nat} (hg : v.ownBlock = some g) : ∃ cs z, W.heap[g]? = some (Obj.cells cs e z) := by
  rcases h.2 with ⟨rfl, _⟩ | ⟨g', cap, cur, rfl, _, hgb, _⟩
  · simp [Value.ownBlock] at hg
  · obtain rfl : g' = g := by simpa [Value.ownBlock] using hg
    exact ⟨_, _, hgb⟩
section
variable {W W' : World} {R g cap : Nat} {rv : Value} {T : List (Option Sud)} {F : List Nat}
theorem RefP.ltR (h : RefP W R g cap rv T F) : R < W.heap.size := (Array.getElem?_eq_some_iff.1 h.head).1
theorem RefP.cellS (h : RefP W R g cap rv T F) : W.cell? ⟨R, 0, none⟩ = some (.slice (some ⟨g, 0, none⟩) T.length cap) := by simp [World.cell?, h.head]
theorem RefP.cellR (h : RefP W R g cap rv T F) : W.cell? ⟨R, 1, none⟩ = some rv := by simp [World.cell?, h.head]
theorem RefP.frozen (h : RefP W R g cap rv T F) (k : Nat) : W.frozen? ⟨R, k, none⟩ = false := by simp [World.frozen?, h.head]
/-- What turns no block of the reference's leaves its pool. -/
theorem RefP.but (h : RefP W R g cap rv T F) {S : List Nat} (hb : But S W W') (hS : ∀ k ∈ S, ∀ (cs : Array Value) (t : TypeId) (z : Nat × Nat), W.heap[k]? = some (.cells cs t z) → t ≠ 57 ∧ t ≠ 60 ∧ t ≠ 3) : RefP W' R g cap rv T F := by
  obtain ⟨cs, z, hg⟩ := h.row.block
  refine ⟨(hb.block R h.ltR fun e => (hS R e _ _ _ h.head).1 rfl).trans h.head, h.row.but hb fun e => (hS g e _ _ _ hg).2.1 rfl, hb.row h.rest fun k hk e => ?_, h.len, h.few⟩
  obtain ⟨cs, z, hk⟩ := ownsRow_at h.rest hk
  exact (hS k e _ _ _ hk).2.2 rfl
theorem RefP.fresh (h : RefP W R g cap rv T F) (hb : But [] W W') : RefP W' R g cap rv T F := h.but hb (by simp)
theorem RefP.drewN (h : RefP W R g cap rv T F) (k : Nat) : RefP (W.drewN k) R g cap rv T F := h.fresh ((But.refl [] W).drewN k)
theorem RefP.drew (h : RefP W R g cap rv T F) : RefP W.drew R g cap rv T F := h.drewN 1
/-- What writes a pool leaves the reference's. -/
theorem RefP.pool (h : RefP W R g cap rv T F) {B V c : Nat} {T' : List (Option Sud)} {F' : List Nat} (hP : PoolAt W B V c T' F') (hb : But [B, V] W W') : RefP W' R g cap rv T F := by
  obtain ⟨_, _, b1⟩ := hP.blockB
  obtain ⟨_, _, b2⟩ := hP.blockV
  refine h.but hb fun k hk cs t z he => ?_
  rcases List.mem_cons.1 hk with rfl | hk
  · rw [b1] at he; cases he; decide
  · rw [List.mem_singleton.1 hk, b2] at he; cases he; decide
/-- What writes the reference's block leaves a pool. -/
theorem Mine.refp {w0 : World} {B V c : Nat} {T' : List (Option Sud)} {F' : List Nat} (h : Mine w0 W B V c T' F') (hR : RefP W R g cap rv T F) (hb : But [R] W W') (hw : w0.heap.size ≤ R) : Mine w0 W' B V c T' F' := by
  obtain ⟨_, _, b1⟩ := h.pool.blockB
  obtain ⟨_, _, b2⟩ := h.pool.blockV
  exact h.beside hb (by simpa using type_ne b1 hR.head (by decide)) (by simpa using type_ne b2 hR.head (by decide)) (by simpa using hw)
end

theorem rof_out {R g cap : Nat} {rv : Value} {T : List (Option Sud)} {F : List Nat} (i : Int) (w : World) (h : RefP w R g cap rv T F) (hi : i < 0 ∨ (T.length : Int) ≤ i) :
    Calls Try.prog 16 #[.pointer (some ⟨R, 0, none⟩), .int .i64 i] w fun e w' => e = .returned (.tuple #[sudA zeroS, .bool false]) ∧ But [] w w' := by
  have hl := h.len
  have hb0 : But [] w (w.alloc (.cells #[.int .i64 0, .int .i64 0, .bool false, .int .i64 0, .int .u64 0] 32)) := (But.refl _ _).alloc _
  have hc := (h.fresh hb0).cellS
  clear h hb0
  rcases hi with hi | hi
  · have t1 : decide (i < 0) = true := decide_eq_true hi
    go_enter Try.func16, Try.ntmps16
    go_wp2_with fail
    exact bodyPost_ret (v := .tuple #[sudA zeroS, .bool false]) (by simp [results, Try.f16, go_sem, sudA, zeroS]) rfl ⟨rfl, (But.refl _ _).alloc _⟩
  · have t0 : ¬ i < 0 := by omega
    have t1 : decide (i < 0) = false := decide_eq_false t0
    have t2 : decide ((T.length : Int) ≤ i) = true := decide_eq_true hi
    go_enter Try.func16, Try.ntmps16
    go_wp2_with fail
    exact bodyPost_ret (v := .tuple #[sudA zeroS, .bool false]) (by simp [results, Try.f16, go_sem, sudA, zeroS]) rfl ⟨rfl, (But.refl _ _).alloc _⟩

theorem rof_there {R g cap : Nat} {rv : Value} {T : List (Option Sud)} {F : List Nat} (i : Nat) (o : Option Sud) (w : World) (h : RefP w R g cap rv T F) (hi : T[i]? = some o) :
    Calls Try.prog 16 #[.pointer (some ⟨R, 0, none⟩), .int .i64 (i : Int)] w fun e w' => e = .returned (.tuple #[sudA (o.getD zeroS), .bool o.isSome]) ∧ But [] w w' := by
  have hlt : i < T.length := (List.getElem?_eq_some_iff.1 hi).1
  have hl := h.len
  have hb0 : But [] w (w.alloc (.cells #[.int .i64 0, .int .i64 0, .bool false, .int .i64 0, .int .u64 0] 32)) := (But.refl _ _).alloc _
  have h1 := h.fresh hb0
  have hc := h1.cellS
  have v0 : World.cell? _ ⟨g, i * 6, none⟩ = _ := h1.row.cell hi (j := 0) (by omega)
  have v1 := h1.row.cell hi (j := 1) (by omega)
  have v2 := h1.row.cell hi (j := 2) (by omega)
  have v3 := h1.row.cell hi (j := 3) (by omega)
  have v4 := h1.row.cell hi (j := 4) (by omega)
  have v5 := h1.row.cell hi (j := 5) (by omega)
  obtain ⟨⟨a, b, c, d, e⟩, hx⟩ : ∃ x, o.getD zeroS = x := ⟨_, rfl⟩
  obtain ⟨z, hz⟩ : ∃ z, o.isSome = z := ⟨_, rfl⟩
  simp only [refV, sudV, hx, hz, List.getElem?_cons_zero, List.getElem?_cons_succ] at v0 v1 v2 v3 v4 v5
  rw [hx, hz]
  have hb2 : But [] w (w.alloc (.cells #[.int .i64 a, .int .i64 b, .bool c, .int .i64 d, .int .u64 e] 32)) := (But.refl _ _).alloc _
  have h2 := h.fresh hb2
  have hc2 := h2.cellS
  have u0 : World.cell? _ ⟨g, i * 6, none⟩ = _ := h2.row.cell hi (j := 0) (by omega)
  simp only [refV, hz, List.getElem?_cons_zero] at u0
  have t0 : (0 : Int) ≤ (i : Int) := by omega
  have t1 : decide ((i : Int) < 0) = false := by simp
  have t2 : decide ((T.length : Int) ≤ (i : Int)) = false := by simp; omega
  have t3 : (i : Int) < (T.length : Int) := by omega
  clear h h1 h2 hi hx hz hb0 hb2
  go_enter Try.func16, Try.ntmps16
  go_wp2_with fail
  go_region
  go_wp2_with fail
  exact bodyPost_ret (v := .tuple #[sudA (a, b, c, d, e), .bool z]) (by simp [results, Try.f16, go_sem, sudA]) rfl ⟨rfl, ((But.refl _ _).alloc _).drew⟩

theorem rof_any {R g cap : Nat} {rv : Value} {T : List (Option Sud)} {F : List Nat} (i : Int) (w : World) (h : RefP w R g cap rv T F) :
    Calls Try.prog 16 #[.pointer (some ⟨R, 0, none⟩), .int .i64 i] w fun e w' => e = .returned (.tuple #[sudA ((heldAt T i).getD zeroS), .bool (heldAt T i).isSome]) ∧ But [] w w' := by
  by_cases hi : i < 0 ∨ (T.length : Int) ≤ i
  · have hn : heldAt T i = none := by
      unfold heldAt
      split
      · rw [List.getElem?_eq_none (by omega)]; rfl
      · rfl
    rw [hn]
    exact rof_out i w h hi
  · obtain ⟨k, rfl⟩ := Int.eq_ofNat_of_zero_le (show 0 ≤ i by omega)
    obtain ⟨o, ho⟩ : ∃ o, T[k]? = some o := ⟨_, List.getElem?_eq_getElem (by omega)⟩
    have hh : heldAt T (k : Int) = o := by
      unfold heldAt; rw [if_pos (by omega), Int.toNat_natCast, ho]; rfl
    rw [hh]
    exact rof_there k o w h ho
end Go.Proofs.Ytmllalmdaobboaa
