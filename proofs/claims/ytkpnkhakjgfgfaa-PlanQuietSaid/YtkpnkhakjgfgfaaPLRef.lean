/-
  The document's channel in memory (tollbarref22); a channel and the document's, side by side.
-/
import Derived.Test.YtkpnkhakjgfgfaaHCFront
import Derived.Test.YtkpnkhakjgfgfaaRRef
import Derived.Test.YtkpnkhakjgfgfaaLRefD
namespace Go.Proofs.Ytkpnkhakjgfgfaa
open Go.RowKit
open Lq (But I64b type_ne)

theorem but_grown {w w' : World} {r : Option Nat} (h : w.grownBy w' r) : But r.toList w w' := by
  cases r with
  | none => exact Lq.But.of_none h _
  | some b => exact Lq.But.of_some h (by simp)

/-- Where the document's channel lies: its own block, its ring's, its queues'. -/
structure Pr where
  D : Nat
  R : Nat
  S : Nat
  T : Nat
def Pr.all (q : Pr) : List Nat := [q.D, q.R, q.S, q.T]
def Pr.q (q : Pr) (send : Bool) : Nat := if send then q.S else q.T
structure RefH (W : World) (q : Pr) (h : Hs) : Prop where
  head : W.heap[q.D]? = some (.cells #[ptrO q.R, ptrO q.S, ptrO q.T, .bool h.c] 54 (0, 0))
  ring : Rg.RefAt W q.R h.m h.b
  qs : Lq.RefL W q.S h.s
  qr : Lq.RefL W q.T h.r
  ne : q.S ≠ q.T
section
variable {W W' : World} {q : Pr} {p : Pl} {h h' : Hs}
theorem ref_ring (H : RefH W q h) : ∃ cs, W.heap[q.R]? = some (.cells cs 74 (0, 0)) := by obtain ⟨sv, h1, _⟩ := H.ring; exact ⟨_, h1⟩
theorem ref_list {R : Nat} {xs : List Int} (H : Lq.RefL W R xs) : ∃ cs, W.heap[R]? = some (.cells cs 63 (0, 0)) := by obtain ⟨sv, h1, _⟩ := H; exact ⟨_, h1⟩
/-- What the blocks of the document's channel are. -/
theorem RefH.kind (H : RefH W q h) {x : Nat} (hx : x ∈ q.all) : ∃ cs t, W.heap[x]? = some (.cells cs t (0, 0)) ∧ (t = 54 ∨ t = 74 ∨ t = 63) := by
  simp only [Pr.all, List.mem_cons, List.not_mem_nil, or_false] at hx
  rcases hx with rfl | rfl | rfl | rfl
  · exact ⟨_, _, H.head, .inl rfl⟩
  · obtain ⟨cs, hc⟩ := ref_ring H; exact ⟨cs, _, hc, .inr (.inl rfl)⟩
  · obtain ⟨cs, hc⟩ := ref_list H.qs; exact ⟨cs, _, hc, .inr (.inr rfl)⟩
  · obtain ⟨cs, hc⟩ := ref_list H.qr; exact ⟨cs, _, hc, .inr (.inr rfl)⟩
theorem RefH.lt (H : RefH W q h) {x : Nat} (hx : x ∈ q.all) : x < W.heap.size := by obtain ⟨cs, t, h1, _⟩ := H.kind hx; exact (Array.getElem?_eq_some_iff.1 h1).1
/-- What the blocks of the channel are. -/
theorem Hch.kind (H : Hch W p h) {x : Nat} (hx : x ∈ p.all) : (∃ cs t z, W.heap[x]? = some (.cells cs t z) ∧ (t = 84 ∨ t = 96 ∨ t = 99)) ∨ ∃ es c, W.heap[x]? = some (.map es c) := by
  simp only [Pl.all, List.mem_cons, List.not_mem_nil, or_false] at hx
  rcases hx with rfl | rfl | rfl | rfl | rfl | rfl
  · exact .inl ⟨_, _, _, H.head, .inl rfl⟩
  · obtain ⟨cs, hc⟩ := H.raw; exact .inl ⟨cs, _, _, hc, .inr (.inl rfl)⟩
  · obtain ⟨cs, z, hc⟩ := H.qs.head; exact .inl ⟨cs, _, z, hc, .inr (.inr rfl)⟩
  · exact .inr H.qs.map
  · obtain ⟨cs, z, hc⟩ := H.qr.head; exact .inl ⟨cs, _, z, hc, .inr (.inr rfl)⟩
  · exact .inr H.qr.map
theorem twin_ne (H : Hch W p h) (K : RefH W q h') {x y : Nat} (hx : x ∈ p.all) (hy : y ∈ q.all) : x ≠ y := by
  rintro rfl
  obtain ⟨cs, t, h1, h2⟩ := K.kind hy
  rcases H.kind hx with ⟨ds, s, z, h3, h4⟩ | ⟨es, c, h3⟩
  · rw [h1] at h3
    simp only [Option.some.injEq, Obj.cells.injEq] at h3
    obtain ⟨-, rfl, -⟩ := h3
    rcases h2 with rfl | rfl | rfl <;> rcases h4 with e | e | e <;> exact absurd e (by decide)
  · rw [h1] at h3; cases h3
theorem RefAt_but {C m : Nat} {l : List Int} (h : Rg.RefAt W C m l) {S : List Nat} (hb : But S W W') (hC : C ∉ S) (hS : ∀ x ∈ S, ∀ cs z, W.heap[x]? ≠ some (Obj.cells cs 2 z)) : Rg.RefAt W' C m l := by
  obtain ⟨sv, h1, h2⟩ := h
  refine ⟨sv, (hb.block C (Array.getElem?_eq_some_iff.1 h1).1 hC).trans h1, hb.row h2 (fun g hg hm => ?_)⟩
  obtain ⟨cs, z, hgb⟩ := Lq.ownsRow_at h2 hg
  exact hS g hm cs z hgb
theorem RefH.but (H : RefH W q h) {S : List Nat} (hb : But S W W') (h1 : ∀ x ∈ q.all, x ∉ S) (h2 : ∀ x ∈ S, ∀ cs t z, W.heap[x]? = some (Obj.cells cs t z) → t ≠ 3 ∧ t ≠ 2) : RefH W' q h :=
  ⟨(hb.block q.D (H.lt (by simp [Pr.all])) (h1 _ (by simp [Pr.all]))).trans H.head, RefAt_but H.ring hb (h1 _ (by simp [Pr.all])) (fun x hx cs z e => (h2 x hx _ _ _ e).2 rfl),
   H.qs.but hb (h1 _ (by simp [Pr.all])) (fun x hx cs z e => (h2 x hx _ _ _ e).1 rfl), H.qr.but hb (h1 _ (by simp [Pr.all])) (fun x hx cs z e => (h2 x hx _ _ _ e).1 rfl), H.ne⟩
theorem RefH.fresh (H : RefH W q h) (hb : But [] W W') : RefH W' q h := H.but hb (by simp) (by simp)
theorem RefH.drew (H : RefH W q h) : RefH W.drew q h := H.fresh (Lq.But.refl [] W).drew
/-- What the channel's calls turn leaves the document's; and the other way round. -/
theorem RefH.beside (K : RefH W q h') (H : Hch W p h) (hb : But p.all W W') : RefH W' q h' :=
  K.but hb (fun x hx hp => twin_ne H K hp hx rfl) (fun x hx cs t z e => by
    rcases H.kind hx with ⟨ds, s, y, h3, h4⟩ | ⟨es, c, h3⟩
    · rw [e] at h3
      simp only [Option.some.injEq, Obj.cells.injEq] at h3
      obtain ⟨-, rfl, -⟩ := h3
      rcases h4 with rfl | rfl | rfl <;> exact ⟨by decide, by decide⟩
    · rw [e] at h3; cases h3)
theorem Hch.beside (H : Hch W p h) (K : RefH W q h') (hb : But q.all W W') : Hch W' p h := H.but hb (fun _ hx hq => twin_ne H K hx hq rfl)
theorem RefH.types (H : RefH W q h) : ∀ x ∈ q.all, ∀ cs t z, W.heap[x]? = some (Obj.cells cs t z) → t ≠ 3 ∧ t ≠ 2 := fun x hx cs t z e => by
  obtain ⟨ds, s, h1, h2⟩ := H.kind hx
  rw [h1] at e
  simp only [Option.some.injEq, Obj.cells.injEq] at e
  obtain ⟨-, rfl, -⟩ := e
  rcases h2 with rfl | rfl | rfl <;> exact ⟨by decide, by decide⟩
theorem RefH.DR (H : RefH W q h) : q.D ≠ q.R := by obtain ⟨cs, hc⟩ := ref_ring H; exact type_ne H.head hc (by decide)
theorem RefH.DS (H : RefH W q h) : q.D ≠ q.S := by obtain ⟨cs, hc⟩ := ref_list H.qs; exact type_ne H.head hc (by decide)
theorem RefH.DT (H : RefH W q h) : q.D ≠ q.T := by obtain ⟨cs, hc⟩ := ref_list H.qr; exact type_ne H.head hc (by decide)
theorem RefH.RS (H : RefH W q h) : q.R ≠ q.S := by obtain ⟨cs, hc⟩ := ref_list H.qs; obtain ⟨ds, hd⟩ := ref_ring H; exact type_ne hd hc (by decide)
theorem RefH.RT (H : RefH W q h) : q.R ≠ q.T := by obtain ⟨cs, hc⟩ := ref_list H.qr; obtain ⟨ds, hd⟩ := ref_ring H; exact type_ne hd hc (by decide)
theorem RefH.one (H : RefH W q h) {y : Nat} (hy : y ∈ q.all) : ∀ x ∈ [y], ∀ cs t z, W.heap[x]? = some (Obj.cells cs t z) → t ≠ 3 ∧ t ≠ 2 := fun x hx => by
  rw [List.mem_singleton.1 hx]; exact H.types y hy
theorem RefH.turnB (H : RefH W q h) {b : List Int} (hR : Rg.RefAt W' q.R h.m b) (hb : But [q.R] W W') : RefH W' q (h.setB b) := by
  have ht := H.one (y := q.R) (by simp [Pr.all])
  exact ⟨(hb.block q.D (H.lt (by simp [Pr.all])) (by simpa using H.DR)).trans H.head, hR, H.qs.but hb (by simpa using H.RS.symm) (fun x hx cs z e => (ht x hx _ _ _ e).1 rfl), H.qr.but hb (by simpa using H.RT.symm) (fun x hx cs z e => (ht x hx _ _ _ e).1 rfl), H.ne⟩
theorem RefH.que (H : RefH W q h) (send : Bool) : Lq.RefL W (q.q send) (h.q send) := by
  cases send
  · exact H.qr
  · exact H.qs
theorem RefH.turnQ (H : RefH W q h) {send : Bool} {xs : List Int} (hQ : Lq.RefL W' (q.q send) xs) (hb : But [q.q send] W W') : RefH W' q (h.setQ send xs) := by
  cases send
  · have hb : But [q.T] W W' := hb
    have ht := H.one (y := q.T) (by simp [Pr.all])
    exact ⟨(hb.block q.D (H.lt (by simp [Pr.all])) (by simpa using H.DT)).trans H.head, RefAt_but H.ring hb (by simpa using H.RT) (fun x hx cs z e => (ht x hx _ _ _ e).2 rfl), H.qs.but hb (by simpa using H.ne) (fun x hx cs z e => (ht x hx _ _ _ e).1 rfl), hQ, H.ne⟩
  · have hb : But [q.S] W W' := hb
    have ht := H.one (y := q.S) (by simp [Pr.all])
    exact ⟨(hb.block q.D (H.lt (by simp [Pr.all])) (by simpa using H.DS)).trans H.head, RefAt_but H.ring hb (by simpa using H.RS) (fun x hx cs z e => (ht x hx _ _ _ e).2 rfl), hQ, H.qr.but hb (by simpa using H.ne.symm) (fun x hx cs z e => (ht x hx _ _ _ e).1 rfl), H.ne⟩
theorem RefH.cells (H : RefH W q h) : W.cell? ⟨q.D, 0, none⟩ = some (ptrO q.R) ∧ W.cell? ⟨q.D, 1, none⟩ = some (ptrO q.S) ∧ W.cell? ⟨q.D, 2, none⟩ = some (ptrO q.T) ∧ W.cell? ⟨q.D, 3, none⟩ = some (.bool h.c) := by
  simp [World.cell?, H.head]
theorem RefH.frozen (H : RefH W q h) (k : Nat) : W.frozen? ⟨q.D, k, none⟩ = false := by simp [World.frozen?, H.head]
theorem RefH.shut (H : RefH W q h) : RefH (W.setCell ⟨q.D, 3, none⟩ (.bool true)) q h.shut := by
  have hb : But [q.D] W (W.setCell ⟨q.D, 3, none⟩ (.bool true)) := (Lq.But.refl _ W).set (p := ⟨q.D, 3, none⟩) (.inl (by simp)) _
  have ht := H.one (y := q.D) (by simp [Pr.all])
  refine ⟨Lq.heap_set_same _ H.head, RefAt_but H.ring hb (by simpa using H.DR.symm) (fun x hx cs z e => (ht x hx _ _ _ e).2 rfl), H.qs.but hb (by simpa using H.DS.symm) (fun x hx cs z e => (ht x hx _ _ _ e).1 rfl), H.qr.but hb (by simpa using H.DT.symm) (fun x hx cs z e => (ht x hx _ _ _ e).1 rfl), H.ne⟩
theorem shut_same {h : Hs} (hc : h.c = true) : h.shut = h := by cases h; cases hc; rfl
end

/-! ### The document's own calls -/
theorem q_any {q : Pr} {h : Hs} (send : Bool) (w : World) (H : RefH w q h) :
    Calls Try.prog 23 #[ptrO q.D, .bool send] w fun e w' => e = .returned (ptrO (q.q send)) ∧ w' = w := by
  obtain ⟨c0, c1, c2, c3⟩ := H.cells
  clear H
  cases send
  · go_enter Try.func23, Try.ntmps23
    go_wp2_with fail
    go_ret
    exact ⟨rfl, rfl⟩
  · go_enter Try.func23, Try.ntmps23
    go_wp2_with fail
    go_ret
    exact ⟨rfl, rfl⟩
theorem close_any {q : Pr} {h : Hs} (w : World) (H : RefH w q h) :
    Calls Try.prog 27 #[ptrO q.D] w fun e w' => e = .returned (.int .i64 (shutE h)) ∧ RefH w' q h.shut ∧ But q.all w w' := by
  obtain ⟨c0, c1, c2, c3⟩ := H.cells
  have fz := H.frozen
  have HS := Lib.hid H.shut
  have HH := Lib.hid H
  have hc : h.c = true ∨ h.c = false := by cases h.c <;> simp
  clear H
  rcases hc with hc | hc
  · have HC := Lib.hid hc
    rw [hc] at c3
    go_enter Try.func27, Try.ntmps27
    go_wp2_with fail
    go_ret
    exact ⟨by rw [shutE, HC.out]; rfl, by rw [shut_same HC.out]; exact HH.out, Lq.But.refl _ _⟩
  · have HC := Lib.hid hc
    rw [hc] at c3
    go_enter Try.func27, Try.ntmps27
    go_wp2_with fail
    go_ret
    exact ⟨by rw [shutE, HC.out]; rfl, HS.out, (Lq.But.refl _ w).set (p := ⟨q.D, 3, none⟩) (.inl (by simp [Pr.all])) _⟩
theorem four_new (w : World) (t0 t1 t2 t3 : TypeId) (c0 c1 c2 c3 : Array Value) : ∃ W, W = (((w.alloc (.cells c0 t0)).alloc (.cells c1 t1)).alloc (.cells c2 t2)).alloc (.cells c3 t3) ∧ But [] w W ∧
    W.heap[w.heap.size]? = some (.cells c0 t0 (0, 0)) ∧ W.heap[w.heap.size + 1]? = some (.cells c1 t1 (0, 0)) ∧ W.heap[w.heap.size + 1 + 1]? = some (.cells c2 t2 (0, 0)) ∧ W.heap[w.heap.size + 1 + 1 + 1]? = some (.cells c3 t3 (0, 0)) := by
  have al : ∀ (W : World) (o : Obj) (B : Nat) (x : Obj), W.heap[B]? = some x → (W.alloc o).heap[B]? = some x := fun W o B x hx => (((Lq.But.refl [] W).alloc o).block B (Array.getElem?_eq_some_iff.1 hx).1 (by simp)).trans hx
  refine ⟨_, rfl, ((((Lq.But.refl [] w).alloc _).alloc _).alloc _).alloc _, al _ _ _ _ (al _ _ _ _ (al _ _ _ _ (World.alloc_heap_new w _))), al _ _ _ _ (al _ _ _ _ ?_), al _ _ _ _ ?_, ?_⟩
  · have := World.alloc_heap_new (w.alloc (.cells c0 t0)) (.cells c1 t1)
    rwa [World.size_alloc] at this
  · have := World.alloc_heap_new ((w.alloc (.cells c0 t0)).alloc (.cells c1 t1)) (.cells c2 t2)
    rwa [World.size_alloc, World.size_alloc] at this
  · have := World.alloc_heap_new (((w.alloc (.cells c0 t0)).alloc (.cells c1 t1)).alloc (.cells c2 t2)) (.cells c3 t3)
    rwa [World.size_alloc, World.size_alloc, World.size_alloc] at this
theorem rnew_any (m : Nat) (w : World) :
    Calls Try.prog 18 #[.int .i64 (m : Int)] w fun e w' => ∃ q : Pr, e = .returned (ptrO q.D) ∧ RefH w' q (.new m) ∧ But [] w w' ∧ ∀ x ∈ q.all, w.heap.size ≤ x := by
  go_enter Try.func18, Try.ntmps18
  go_wp2_with fail
  obtain ⟨W, hW, hb, h0, h1, h2, h3⟩ := four_new w 74 63 63 54 #[.int .i64 (m : Int), .slice none 0 0] #[.slice none 0 0] #[.slice none 0 0] #[ptrO w.heap.size, ptrO (w.heap.size + 1), ptrO (w.heap.size + 1 + 1), .bool false]
  rw [← hW]
  go_ret
  refine ⟨⟨w.heap.size + 1 + 1 + 1, w.heap.size, w.heap.size + 1, w.heap.size + 1 + 1⟩, rfl, ⟨h3, ⟨_, h0, World.ownsRow_nil _ _ _ _⟩, ⟨_, h1, World.ownsRow_nil _ _ _ _⟩, ⟨_, h2, World.ownsRow_nil _ _ _ _⟩, by simp⟩, hb, fun x hx => ?_⟩
  simp only [Pr.all, List.mem_cons, List.not_mem_nil, or_false] at hx
  omega
end Go.Proofs.Ytkpnkhakjgfgfaa
