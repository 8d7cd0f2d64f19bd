/-
  Channels in memory; the walks of New, rowOf, row, Cap.
-/
import Derived.Test.YtbelfcfdgkmnmaaMPure
namespace Go.Proofs.Ytbelfcfdgkmnmaa
open Go.RowKit

/-- Block C is a channel: its buffer is the ring in block B, its rows are v0, v1. -/
structure ChAt (W : World) (C B m : Nat) (cl : Bool) (v0 v1 : Value) (buf : List Int) (S R : List Wt) : Prop where
  head : W.heap[C]? = some (.cells #[.pointer (some ⟨B, 0, none⟩), .bool cl, v0, v1] 46 (0, 0))
  ring : Rng W B m buf
  sends : W.ownsRow 0 31 3 v0 S.length (flatW S)
  recvs : W.ownsRow 0 31 3 v1 R.length (flatW R)
  apart : ∀ g, v0.ownBlock = some g → v1.ownBlock ≠ some g

section
variable {W W' : World} {C B m : Nat} {cl : Bool} {v0 v1 : Value} {buf : List Int} {S R : List Wt}
theorem ChAt.lt (h : ChAt W C B m cl v0 v1 buf S R) : C < W.heap.size := (Array.getElem?_eq_some_iff.1 h.head).1
theorem ChAt.b (h : ChAt W C B m cl v0 v1 buf S R) : W.cell? ⟨C, 0, none⟩ = some (.pointer (some ⟨B, 0, none⟩)) := by simp [World.cell?, h.head]
theorem ChAt.c (h : ChAt W C B m cl v0 v1 buf S R) : W.cell? ⟨C, 1, none⟩ = some (.bool cl) := by simp [World.cell?, h.head]
theorem ChAt.s (h : ChAt W C B m cl v0 v1 buf S R) : W.cell? ⟨C, 2, none⟩ = some v0 := by simp [World.cell?, h.head]
theorem ChAt.r (h : ChAt W C B m cl v0 v1 buf S R) : W.cell? ⟨C, 3, none⟩ = some v1 := by simp [World.cell?, h.head]
theorem ChAt.frozen (h : ChAt W C B m cl v0 v1 buf S R) (k : Nat) : W.frozen? ⟨C, k, none⟩ = false := by simp [World.frozen?, h.head]
theorem ChAt.w (h : ChAt W C B m cl v0 v1 buf S R) (s : Bool) : W.cell? ⟨C, 2 + ix s, none⟩ = some (if s then v0 else v1) := by
  cases s
  · exact h.r
  · exact h.s
theorem ChAt.row (h : ChAt W C B m cl v0 v1 buf S R) (s : Bool) : W.ownsRow 0 31 3 (if s then v0 else v1) (if s then S else R).length (flatW (if s then S else R)) := by
  cases s
  · exact h.recvs
  · exact h.sends
theorem own_at {e : TypeId} {v : Value} {n k : Nat} {xs : List Value} (h : W.ownsRow n e 3 v k xs) {g : Nat} (hg : v.ownBlock = some g) : ∃ cs, W.heap[g]? = some (.cells cs e (0, 0)) := by
  rcases h.2 with ⟨rfl, _⟩ | ⟨g', cap, cur, rfl, _, hgb, _⟩
  · simp [Value.ownBlock] at hg
  · obtain rfl : g' = g := by simpa [Value.ownBlock] using hg
    exact ⟨_, hgb⟩
theorem ChAt.ne_ring (h : ChAt W C B m cl v0 v1 buf S R) : C ≠ B := by
  rintro rfl
  obtain ⟨vs, f, hr, _⟩ := h.ring
  have := h.head.symm.trans hr.2
  simp at this
theorem ChAt.ne_s (h : ChAt W C B m cl v0 v1 buf S R) : v0.ownBlock ≠ some C ∧ v0.ownBlock ≠ some B := by
  obtain ⟨vs, f, hr, _⟩ := h.ring
  refine ⟨fun e => ?_, fun e => ?_⟩
  · obtain ⟨cs, hc⟩ := own_at h.sends e
    have := hc.symm.trans h.head
    simp at this
  · obtain ⟨cs, hc⟩ := own_at h.sends e
    have := hc.symm.trans hr.2
    simp at this
theorem ChAt.ne_r (h : ChAt W C B m cl v0 v1 buf S R) : v1.ownBlock ≠ some C ∧ v1.ownBlock ≠ some B := by
  obtain ⟨vs, f, hr, _⟩ := h.ring
  refine ⟨fun e => ?_, fun e => ?_⟩
  · obtain ⟨cs, hc⟩ := own_at h.recvs e
    have := hc.symm.trans h.head
    simp at this
  · obtain ⟨cs, hc⟩ := own_at h.recvs e
    have := hc.symm.trans hr.2
    simp at this
theorem ChAt.below (h : ChAt W C B m cl v0 v1 buf S R) (hb : Below W.heap.size W W') : ChAt W' C B m cl v0 v1 buf S R :=
  have hg := grownBy_of_below hb
  ⟨(hb.block C h.lt).trans h.head, h.ring.below hb, h.sends.kept hg (by cases v0.ownBlock <;> simp), h.recvs.kept hg (by cases v1.ownBlock <;> simp), h.apart⟩
theorem ChAt.drew (h : ChAt W C B m cl v0 v1 buf S R) : ChAt W.drew C B m cl v0 v1 buf S R := h.below (Below.refl _ _).drew
end

/-- Block C is a channel, all of whose blocks are F's. -/
def Chn (W : World) (F : Nat → Prop) (C m : Nat) (cl : Bool) (buf : List Int) (S R : List Wt) : Prop :=
  ∃ B v0 v1, ChAt W C B m cl v0 v1 buf S R ∧ F C ∧ F B ∧ (∀ g, v0.ownBlock = some g → F g) ∧ (∀ g, v1.ownBlock = some g → F g)
section
variable {W W' : World} {F G : Nat → Prop} {C m : Nat} {cl : Bool} {buf : List Int} {S R : List Wt}
theorem Chn.mono (h : Chn W F C m cl buf S R) (hG : ∀ k, F k → G k) : Chn W G C m cl buf S R := by
  obtain ⟨B, v0, v1, h, h1, h2, h3, h4⟩ := h
  exact ⟨B, v0, v1, h, hG _ h1, hG _ h2, fun g e => hG _ (h3 g e), fun g e => hG _ (h4 g e)⟩
theorem Chn.below (h : Chn W F C m cl buf S R) (hb : Below W.heap.size W W') : Chn W' F C m cl buf S R := by
  obtain ⟨B, v0, v1, h, r⟩ := h
  exact ⟨B, v0, v1, h.below hb, r⟩
theorem Chn.lt (h : Chn W F C m cl buf S R) : C < W.heap.size := by obtain ⟨_, _, _, h, _⟩ := h; exact h.lt
theorem Chn.len (h : Chn W F C m cl buf S R) : buf.length ≤ m ∧ m ≤ 8 := by obtain ⟨_, _, _, h, _⟩ := h; obtain ⟨vs, f, _, _, _, h1, h2⟩ := h.ring; exact ⟨h1, h2⟩
end

theorem rowOf_any (s : Bool) (w : World) :
    Calls Try.prog 14 #[.bool s] w fun e w' => e = .returned (.int .i64 (ix s : Int)) ∧ w' = w := by
  go_enter Try.func14, Try.ntmps14
  cases s
  · go_wp2_with fail
    go_ret
    exact ⟨rfl, rfl⟩
  · go_wp2_with fail
    go_ret
    exact ⟨rfl, rfl⟩

theorem row_any (p : Option Addr) (k : Int) (w : World) :
    Calls Try.prog 15 #[.pointer p, .int .i64 k] w fun e w' => e = .returned (.func (.func 21) #[] #[.pointer (some ⟨w.heap.size, 0, none⟩), .pointer (some ⟨w.heap.size + 1, 0, none⟩)]) ∧ w' = (w.alloc (.cells #[.pointer p] 24)).alloc (.cells #[.int .i64 k] 3) := by
  go_enter Try.func15, Try.ntmps15
  go_wp2_with fail
  go_ret
  exact ⟨rfl, rfl⟩

section
variable {C B m : Nat} {cl : Bool} {v0 v1 : Value} {buf : List Int} {S R : List Wt}
theorem ccap_any (w : World) (h : ChAt w C B m cl v0 v1 buf S R) :
    Calls Try.prog 20 #[.pointer (some ⟨C, 0, none⟩)] w fun e w' => e = .returned (.int .i64 (m : Int)) ∧ w' = w := by
  have hb := h.b
  have hc := cap_ring w h.ring
  clear h
  go_enter Try.func20, Try.ntmps20
  go_wp2_with fail
  refine hc.mono ?_
  rintro e w ⟨rfl, rfl⟩
  go_wp2_with fail
  go_ret
  exact ⟨rfl, rfl⟩

theorem cbuf_any (w : World) (h : ChAt w C B m cl v0 v1 buf S R) :
    Calls Try.prog 9 #[.pointer (some ⟨C, 0, none⟩)] w fun e w' => ∃ v, e = .returned v ∧ w'.ownsRow w.heap.size 2 1 v buf.length (I64 buf) ∧ Below w.heap.size w w' := by
  have hb := h.b
  have hc := list_ring w h.ring
  clear h
  go_enter Try.func9, Try.ntmps9
  go_wp2_with fail
  refine hc.mono ?_
  rintro e w1 ⟨v, rfl, hr, hb1⟩
  go_wp2_with fail
  go_ret
  exact ⟨v, rfl, hr, hb1⟩
end

theorem cnew_bad (k : Int) (w : World) (h1 : -9223372036854775808 ≤ k) (h2 : k ≤ 9223372036854775807) (h : k < 0 ∨ 8 < k) :
    Calls Try.prog 5 #[.int .i64 k] w fun e w' => e = .returned (.tuple #[.pointer none, .int .i64 2]) ∧ w' = w := by
  have hc := new_bad k w h1 h2 h
  clear h h1 h2
  go_enter Try.func5, Try.ntmps5
  go_wp2_with fail
  refine hc.mono ?_
  rintro e w ⟨rfl, rfl⟩
  go_wp2_with fail
  go_ret2
  exact ⟨rfl, rfl⟩
theorem cnew_ok (m : Nat) (w : World) (h : m ≤ 8) :
    Calls Try.prog 5 #[.int .i64 (m : Int)] w fun e w' => ∃ C, e = .returned (.tuple #[.pointer (some ⟨C, 0, none⟩), .int .i64 0]) ∧ Chn w' (fun k => w.heap.size ≤ k) C m false [] [] [] ∧ Below w.heap.size w w' := by
  have hc := new_ok m w h
  clear h
  go_enter Try.func5, Try.ntmps5
  go_wp2_with fail
  refine hc.mono ?_
  rintro e w1 ⟨rfl, hR, hg⟩
  have hb : Below w.heap.size w w1 := (Below.refl _ _).grown hg (Nat.le_refl _) (fun _ e => by cases e)
  have hR1 : ∀ o, Rng (w1.alloc o) w.heap.size m [] := fun o => hR.below (below1 w1 o)
  clear hg hc
  go_wp2_with fail
  go_ret2
  refine ⟨w1.heap.size, rfl, ⟨w.heap.size, .slice none 0 0, .slice none 0 0, ⟨World.alloc_heap_new w1 _, hR1 _, World.ownsRow_nil _ _ _ _, World.ownsRow_nil _ _ _ _, fun g e => by simp [Value.ownBlock] at e⟩, hb.size, Nat.le_refl _, fun g e => by simp [Value.ownBlock] at e, fun g e => by simp [Value.ownBlock] at e⟩, Below.al hb hb.size _⟩
end Go.Proofs.Ytbelfcfdgkmnmaa
