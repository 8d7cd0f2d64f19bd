/-
  The walk of Take.
-/
import Derived.Test.YtbelfcfdgkmnmaaMDel
import Derived.Test.YtbelfcfdgkmnmaaMFirst
import Derived.Deep.RegionWith
namespace Go.Proofs.Ytbelfcfdgkmnmaa
open Go.RowKit

section
variable {W w3 : World} {F : Nat → Prop} {C B m : Nat} {cl : Bool} {v0 v1 v' : Value} {buf : List Int} {S R l : List Wt} {s : Bool}
theorem opt_ne {a b : Option Nat} (h : ∀ g, a = some g → b ≠ some g) : a = none ∨ a ≠ b := by
  cases a with
  | none => exact .inl rfl
  | some g => exact .inr (fun e => h g rfl e.symm)
theorem ChAt.ne_w (h : ChAt W C B m cl v0 v1 buf S R) (s : Bool) : (if s then v0 else v1).ownBlock ≠ some C := by
  cases s
  · exact h.ne_r.1
  · exact h.ne_s.1
/-- A row is another one. -/
theorem ChAt.turn (h : ChAt W C B m cl v0 v1 buf S R) (ho : v'.ownBlock = (if s then v0 else v1).ownBlock ∨ ∃ g, v'.ownBlock = some g ∧ W.heap.size ≤ g) (hr : w3.ownsRow 0 31 3 v' l.length (flatW l)) (hg : W.grownBy w3 (if s then v0 else v1).ownBlock) :
    ChAt (w3.setCell ⟨C, 2 + ix s, none⟩ v') C B m cl (if s then v' else v0) (if s then v1 else v') buf (if s then l else S) (if s then R else l) := by
  have gs := grownBy_setCell w3 ⟨C, 2 + ix s, none⟩ v'
  have hrl : ∀ g, v'.ownBlock = some g → g ≠ C := by
    rintro g e rfl
    rcases ho with h1 | ⟨g', h1, h2⟩
    · rw [e] at h1
      cases s
      · exact h.ne_r.1 h1.symm
      · exact h.ne_s.1 h1.symm
    · rw [h1] at e; cases e
      have := h.lt; omega
  have hrow : (w3.setCell ⟨C, 2 + ix s, none⟩ v').ownsRow 0 31 3 v' l.length (flatW l) := hr.kept gs (by
    cases e : v'.ownBlock with
    | none => exact .inl rfl
    | some g => exact .inr (fun e2 => hrl g e (by cases e2; rfl)))
  cases s
  · have hg' : W.grownBy w3 v1.ownBlock := hg
    have hh : w3.heap[C]? = some (.cells #[.pointer (some ⟨B, 0, none⟩), .bool cl, v0, v1] 46 (0, 0)) := (hg'.block C h.lt (fun e => h.ne_r.1 e.symm)).trans h.head
    refine ⟨by simpa [ix] using heap_setCell_same (k := 3) v' hh, (h.ring.kept hg' (fun e => h.ne_r.2 e.symm)).kept gs (fun e => h.ne_ring (by cases e; rfl)), (h.sends.kept hg' (opt_ne h.apart)).kept gs ?_, hrow, ?_⟩
    · cases e : v0.ownBlock with
      | none => exact .inl rfl
      | some g => exact .inr (fun e2 => h.ne_s.1 (by rw [e]; cases e2; rfl))
    · intro g e1 e2
      rcases ho with h1 | ⟨g', h1, h2⟩
      · exact h.apart g e1 (h1.symm.trans e2)
      · have e3 : v'.ownBlock = some g := e2
        rw [h1] at e3; cases e3
        obtain ⟨cs, hc⟩ := own_at h.sends e1
        have := (Array.getElem?_eq_some_iff.1 hc).1
        omega
  · have hg' : W.grownBy w3 v0.ownBlock := hg
    have hh : w3.heap[C]? = some (.cells #[.pointer (some ⟨B, 0, none⟩), .bool cl, v0, v1] 46 (0, 0)) := (hg'.block C h.lt (fun e => h.ne_s.1 e.symm)).trans h.head
    refine ⟨by simpa [ix] using heap_setCell_same (k := 2) v' hh, (h.ring.kept hg' (fun e => h.ne_s.2 e.symm)).kept gs (fun e => h.ne_ring (by cases e; rfl)), hrow, (h.recvs.kept hg' (opt_ne (fun g e1 e2 => h.apart g e2 e1))).kept gs ?_, ?_⟩
    · cases e : v1.ownBlock with
      | none => exact .inl rfl
      | some g => exact .inr (fun e2 => h.ne_r.1 (by rw [e]; cases e2; rfl))
    · intro g e2 e1
      rcases ho with h1 | ⟨g', h1, h2⟩
      · exact h.apart g (h1.symm.trans e2) e1
      · have e3 : v'.ownBlock = some g := e2
        rw [h1] at e3; cases e3
        obtain ⟨cs, hc⟩ := own_at h.recvs e1
        have := (Array.getElem?_eq_some_iff.1 hc).1
        omega
/-- What is F's. -/
structure Own (F : Nat → Prop) (C B : Nat) (v0 v1 : Value) : Prop where
  c : F C
  b : F B
  s : ∀ g, v0.ownBlock = some g → F g
  r : ∀ g, v1.ownBlock = some g → F g
theorem Chn.at (h : Chn W F C m cl buf S R) : ∃ B v0 v1, ChAt W C B m cl v0 v1 buf S R ∧ Own F C B v0 v1 := by
  obtain ⟨B, v0, v1, h, h1, h2, h3, h4⟩ := h
  exact ⟨B, v0, v1, h, h1, h2, h3, h4⟩
theorem ChAt.chn (h : ChAt W C B m cl v0 v1 buf S R) (ho : Own F C B v0 v1) : Chn W F C m cl buf S R := ⟨B, v0, v1, h, ho.c, ho.b, ho.s, ho.r⟩
theorem Own.turn (h : Own F C B v0 v1) (W : World) (ho : v'.ownBlock = (if s then v0 else v1).ownBlock ∨ ∃ g, v'.ownBlock = some g ∧ W.heap.size ≤ g) : Own (Fw F W) C B (if s then v' else v0) (if s then v1 else v') := by
  have hv : ∀ g, v'.ownBlock = some g → Fw F W g := fun g e => by
    rcases ho with h1 | ⟨g', h1, h2⟩
    · rw [h1] at e
      cases s
      · exact .inl (h.r g e)
      · exact .inl (h.s g e)
    · rw [h1] at e; cases e; exact .inr h2
  cases s
  · exact ⟨.inl h.c, .inl h.b, fun g e => .inl (h.s g e), hv⟩
  · exact ⟨.inl h.c, .inl h.b, hv, fun g e => .inl (h.r g e)⟩
theorem Own.frm (h : Own F C B v0 v1) (hg : W.grownBy w3 (if s then v0 else v1).ownBlock) (v : Value) (k : Nat) : Frm F W (w3.setCell ⟨C, k, none⟩ v) :=
  (Frm.of_grown hg (fun g e => by
    cases s
    · exact h.r g e
    · exact h.s g e)).next (Frm.set w3 v (.inl h.c))
end

theorem Frm.old {F : Nat → Prop} {w w1 w2 : World} (h : Below w.heap.size w w1) (k : Frm F w1 w2) : Frm F w w2 :=
  ⟨k.os.trans h.os, k.tape.trans h.tape, k.output.trans h.output, Nat.le_trans h.size k.size, fun i hi hn => (k.block i (Nat.lt_of_lt_of_le hi h.size) hn).trans (h.block i hi)⟩
theorem Frm.new3 {F : Nat → Prop} {w w2 : World} {n : Nat} (h : Frm F w w2) (hn : w.heap.size ≤ n) (a b c : Value) : Frm F w (((w2.setCell ⟨n, 0, none⟩ a).setCell ⟨n, 1, none⟩ b).setCell ⟨n, 2, none⟩ c) :=
  ((h.next (Frm.set w2 a (.inr hn))).next (Frm.set _ b (.inr hn))).next (Frm.set _ c (.inr hn))
section
variable {W : World} {n C B m : Nat} {cl : Bool} {v0 v1 : Value} {buf : List Int} {S R : List Wt}
/-- All blocks of a channel lie below n. -/
structure Low (n C B : Nat) (v0 v1 : Value) : Prop where
  c : C < n
  b : B < n
  s : ∀ g, v0.ownBlock = some g → g < n
  r : ∀ g, v1.ownBlock = some g → g < n
theorem ChAt.low (h : ChAt W C B m cl v0 v1 buf S R) : Low W.heap.size C B v0 v1 :=
  ⟨h.lt, h.ring.lt, fun g e => by obtain ⟨cs, hc⟩ := own_at h.sends e; exact (Array.getElem?_eq_some_iff.1 hc).1, fun g e => by obtain ⟨cs, hc⟩ := own_at h.recvs e; exact (Array.getElem?_eq_some_iff.1 hc).1⟩
theorem Low.w (h : Low n C B v0 v1) (s : Bool) : ∀ g, (if s then v0 else v1).ownBlock = some g → g < n := by
  cases s
  · exact h.r
  · exact h.s
theorem Low.turn {v' : Value} {s : Bool} (h : Low n C B v0 v1) (hv : ∀ g, v'.ownBlock = some g → g < n) : Low n C B (if s then v' else v0) (if s then v1 else v') := by
  cases s
  · exact ⟨h.c, h.b, h.s, hv⟩
  · exact ⟨h.c, h.b, hv, h.r⟩
theorem ChAt.off (h : ChAt W C B m cl v0 v1 buf S R) (hl : Low n C B v0 v1) (k : Nat) (a : Value) : ChAt (W.setCell ⟨n, k, none⟩ a) C B m cl v0 v1 buf S R := by
  have gs := grownBy_setCell W ⟨n, k, none⟩ a
  refine ⟨(Below.heap_setCell _ _ _ C (by have := hl.c; simp; omega)).trans h.head, h.ring.kept gs (fun e => by have := hl.b; cases e; simp at this), h.sends.kept gs ?_, h.recvs.kept gs ?_, h.apart⟩
  · cases e : v0.ownBlock with
    | none => exact .inl rfl
    | some g => exact .inr (fun e2 => by have := hl.s g e; cases e2; simp at this)
  · cases e : v1.ownBlock with
    | none => exact .inl rfl
    | some g => exact .inr (fun e2 => by have := hl.r g e; cases e2; simp at this)
end

set_option maxRecDepth 100000 in
set_option maxHeartbeats 2000000 in
theorem take_any {F : Nat → Prop} {C m : Nat} {cl : Bool} {buf : List Int} {S R t : List Wt} {x : Wt} (s : Bool) (w : World) (h : Chn w F C m cl buf S R) (hxs : sel s S R = x :: t) (hl : (sel s S R).length ≤ 1000) :
    Calls Try.prog 30 #[.pointer (some ⟨C, 0, none⟩), .bool s] w fun e w' => e = .returned (.tuple #[x.val, .int .i64 0]) ∧ Chn w' (Fw F w) C m cl buf (sel s t S) (sel s R t) ∧ Frm F w w' := by
  obtain ⟨B, v0, v1, h, ho⟩ := h.at
  obtain ⟨wa, hwa⟩ : ∃ wa, wa = w.alloc (.cells #[.int .i64 0, .int .i64 0, .int .i64 0] 31) := ⟨_, rfl⟩
  have hba : Below w.heap.size w wa := by rw [hwa]; exact below1 w _
  have hra : WtAt wa w.heap.size .zero := by rw [hwa]; exact wtAt_new w .zero
  have ha := h.below hba
  have hf := first_any wa (ha.w s) (ha.row s) hl
  have hrow0 := ha.row s
  rw [show (if s = true then S else R) = x :: t from hxs] at hf hrow0
  obtain ⟨v, hv⟩ : ∃ v, v = (if s then v0 else v1) := ⟨_, rfl⟩
  go_enter Try.func30, Try.ntmps30
  go_wp2_with fail
  rw [← hwa]
  clear hwa
  refine hf.mono ?_
  clear hf
  rintro e w1 ⟨rfl, hb1⟩
  rw [show headW (x :: t) = x from rfl, show (x :: t).head?.isSome = true from rfl]
  unfold Wt.val
  obtain ⟨w2, hw2⟩ : ∃ w2, w2 = w1.alloc (.cells #[.int .i64 x.t, .int .i64 x.c, .int .i64 x.v] 31) := ⟨_, rfl⟩
  have hb2 : Below wa.heap.size wa w2 := by rw [hw2]; exact Below.al hb1 hb1.size _
  have hx2 : WtAt w2 w1.heap.size x := by rw [hw2]; exact wtAt_new w1 x
  have h2 := ha.below hb2
  have hr2 := hra.below hb2
  have hcell := h2.w s
  have hfro := h2.frozen (2 + ix s)
  have hi0 : (0 : Int) ≤ (ix s : Int) := by omega
  have hi2 : (ix s : Int) < 2 := by have := ix_lt s; omega
  rw [← hv] at hcell
  go_wp2_with fail
  refine (rowOf_any s _).mono ?_
  rintro e w' ⟨rfl, rfl⟩
  rw [← hw2]
  clear hw2
  have hlow := h.low
  have hvl := hlow.w s
  rw [← hv] at hvl hrow0
  have hrow2 : w2.drew.ownsRow 0 31 3 v (t.length + 1) (flatW (x :: t)) := (hrow0.kept (grown_below hb2) (by cases v.ownBlock <;> simp)).drew
  have hdel := delete_first w2.drew hrow2
  have hw02 := below_nx hba hb2 (Nat.le_refl _)
  have hsz1 : w.heap.size < w1.heap.size := Nat.lt_of_lt_of_le hra.lt hb1.size
  have hsz2 := hw02.size
  have hd2 : w2.heap.size = w2.drew.heap.size := rfl
  have hx2d : WtAt w2.drew w1.heap.size x := hx2
  have hr2d : WtAt w2.drew w.heap.size .zero := hr2
  have hcd : w2.drew.cell? ⟨C, 2 + ix s, none⟩ = some v := hcell
  have hneC : v.ownBlock ≠ some C := by rw [hv]; exact h.ne_w s
  have hk3 : ∀ {w3 : World}, w2.drew.grownBy w3 v.ownBlock → w3.cell? ⟨C, 2 + ix s, none⟩ = some v ∧ w3.frozen? ⟨C, 2 + ix s, none⟩ = false := fun {w3} hg =>
    ⟨hg.cell hcd (fun e => hneC e.symm), (World.frozen?_of_block (hg.block C (Nat.lt_of_lt_of_le h.lt hsz2) (fun e => hneC e.symm))).trans hfro⟩
  have H3 : ∀ {w3 : World} {v' : Value}, v'.ownBlock = v.ownBlock → w3.ownsRow 0 31 3 v' t.length (flatW t) → w2.drew.grownBy w3 v.ownBlock →
      WtAt (w3.setCell ⟨C, 2 + ix s, none⟩ v') w1.heap.size x ∧ WtAt (w3.setCell ⟨C, 2 + ix s, none⟩ v') w.heap.size .zero ∧ ChAt (w3.setCell ⟨C, 2 + ix s, none⟩ v') C B m cl (if s then v' else v0) (if s then v1 else v') buf (if s then t else S) (if s then R else t) ∧ Frm F w (w3.setCell ⟨C, 2 + ix s, none⟩ v') := by
    intro w3 v' hov hr hg
    have hg' : w2.drew.grownBy w3 (if s then v0 else v1).ownBlock := by rw [← hv]; exact hg
    have ht := h2.drew.turn (s := s) (.inl (by rw [hov, hv])) hr hg'
    have hF := Frm.old (F := F) hw02.drew (ho.frm hg' v' (2 + ix s))
    have hnb : ∀ n, w.heap.size ≤ n → some n ≠ v.ownBlock := fun n hn e => by have := hvl n e.symm; omega
    have k1 : WtAt w3 w1.heap.size x := hx2d.of_block (hg.block _ hx2d.lt (hnb _ (by omega)))
    have k2 : WtAt w3 w.heap.size .zero := hr2d.of_block (hg.block _ hr2d.lt (hnb _ (Nat.le_refl _)))
    have hC := h.lt
    exact ⟨k1.of_block (Below.heap_setCell _ _ _ _ (by simp; omega)), k2.of_block (Below.heap_setCell _ _ _ _ (by simp; omega)), ht, hF⟩
  have HV := Lib.hid hv
  clear ha hra hrow0 hba hb1 hb2 hx2 hr2 h2 hrow2 hv
  go_wp2_with fail
  go_region_with (go_at_call 35; with_reducible refine hdel.mono ?_; rintro e w3 ⟨v', rfl, hov, hr3, hg3⟩; obtain ⟨a3, c3, rfl⟩ := owns_slice' hr3; obtain ⟨hc3, hf3⟩ := hk3 hg3)
  all_goals obtain ⟨k1, k2, h4, hF4⟩ := H3 hov hr3 hg3
  all_goals obtain ⟨w4, hw4⟩ : ∃ w4, w4 = w3.setCell ⟨C, 2 + ix s, none⟩ (.slice a3 t.length c3) := ⟨_, rfl⟩
  all_goals rw [← hw4] at k1 k2 h4 hF4 ⊢
  all_goals clear hw4
  all_goals have x0 := k1.c0
  all_goals have x1 := k1.c1
  all_goals have x2 := k1.c2
  all_goals have y0 := k2.c0
  all_goals have y1 := k2.c1
  all_goals have y2 := k2.c2
  all_goals have z0 := k2.frozen 0
  all_goals have z1 := k2.frozen 1
  all_goals have z2 := k2.frozen 2
  all_goals go_wp2_with fail
  all_goals have k5 := k2.set x
  all_goals have e0 := k5.c0
  all_goals have e1 := k5.c1
  all_goals have e2 := k5.c2
  all_goals refine bodyPost_ret (v := .tuple #[x.val, .int .i64 0]) (by simp [results, Wt.val, Try.f30, go_sem, e0, e1, e2]) rfl ?_
  all_goals have hlw := hlow.turn (v' := .slice a3 t.length c3) (s := s) (fun g e => hvl g (hov.symm.trans e))
  all_goals exact ⟨rfl, (((h4.off hlw 0 _).off hlw 1 _).off hlw 2 _).chn (Own.turn ho w (.inl (by rw [hov, HV.out]))), hF4.new3 (Nat.le_refl _) _ _ _⟩
end Go.Proofs.Ytbelfcfdgkmnmaa
