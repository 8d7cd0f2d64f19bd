/-
  ModelMoves: its walks, part 18: MTake MMore.
-/
import Derived.Deep.RegionWith
import Derived.Lib.LazyBuf
import Derived.Test.YtdijhgaaeifbfaaGreatQ00
import Derived.Test.YtdijhgaaeifbfaaGreatQ17
set_option maxRecDepth 100000
set_option maxHeartbeats 12800000
namespace Go.Proofs.YtdijhgaaeifbfaaGreat.Mch
open Go.RowKit
section
variable {W w3 : World} {F : Nat -> Prop} {C B m : Nat} {cl : Bool} {v0 v1 v' : Value} {buf : List Int} {S R l : List Wt} {s : Bool}
theorem opt_ne {a b : Option Nat} (h : ∀ g, a = some g -> b ≠ some g) : a = none \/ a ≠ b := by
  cases a with
  | none => exact .inl rfl
  | some g => exact .inr (fun e => h g rfl e.symm)
theorem ChAt.ne_w (h : ChAt W C B m cl v0 v1 buf S R) (s : Bool) : (if s then v0 else v1).ownBlock ≠ some C := by
  cases s
  · exact h.ne_r.1
  · exact h.ne_s.1
theorem ChAt.turn (h : ChAt W C B m cl v0 v1 buf S R) (ho : v'.ownBlock = (if s then v0 else v1).ownBlock \/ ∃ g, v'.ownBlock = some g /\ W.heap.size <= g) (hr : w3.ownsRow 0 134 3 v' l.length (flatW l)) (hg : W.grownBy w3 (if s then v0 else v1).ownBlock) :
    ChAt (w3.setCell ⟨C, 2 + ix s, none⟩ v') C B m cl (if s then v' else v0) (if s then v1 else v') buf (if s then l else S) (if s then R else l) := by
  have gs := grownBy_setCell w3 ⟨C, 2 + ix s, none⟩ v'
  have hrl : ∀ g, v'.ownBlock = some g -> g ≠ C := by
    rintro g e rfl
    rcases ho with h1 | ⟨g', h1, h2⟩
    · rw [e] at h1
      cases s
      · exact h.ne_r.1 h1.symm
      · exact h.ne_s.1 h1.symm
    · rw [h1] at e; cases e
      have := h.lt; omega
  have hrow : (w3.setCell ⟨C, 2 + ix s, none⟩ v').ownsRow 0 134 3 v' l.length (flatW l) := hr.kept gs (by
    cases e : v'.ownBlock with
    | none => exact .inl rfl
    | some g => exact .inr (fun e2 => hrl g e (by cases e2; rfl)))
  cases s
  · have hg' : W.grownBy w3 v1.ownBlock := hg
    have hh : w3.heap[C]? = some (.cells #[.pointer (some ⟨B, 0, none⟩), .bool cl, v0, v1] 112 (0, 0)) := (hg'.block C h.lt (fun e => h.ne_r.1 e.symm)).trans h.head
    refine ⟨by simpa [ix] using heap_setCell_same (k := 3) v' hh, (h.ring.kept hg' (fun e => h.ne_r.2 e.symm)).kept gs (fun e => h.ne_ring (by cases e; rfl)), (h.sends.kept hg' (opt_ne h.apart)).kept gs ?_, hrow, ?_⟩
    · cases e : v0.ownBlock with
      | none => exact .inl rfl
      | some g => exact .inr (fun e2 => h.ne_s.1 (by rw [e]; cases e2; rfl))
    · intro g e1 e2
      rcases ho with h1 | ⟨g', h1, h2⟩
      · exact h.apart g e1 (h1.symm.trans e2)
      · have e3 : v'.ownBlock = some g := e2
        rw [h1] at e3; cases e3
        obtain ⟨cs, hc⟩ := own_at h.sends e1
        have := (Array.getElem?_eq_some_iff.1 hc).1
        omega
  · have hg' : W.grownBy w3 v0.ownBlock := hg
    have hh : w3.heap[C]? = some (.cells #[.pointer (some ⟨B, 0, none⟩), .bool cl, v0, v1] 112 (0, 0)) := (hg'.block C h.lt (fun e => h.ne_s.1 e.symm)).trans h.head
    refine ⟨by simpa [ix] using heap_setCell_same (k := 2) v' hh, (h.ring.kept hg' (fun e => h.ne_s.2 e.symm)).kept gs (fun e => h.ne_ring (by cases e; rfl)), hrow, (h.recvs.kept hg' (opt_ne (fun g e1 e2 => h.apart g e2 e1))).kept gs ?_, ?_⟩
    · cases e : v1.ownBlock with
      | none => exact .inl rfl
      | some g => exact .inr (fun e2 => h.ne_r.1 (by rw [e]; cases e2; rfl))
    · intro g e2 e1
      rcases ho with h1 | ⟨g', h1, h2⟩
      · exact h.apart g (h1.symm.trans e2) e1
      · have e3 : v'.ownBlock = some g := e2
        rw [h1] at e3; cases e3
        obtain ⟨cs, hc⟩ := own_at h.recvs e1
        have := (Array.getElem?_eq_some_iff.1 hc).1
        omega
structure Own (F : Nat -> Prop) (C B : Nat) (v0 v1 : Value) : Prop where
  c : F C
  b : F B
  s : ∀ g, v0.ownBlock = some g -> F g
  r : ∀ g, v1.ownBlock = some g -> F g
theorem Chn.at (h : Chn W F C m cl buf S R) : ∃ B v0 v1, ChAt W C B m cl v0 v1 buf S R /\ Own F C B v0 v1 := by
  obtain ⟨B, v0, v1, h, h1, h2, h3, h4⟩ := h
  exact ⟨B, v0, v1, h, h1, h2, h3, h4⟩
theorem ChAt.chn (h : ChAt W C B m cl v0 v1 buf S R) (ho : Own F C B v0 v1) : Chn W F C m cl buf S R := ⟨B, v0, v1, h, ho.c, ho.b, ho.s, ho.r⟩
theorem Own.turn (h : Own F C B v0 v1) (W : World) (ho : v'.ownBlock = (if s then v0 else v1).ownBlock \/ ∃ g, v'.ownBlock = some g /\ W.heap.size <= g) : Own (Fw F W) C B (if s then v' else v0) (if s then v1 else v') := by
  have hv : ∀ g, v'.ownBlock = some g -> Fw F W g := fun g e => by
    rcases ho with h1 | ⟨g', h1, h2⟩
    · rw [h1] at e
      cases s
      · exact .inl (h.r g e)
      · exact .inl (h.s g e)
    · rw [h1] at e; cases e; exact .inr h2
  cases s
  · exact ⟨.inl h.c, .inl h.b, fun g e => .inl (h.s g e), hv⟩
  · exact ⟨.inl h.c, .inl h.b, hv, fun g e => .inl (h.r g e)⟩
theorem Own.frm (h : Own F C B v0 v1) (hg : W.grownBy w3 (if s then v0 else v1).ownBlock) (v : Value) (k : Nat) : Frm F W (w3.setCell ⟨C, k, none⟩ v) :=
  (Frm.of_grown hg (fun g e => by
    cases s
    · exact h.r g e
    · exact h.s g e)).next (Frm.set w3 v (.inl h.c))
end
theorem Frm.old {F : Nat -> Prop} {w w1 w2 : World} (h : Below w.heap.size w w1) (k : Frm F w1 w2) : Frm F w w2 :=
  ⟨k.os.trans h.os, k.tape.trans h.tape, k.output.trans h.output, Nat.le_trans h.size k.size, fun i hi hn => (k.block i (Nat.lt_of_lt_of_le hi h.size) hn).trans (h.block i hi)⟩
theorem Frm.new3 {F : Nat -> Prop} {w w2 : World} {n : Nat} (h : Frm F w w2) (hn : w.heap.size <= n) (a b c : Value) : Frm F w (((w2.setCell ⟨n, 0, none⟩ a).setCell ⟨n, 1, none⟩ b).setCell ⟨n, 2, none⟩ c) :=
  ((h.next (Frm.set w2 a (.inr hn))).next (Frm.set _ b (.inr hn))).next (Frm.set _ c (.inr hn))
section
variable {W : World} {n C B m : Nat} {cl : Bool} {v0 v1 : Value} {buf : List Int} {S R : List Wt}
structure Low (n C B : Nat) (v0 v1 : Value) : Prop where
  c : C < n
  b : B < n
  s : ∀ g, v0.ownBlock = some g -> g < n
  r : ∀ g, v1.ownBlock = some g -> g < n
theorem ChAt.low (h : ChAt W C B m cl v0 v1 buf S R) : Low W.heap.size C B v0 v1 :=
  ⟨h.lt, h.ring.lt, fun g e => by obtain ⟨cs, hc⟩ := own_at h.sends e; exact (Array.getElem?_eq_some_iff.1 hc).1, fun g e => by obtain ⟨cs, hc⟩ := own_at h.recvs e; exact (Array.getElem?_eq_some_iff.1 hc).1⟩
theorem Low.w (h : Low n C B v0 v1) (s : Bool) : ∀ g, (if s then v0 else v1).ownBlock = some g -> g < n := by
  cases s
  · exact h.r
  · exact h.s
theorem Low.turn {v' : Value} {s : Bool} (h : Low n C B v0 v1) (hv : ∀ g, v'.ownBlock = some g -> g < n) : Low n C B (if s then v' else v0) (if s then v1 else v') := by
  cases s
  · exact ⟨h.c, h.b, h.s, hv⟩
  · exact ⟨h.c, h.b, hv, h.r⟩
theorem ChAt.off (h : ChAt W C B m cl v0 v1 buf S R) (hl : Low n C B v0 v1) (k : Nat) (a : Value) : ChAt (W.setCell ⟨n, k, none⟩ a) C B m cl v0 v1 buf S R := by
  have gs := grownBy_setCell W ⟨n, k, none⟩ a
  refine ⟨(Below.heap_setCell _ _ _ C (by have := hl.c; simp; omega)).trans h.head, h.ring.kept gs (fun e => by have := hl.b; cases e; simp at this), h.sends.kept gs ?_, h.recvs.kept gs ?_, h.apart⟩
  · cases e : v0.ownBlock with
    | none => exact .inl rfl
    | some g => exact .inr (fun e2 => by have := hl.s g e; cases e2; simp at this)
  · cases e : v1.ownBlock with
    | none => exact .inl rfl
    | some g => exact .inr (fun e2 => by have := hl.r g e; cases e2; simp at this)
end
theorem take_any {F : Nat -> Prop} {C m : Nat} {cl : Bool} {buf : List Int} {S R t : List Wt} {x : Wt} (s : Bool) (w : World) (h : Chn w F C m cl buf S R) (hxs : sel s S R = x :: t) (hl : (sel s S R).length <= 1000) :
    Calls Tryz.prog 166 #[.pointer (some ⟨C, 0, none⟩), .bool s] w fun e w' => e = .returned (.tuple #[x.val, .int .i64 0]) /\ Chn w' (Fw F w) C m cl buf (sel s t S) (sel s R t) /\ Frm F w w' := by
  obtain ⟨B, v0, v1, h, ho⟩ := h.at
  obtain ⟨wa, hwa⟩ : ∃ wa, wa = w.alloc (.cells #[.int .i64 0, .int .i64 0, .int .i64 0] 134) := ⟨_, rfl⟩
  have hba : Below w.heap.size w wa := by rw [hwa]; exact below1 w _
  have hra : WtAt wa w.heap.size .zero := by rw [hwa]; exact wtAt_new w .zero
  have ha := h.below hba
  have hf := first_any wa (ha.w s) (ha.row s) hl
  have hrow0 := ha.row s
  rw [show (if s = true then S else R) = x :: t from hxs] at hf hrow0
  obtain ⟨v, hv⟩ : ∃ v, v = (if s then v0 else v1) := ⟨_, rfl⟩
  go_enter Tryz.func166, Tryz.ntmps166
  go_wp2_with fail
  rw [<- hwa]
  clear hwa
  refine hf.mono ?_
  clear hf
  rintro e w1 ⟨rfl, hb1⟩
  rw [show headW (x :: t) = x from rfl, show (x :: t).head?.isSome = true from rfl]
  unfold Wt.val
  obtain ⟨w2, hw2⟩ : ∃ w2, w2 = w1.alloc (.cells #[.int .i64 x.t, .int .i64 x.c, .int .i64 x.v] 134) := ⟨_, rfl⟩
  have hb2 : Below wa.heap.size wa w2 := by rw [hw2]; exact Below.al hb1 hb1.size _
  have hx2 : WtAt w2 w1.heap.size x := by rw [hw2]; exact wtAt_new w1 x
  have h2 := ha.below hb2
  have hr2 := hra.below hb2
  have hcell := h2.w s
  have hfro := h2.frozen (2 + ix s)
  have hi0 : (0 : Int) <= (ix s : Int) := by omega
  have hi2 : (ix s : Int) < 2 := by have := ix_lt s; omega
  rw [<- hv] at hcell
  go_wp2_with fail
  refine (rowOf_any s _).mono ?_
  rintro e w' ⟨rfl, rfl⟩
  rw [<- hw2]
  clear hw2
  have hlow := h.low
  have hvl := hlow.w s
  rw [<- hv] at hvl hrow0
  have hrow2 : w2.drew.ownsRow 0 134 3 v (t.length + 1) (flatW (x :: t)) := (hrow0.kept (grown_below hb2) (by cases v.ownBlock <;> simp)).drew
  have hdel := delete_first w2.drew hrow2
  have hw02 := below_nx hba hb2 (Nat.le_refl _)
  have hsz1 : w.heap.size < w1.heap.size := Nat.lt_of_lt_of_le hra.lt hb1.size
  have hsz2 := hw02.size
  have hd2 : w2.heap.size = w2.drew.heap.size := rfl
  have hx2d : WtAt w2.drew w1.heap.size x := hx2
  have hr2d : WtAt w2.drew w.heap.size .zero := hr2
  have hcd : w2.drew.cell? ⟨C, 2 + ix s, none⟩ = some v := hcell
  have hneC : v.ownBlock ≠ some C := by rw [hv]; exact h.ne_w s
  have hk3 : ∀ {w3 : World}, w2.drew.grownBy w3 v.ownBlock -> w3.cell? ⟨C, 2 + ix s, none⟩ = some v /\ w3.frozen? ⟨C, 2 + ix s, none⟩ = false := fun {w3} hg =>
    ⟨hg.cell hcd (fun e => hneC e.symm), (World.frozen?_of_block (hg.block C (Nat.lt_of_lt_of_le h.lt hsz2) (fun e => hneC e.symm))).trans hfro⟩
  have H3 : ∀ {w3 : World} {v' : Value}, v'.ownBlock = v.ownBlock -> w3.ownsRow 0 134 3 v' t.length (flatW t) -> w2.drew.grownBy w3 v.ownBlock ->
      WtAt (w3.setCell ⟨C, 2 + ix s, none⟩ v') w1.heap.size x /\ WtAt (w3.setCell ⟨C, 2 + ix s, none⟩ v') w.heap.size .zero /\ ChAt (w3.setCell ⟨C, 2 + ix s, none⟩ v') C B m cl (if s then v' else v0) (if s then v1 else v') buf (if s then t else S) (if s then R else t) /\ Frm F w (w3.setCell ⟨C, 2 + ix s, none⟩ v') := by
    intro w3 v' hov hr hg
    have hg' : w2.drew.grownBy w3 (if s then v0 else v1).ownBlock := by rw [<- hv]; exact hg
    have ht := h2.drew.turn (s := s) (.inl (by rw [hov, hv])) hr hg'
    have hF := Frm.old (F := F) hw02.drew (ho.frm hg' v' (2 + ix s))
    have hnb : ∀ n, w.heap.size <= n -> some n ≠ v.ownBlock := fun n hn e => by have := hvl n e.symm; omega
    have k1 : WtAt w3 w1.heap.size x := hx2d.of_block (hg.block _ hx2d.lt (hnb _ (by omega)))
    have k2 : WtAt w3 w.heap.size .zero := hr2d.of_block (hg.block _ hr2d.lt (hnb _ (Nat.le_refl _)))
    have hC := h.lt
    exact ⟨k1.of_block (Below.heap_setCell _ _ _ _ (by simp; omega)), k2.of_block (Below.heap_setCell _ _ _ _ (by simp; omega)), ht, hF⟩
  have HV := Lib.hid hv
  clear ha hra hrow0 hba hb1 hb2 hx2 hr2 h2 hrow2 hv
  go_wp2_with fail
  go_region_with (go_at_call 172; with_reducible refine hdel.mono ?_; rintro e w3 ⟨v', rfl, hov, hr3, hg3⟩; obtain ⟨a3, c3, rfl⟩ := owns_slice' hr3; obtain ⟨hc3, hf3⟩ := hk3 hg3)
  all_goals obtain ⟨k1, k2, h4, hF4⟩ := H3 hov hr3 hg3
  all_goals obtain ⟨w4, hw4⟩ : ∃ w4, w4 = w3.setCell ⟨C, 2 + ix s, none⟩ (.slice a3 t.length c3) := ⟨_, rfl⟩
  all_goals rw [<- hw4] at k1 k2 h4 hF4 ⊢
  all_goals clear hw4
  all_goals have x0 := k1.c0
  all_goals have x1 := k1.c1
  all_goals have x2 := k1.c2
  all_goals have y0 := k2.c0
  all_goals have y1 := k2.c1
  all_goals have y2 := k2.c2
  all_goals have z0 := k2.frozen 0
  all_goals have z1 := k2.frozen 1
  all_goals have z2 := k2.frozen 2
  all_goals go_wp2_with fail
  all_goals have k5 := k2.set x
  all_goals have e0 := k5.c0
  all_goals have e1 := k5.c1
  all_goals have e2 := k5.c2
  all_goals refine bodyPost_ret (v := .tuple #[x.val, .int .i64 0]) (by simp [results, Wt.val, Tryz.f166, go_sem, e0, e1, e2]) rfl ?_
  all_goals have hlw := hlow.turn (v' := .slice a3 t.length c3) (s := s) (fun g e => hvl g (hov.symm.trans e))
  all_goals exact ⟨rfl, (((h4.off hlw 0 _).off hlw 1 _).off hlw 2 _).chn (Own.turn ho w (.inl (by rw [hov, HV.out]))), hF4.new3 (Nat.le_refl _) _ _ _⟩
open Go.RowKit
section
variable {C B m : Nat} {cl : Bool} {v0 v1 : Value} {buf : List Int} {S R : List Wt}
theorem closed_any (w : World) (h : ChAt w C B m cl v0 v1 buf S R) :
    Calls Tryz.prog 59 #[.pointer (some ⟨C, 0, none⟩)] w fun e w' => e = .returned (.bool cl) /\ w' = w := by
  have hc := h.c
  clear h
  go_enter Tryz.func59, Tryz.ntmps59
  go_wp2_with fail
  go_ret
  exact ⟨rfl, rfl⟩
theorem close_any {F : Nat -> Prop} (w : World) (h : Chn w F C m cl buf S R) :
    Calls Tryz.prog 112 #[.pointer (some ⟨C, 0, none⟩)] w fun e w' => (∃ k : Int, e = .returned (.int .i64 k)) /\ Chn w' F C m true buf S R /\ Frm F w w' := by
  obtain ⟨B, v0, v1, h, ho⟩ := h.at
  have hc := h.c
  have hf := h.frozen 1
  cases cl with
  | true =>
    have HH := Lib.hid (h.chn ho)
    clear h
    go_enter Tryz.func112, Tryz.ntmps112
    go_wp2_with fail
    go_ret
    exact ⟨⟨_, rfl⟩, HH.out, Frm.refl _ _⟩
  | false =>
    have gs := grownBy_setCell w ⟨C, 1, none⟩ (.bool true)
    have HH : Hid (Chn (w.setCell ⟨C, 1, none⟩ (.bool true)) F C m true buf S R /\ Frm F w (w.setCell ⟨C, 1, none⟩ (.bool true))) := Lib.hid ⟨by
      refine ChAt.chn (B := B) (v0 := v0) (v1 := v1) ⟨?_, h.ring.kept gs (fun e => h.ne_ring (by cases e; rfl)), h.sends.kept gs ?_, h.recvs.kept gs ?_, h.apart⟩ ho
      · have := heap_setCell_same (k := 1) (.bool true) h.head
        simpa using this
      · cases e : v0.ownBlock with
        | none => exact .inl rfl
        | some g => exact .inr (fun e2 => h.ne_s.1 (by rw [e]; exact e2))
      · cases e : v1.ownBlock with
        | none => exact .inl rfl
        | some g => exact .inr (fun e2 => h.ne_r.1 (by rw [e]; exact e2)), Frm.set w _ ho.c⟩
    clear h gs
    go_enter Tryz.func112, Tryz.ntmps112
    go_wp2_with fail
    go_ret
    exact ⟨⟨_, rfl⟩, HH.out⟩
end
theorem cloneW_any {b : Nat} {v : Value} {l : List Wt} (w : World) (h : w.ownsRow b 134 3 v l.length (flatW l)) (hn : l.length <= 1000000) :
    Calls Tryz.prog 81 #[v] w fun e w' => ∃ v', e = .returned v' /\ w'.ownsRow w.heap.size 134 3 v' l.length (flatW l) /\ Below w.heap.size w w' := by
  obtain ⟨n, hnl⟩ : ∃ n, n = l.length := ⟨_, rfl⟩
  obtain ⟨xs, hxs⟩ : ∃ xs, xs = flatW l := ⟨_, rfl⟩
  have h1 : ∀ u ∈ xs, u.oneCell' = true := by rw [hxs]; exact flatW_one l
  have hl : xs.length = n * 3 := by rw [hxs, hnl]; exact flatW_len l
  rw [<- hnl, <- hxs] at h ⊢
  rw [<- hnl] at hn
  clear hnl hxs
  rcases id h.2 with ⟨rfl, hn0⟩ | ⟨g, cap, cur, rfl, hg, hb, _⟩
  · have qT : ∀ w : World, (binOp .eql 109 (.slice none 0 0) (.slice none 0 0)).run Tryz.prog w = .ok (.bool true) w := fun w => Lib.run_eql_slice_nil w 109 134 none 0 0 0 0 Tryz.underlying109
    have HH : Hid (n = 0 /\ xs = []) := Lib.hid ⟨hn0, List.eq_nil_of_length_eq_zero (by omega)⟩
    clear h hn0 hl hn h1
    go_enter Tryz.func81, Tryz.ntmps81
    go_wp2_with fail
    go_ret
    obtain ⟨rfl, rfl⟩ := HH.out
    exact ⟨_, rfl, World.ownsRow_nil _ _ _ _, Below.refl _ _⟩
  · have qT : ∀ w : World, (binOp .eql 109 (.slice (some ⟨g, 0, none⟩) n cap) (.slice none 0 0)).run Tryz.prog w = .ok (.bool false) w := fun w => Lib.run_eql_slice_nil w 109 134 (some ⟨g, 0, none⟩) n cap 0 0 Tryz.underlying109
    obtain ⟨i0, hi, hz0, hz1, hz2⟩ := info_parts infoWait
    have hb0 : Below w.heap.size w (w.alloc (.cells #[] 134)) := below1 w _
    have hcs : ∀ j u, xs[j]? = some u -> (w.alloc (.cells #[] 134)).cell? (Addr.add ⟨g, 0, none⟩ j) = some u := fun j u hj => (h.alloc (.cells #[] 134)).cells (g := g) rfl j u hj
    clear h hb
    go_enter Tryz.func81, Tryz.ntmps81
    go_wp2_with (at_builtin; refine wpList_append_own _ rfl _ _ 109 rfl w.heap.size 134 i0 (.agg #[.int .i64 0, .int .i64 0, .int .i64 0]) 3 24 Tryz.underlying109 hi hz0 hz1 hz2 rfl (by decide) _ 0 [] rfl (World.ownsRow_made w #[] 0 (Nat.le_refl _) (by decide) rfl) ⟨g, 0, none⟩ n cap xs rfl ?c0 ?c1 ?c2 ?c3 ?c4 ?c5 ?_)
    case c0 => omega
    case c1 => exact hcs
    case c2 => exact h1
    case c3 => unfold maxLen; omega
    case c4 => omega
    try (case c5 => first | exact Nat.le_refl _ | omega | (simp; done) | (simp; omega))
    intro v1 w1 hown hgrow hnil
    have hown' : w1.ownsRow w.heap.size 134 3 v1 n xs := by simpa using hown
    have hb1 : Below w.heap.size w w1 := hb0.trans ⟨hgrow.os, hgrow.tape, hgrow.output, Nat.le_trans (by simp) hgrow.size, fun k hk => hgrow.block k (by simp; omega) (fun e => by have : k = w.heap.size := Option.some.inj e; omega)⟩
    obtain ⟨a', c', rfl⟩ := owns_slice' hown'
    clear hown hgrow hnil hcs
    go_wp2_with fail
    go_ret
    exact ⟨_, rfl, hown', hb1⟩
section
variable {W w3 : World} {F : Nat -> Prop} {C B m : Nat} {cl : Bool} {v0 v1 v' : Value} {buf : List Int} {S R l : List Wt} {s : Bool}
theorem ChAt.renew (h : ChAt W C B m cl v0 v1 buf S R) (ho : ∀ g, v'.ownBlock = some g -> W.heap.size <= g) (hr : w3.ownsRow 0 134 3 v' l.length (flatW l)) (hb : Below W.heap.size W w3) :
    ChAt (w3.setCell ⟨C, 2 + ix s, none⟩ v') C B m cl (if s then v' else v0) (if s then v1 else v') buf (if s then l else S) (if s then R else l) := by
  have gs := grownBy_setCell w3 ⟨C, 2 + ix s, none⟩ v'
  have h3 := h.below hb
  have hlow := h.low
  have hrow : (w3.setCell ⟨C, 2 + ix s, none⟩ v').ownsRow 0 134 3 v' l.length (flatW l) := hr.kept gs (by
    cases e : v'.ownBlock with
    | none => exact .inl rfl
    | some g => exact .inr (fun e2 => by have := ho g e; have := h.lt; cases e2; simp at this; omega))
  have ks : (w3.setCell ⟨C, 2 + ix s, none⟩ v').ownsRow 0 134 3 v0 S.length (flatW S) := h3.sends.kept gs (by
    cases e : v0.ownBlock with
    | none => exact .inl rfl
    | some g => exact .inr (fun e2 => h.ne_s.1 (by rw [e]; cases e2; rfl)))
  have kr : (w3.setCell ⟨C, 2 + ix s, none⟩ v').ownsRow 0 134 3 v1 R.length (flatW R) := h3.recvs.kept gs (by
    cases e : v1.ownBlock with
    | none => exact .inl rfl
    | some g => exact .inr (fun e2 => h.ne_r.1 (by rw [e]; cases e2; rfl)))
  have kb := h3.ring.kept gs (fun e => h.ne_ring (by cases e; rfl))
  cases s
  · exact ⟨by simpa [ix] using heap_setCell_same (k := 3) v' h3.head, kb, ks, hrow, fun g e1 e2 => by have e2' : v'.ownBlock = some g := e2; have := ho g e2'; have := hlow.s g e1; omega⟩
  · exact ⟨by simpa [ix] using heap_setCell_same (k := 2) v' h3.head, kb, hrow, kr, fun g e1 e2 => by have e1' : v'.ownBlock = some g := e1; have := ho g e1'; have := hlow.r g e2; omega⟩
theorem Own.renew (h : Own F C B v0 v1) (W : World) (ho : ∀ g, v'.ownBlock = some g -> W.heap.size <= g) : Own (Fw F W) C B (if s then v' else v0) (if s then v1 else v') := by
  cases s
  · exact ⟨.inl h.c, .inl h.b, fun g e => .inl (h.s g e), fun g e => .inr (ho g e)⟩
  · exact ⟨.inl h.c, .inl h.b, fun g e => .inr (ho g e), fun g e => .inl (h.r g e)⟩
theorem owns_ge {b : Nat} {e : TypeId} {v : Value} {k n : Nat} {xs : List Value} (h : W.ownsRow b e k v n xs) : ∀ g, v.ownBlock = some g -> b <= g := by
  rcases h.2 with ⟨rfl, _⟩ | ⟨g, cap, cur, rfl, hg, _⟩
  · intro g e; simp [Value.ownBlock] at e
  · intro g' e
    obtain rfl : g = g' := by simpa [Value.ownBlock] using e
    exact hg
theorem owns_zero {b : Nat} {e : TypeId} {v : Value} {k n : Nat} {xs : List Value} (h : W.ownsRow b e k v n xs) : W.ownsRow 0 e k v n xs := by
  refine ⟨h.1, ?_⟩
  rcases h.2 with h0 | ⟨g, cap, cur, rfl, _, r⟩
  · exact .inl h0
  · exact .inr ⟨g, cap, cur, rfl, Nat.zero_le _, r⟩
end
def Cpd (n : Nat) (W : World) (D k m : Nat) (cl : Bool) (buf : List Int) (S R : List Wt) : Prop :=
  Chn W (fun i => n <= i) D m cl buf (if 1 <= k then S else []) (if 2 <= k then R else [])
theorem ccopy_any {C m : Nat} {cl : Bool} {buf : List Int} {S R : List Wt} {F : Nat -> Prop} (w : World) (h : Chn w F C m cl buf S R) (hlS : S.length <= 1000) (hlR : R.length <= 1000) :
    Calls Tryz.prog 43 #[.pointer (some ⟨C, 0, none⟩)] w fun e w' => ∃ D, e = .returned (.pointer (some ⟨D, 0, none⟩)) /\ Chn w' (fun i => w.heap.size <= i) D m cl buf S R /\ Below w.heap.size w w' := by
  obtain ⟨B, v0, v1, h, -⟩ := h.at
  have hb := h.b
  have hc := h.c
  have hd : w.drew.cell? ⟨C, 0, none⟩ = some (.pointer (some ⟨B, 0, none⟩)) := hb
  have hcd : w.drew.cell? ⟨C, 1, none⟩ = some (.bool cl) := hc
  have hcp := copy_ring w.drew h.ring
  go_enter Tryz.func43, Tryz.ntmps43
  go_wp2_with fail
  go_cut [3] from 7 to 17 (fun dv W => ∃ D, dv = .pointer (some ⟨D, 0, none⟩) /\ Below w.heap.size w W /\ Cpd w.heap.size W D 0 m cl buf S R)
  case first =>
    have hk : ∀ w', w.drew.grownBy w' none -> w'.cell? ⟨C, 1, none⟩ = some (.bool cl) := fun w' hg => hg.cell hcd (by simp)
    go_region_with (go_at_call 80; with_reducible refine hcp.mono ?_; rintro e w1 ⟨rfl, hR, hg⟩; have hc1 := hk w1 hg)
    all_goals go_wp2_with fail
    all_goals go_meet
    all_goals have hb1 : Below w.heap.size w w1 := ((Below.refl _ w).drew).grown hg (Nat.le_refl _) (fun _ e => by cases e)
    all_goals exact ⟨_, rfl, Below.al hb1 hb1.size _, ⟨w.heap.size, _, _, ⟨World.alloc_heap_new w1 _, hR.below (below1 w1 _), World.ownsRow_nil _ _ _ _, World.ownsRow_nil _ _ _ _, fun g e => by simp [Value.ownBlock] at e⟩, hb1.size, Nat.le_refl _, fun g e => by simp [Value.ownBlock] at e, fun g e => by simp [Value.ownBlock] at e⟩⟩
  case rest =>
    obtain ⟨D, rfl, hB, hC⟩ := hcut
    clear hb hc hd hcd hcp
    go_wp2_with fail
    go_loopw [18] (fun iv wr => ∃ k : Nat, k <= 2 /\ iv = .int .i64 (k : Int) /\ Below w.heap.size w wr /\ Cpd w.heap.size wr D k m cl buf S R) (fun iv _ => 2 - (intOf iv).toNat)
    case atStart => exact ⟨0, by omega, rfl, hB, hC⟩
    case round =>
      clear hB hC
      obtain ⟨k, hk, rfl, hB, hC⟩ := hrel
      by_cases hlt : k < 2
      · obtain ⟨s, hs⟩ : ∃ s, ix s = k := by
          rcases (show k = 0 \/ k = 1 by omega) with rfl | rfl
          · exact ⟨true, rfl⟩
          · exact ⟨false, rfl⟩
        have hlt' : (k : Int) < 2 := by omega
        have q0 : (0 : Int) <= (k : Int) := by omega
        have hr := h.below hB
        obtain ⟨b', u0, u1, hd, hod⟩ := hC.at
        have x0 := hr.w s
        have x1 := hd.w s
        have x2 := hd.frozen (2 + ix s)
        have xr := hr.row s
        rw [hs] at x0 x1 x2
        obtain ⟨v, hv⟩ : ∃ v, v = (if s then v0 else v1) := ⟨_, rfl⟩
        rw [<- hv] at x0 xr
        have x0d : wr.drew.cell? ⟨C, 2 + k, none⟩ = some v := x0
        have hcl := cloneW_any wr.drew xr.drew (by cases s <;> simp <;> omega)
        have hkD : ∀ w3, Below wr.drew.heap.size wr.drew w3 -> (∃ u, w3.cell? ⟨D, 2 + k, none⟩ = some u) /\ w3.frozen? ⟨D, 2 + k, none⟩ = false := fun w3 hb => by
          have h3 := hd.below (W' := w3) ((Below.refl _ wr).drew.trans hb)
          refine ⟨⟨_, by have := h3.w s; rw [hs] at this; exact this⟩, by have := h3.frozen (2 + ix s); rw [hs] at this; exact this⟩
        have HD : ∀ (w3 : World) (v' : Value), w3.ownsRow wr.drew.heap.size 134 3 v' (if s then S else R).length (flatW (if s then S else R)) -> Below wr.drew.heap.size wr.drew w3 ->
            Below w.heap.size w (w3.setCell ⟨D, 2 + k, none⟩ v') /\ Cpd w.heap.size (w3.setCell ⟨D, 2 + k, none⟩ v') D (k + 1) m cl buf S R := by
          intro w3 v' hrow hb
          have hb' : Below wr.heap.size wr w3 := (Below.refl _ wr).drew.trans hb
          refine ⟨(hB.trans (hb'.mono hB.size)).setCell hod.c _, ?_⟩
          have h3 := (hd.renew (s := s) (owns_ge hrow) (owns_zero hrow) hb').chn (hod.renew wr (owns_ge hrow))
          rw [hs] at h3
          have h4 := h3.mono (G := fun i => w.heap.size <= i) (fun i e => e.elim id (fun e => Nat.le_trans hB.size e))
          unfold Cpd
          cases s
          · obtain rfl : k = 1 := hs.symm
            simpa using h4
          · obtain rfl : k = 0 := hs.symm
            simpa using h4
        obtain ⟨l, hl⟩ : ∃ l, l = (if s then S else R) := ⟨_, rfl⟩
        rw [<- hl] at hcl HD
        clear hr hd hod xr hC x0 x1 x2 hv hl
        go_wp2_with fail
        go_region_with (go_at_call 81; with_reducible refine hcl.mono ?_; rintro e w3 ⟨v', rfl, hrow3, hb3⟩; obtain ⟨⟨u3, hc3⟩, hf3⟩ := hkD w3 hb3; obtain ⟨a3, c3, rfl⟩ := owns_slice' hrow3)
        all_goals obtain ⟨r1, r2⟩ := HD w3 _ hrow3 hb3
        all_goals go_wp2_with fail
        all_goals go_roundw
        all_goals first
          | exact ⟨k + 1, by omega, by go_num, r1, r2⟩
          | (simp [intOf]; omega)
      · obtain rfl : k = 2 := by omega
        have hlt' : ¬ (2 : Int) < 2 := by omega
        go_wp2_with fail
        go_ret
        exact ⟨D, rfl, by simpa [Cpd] using hC, hB⟩
end Go.Proofs.YtdijhgaaeifbfaaGreat.Mch
