/-
  The walks of hand, fetch, put, get, refill, zero.
-/
import Derived.Test.YtbelfcfdgkmnmaaMTake
namespace Go.Proofs.Ytbelfcfdgkmnmaa
open Go.RowKit

/-! ### What came of it, in memory -/
/-- Block B is what came of it: g. -/
def GtAt (W : World) (B : Nat) (g : Gt) : Prop := W.heap[B]? = some (.cells #[.int .u8 (g.k : Int), .int .i64 g.p.t, .int .i64 g.p.c, .int .i64 g.p.v, .int .i64 g.v, .bool g.ok, .int .i64 g.u] 33 (0, 0))
/-- The whole of it is stored. -/
def put7 (W : World) (B : Nat) (g : Gt) : World := ((((((W.setCell ⟨B, 0, none⟩ (.int .u8 (g.k : Int))).setCell ⟨B, 1, none⟩ (.int .i64 g.p.t)).setCell ⟨B, 2, none⟩ (.int .i64 g.p.c)).setCell ⟨B, 3, none⟩ (.int .i64 g.p.v)).setCell ⟨B, 4, none⟩ (.int .i64 g.v)).setCell ⟨B, 5, none⟩ (.bool g.ok)).setCell ⟨B, 6, none⟩ (.int .i64 g.u)
section
variable {W W' : World} {B : Nat} {g : Gt}
theorem GtAt.lt (h : GtAt W B g) : B < W.heap.size := (Array.getElem?_eq_some_iff.1 h).1
theorem GtAt.of_block (h : GtAt W B g) (hb : W'.heap[B]? = W.heap[B]?) : GtAt W' B g := hb.trans h
theorem GtAt.below (h : GtAt W B g) (hb : Below W.heap.size W W') : GtAt W' B g := h.of_block (hb.block B h.lt)
theorem GtAt.c0 (h : GtAt W B g) : W.cell? ⟨B, 0, none⟩ = some (.int .u8 (g.k : Int)) := by simp [World.cell?, show W.heap[B]? = _ from h]
theorem GtAt.c1 (h : GtAt W B g) : W.cell? ⟨B, 1, none⟩ = some (.int .i64 g.p.t) := by simp [World.cell?, show W.heap[B]? = _ from h]
theorem GtAt.c2 (h : GtAt W B g) : W.cell? ⟨B, 2, none⟩ = some (.int .i64 g.p.c) := by simp [World.cell?, show W.heap[B]? = _ from h]
theorem GtAt.c3 (h : GtAt W B g) : W.cell? ⟨B, 3, none⟩ = some (.int .i64 g.p.v) := by simp [World.cell?, show W.heap[B]? = _ from h]
theorem GtAt.c4 (h : GtAt W B g) : W.cell? ⟨B, 4, none⟩ = some (.int .i64 g.v) := by simp [World.cell?, show W.heap[B]? = _ from h]
theorem GtAt.c5 (h : GtAt W B g) : W.cell? ⟨B, 5, none⟩ = some (.bool g.ok) := by simp [World.cell?, show W.heap[B]? = _ from h]
theorem GtAt.c6 (h : GtAt W B g) : W.cell? ⟨B, 6, none⟩ = some (.int .i64 g.u) := by simp [World.cell?, show W.heap[B]? = _ from h]
theorem GtAt.frozen (h : GtAt W B g) (k : Nat) : W.frozen? ⟨B, k, none⟩ = false := by simp [World.frozen?, show W.heap[B]? = _ from h]
theorem gtAt_new (W : World) (g : Gt) : GtAt (W.alloc (.cells #[.int .u8 (g.k : Int), .int .i64 g.p.t, .int .i64 g.p.c, .int .i64 g.p.v, .int .i64 g.v, .bool g.ok, .int .i64 g.u] 33)) W.heap.size g := World.alloc_heap_new W _
theorem GtAt.put7 (h : GtAt W B g) (z : Gt) : GtAt (put7 W B z) B z := by
  have h0 := heap_setCell_same (k := 0) (.int .u8 (z.k : Int)) h
  have h1 := heap_setCell_same (k := 1) (.int .i64 z.p.t) h0
  have h2 := heap_setCell_same (k := 2) (.int .i64 z.p.c) h1
  have h3 := heap_setCell_same (k := 3) (.int .i64 z.p.v) h2
  have h4 := heap_setCell_same (k := 4) (.int .i64 z.v) h3
  have h5 := heap_setCell_same (k := 5) (.bool z.ok) h4
  have h6 := heap_setCell_same (k := 6) (.int .i64 z.u) h5
  simpa [GtAt, Ytbelfcfdgkmnmaa.put7] using h6
end

/-! ### Channels, whose blocks are F's -/
section
variable {w wa W W' : World} {F : Nat → Prop} {C m : Nat} {cl : Bool} {buf : List Int} {S R : List Wt}
/-- What of F lies below w's end. -/
def Fl (F : Nat → Prop) (w : World) : Nat → Prop := fun k => F k ∧ k < w.heap.size
theorem Chn.fl (h : Chn w F C m cl buf S R) : Chn w (Fl F w) C m cl buf S R := by
  obtain ⟨B, v0, v1, h, ho⟩ := h.at
  have hl := h.low
  exact h.chn ⟨⟨ho.c, hl.c⟩, ⟨ho.b, hl.b⟩, fun g e => ⟨ho.s g e, hl.s g e⟩, fun g e => ⟨ho.r g e, hl.r g e⟩⟩
theorem Chn.off (h : Chn W F C m cl buf S R) {n : Nat} (hn : ¬ F n) (k : Nat) (a : Value) : Chn (W.setCell ⟨n, k, none⟩ a) F C m cl buf S R := by
  obtain ⟨B, v0, v1, h, ho⟩ := h.at
  have gs := grownBy_setCell W ⟨n, k, none⟩ a
  refine ChAt.chn (B := B) (v0 := v0) (v1 := v1) ⟨(Below.heap_setCell _ _ _ C (fun e => hn (by rw [show n = C from e.symm]; exact ho.c))).trans h.head, h.ring.kept gs (fun e => hn (by cases e; exact ho.b)), h.sends.kept gs ?_, h.recvs.kept gs ?_, h.apart⟩ ho
  · cases e : v0.ownBlock with
    | none => exact .inl rfl
    | some g => exact .inr (fun e2 => hn (by cases e2; exact ho.s _ e))
  · cases e : v1.ownBlock with
    | none => exact .inl rfl
    | some g => exact .inr (fun e2 => hn (by cases e2; exact ho.r _ e))
theorem Chn.put7 (h : Chn W F C m cl buf S R) {n : Nat} (hn : ¬ F n) (g : Gt) : Chn (put7 W n g) F C m cl buf S R :=
  ((((((h.off hn 0 _).off hn 1 _).off hn 2 _).off hn 3 _).off hn 4 _).off hn 5 _).off hn 6 _
theorem Frm.put7 (h : Frm F w W) {n : Nat} (hn : w.heap.size ≤ n) (g : Gt) : Frm F w (put7 W n g) :=
  ((((((h.next (Frm.set W _ (.inr hn))).next (Frm.set _ _ (.inr hn))).next (Frm.set _ _ (.inr hn))).next (Frm.set _ _ (.inr hn))).next (Frm.set _ _ (.inr hn))).next (Frm.set _ _ (.inr hn))).next (Frm.set _ _ (.inr hn))
theorem Frm.trans_new {G : Nat → Prop} {w1 w2 : World} (h : Frm F w w1) (k : Frm G w1 w2) (hG : ∀ i, G i → F i ∨ w.heap.size ≤ i) : Frm F w w2 := h.next (k.mono hG)
/-- The ring of a channel is another one. -/
theorem ChAt.ringed {B m : Nat} {v0 v1 : Value} {buf' : List Int} (h : ChAt W C B m cl v0 v1 buf S R) (hR : Rng W' B m buf') (hg : W.grownBy W' (some B)) : ChAt W' C B m cl v0 v1 buf' S R := by
  refine ⟨(hg.block C h.lt (fun e => h.ne_ring (by cases e; rfl))).trans h.head, hR, h.sends.kept hg ?_, h.recvs.kept hg ?_, h.apart⟩
  · cases e : v0.ownBlock with
    | none => exact .inl rfl
    | some g => exact .inr (fun e2 => h.ne_s.2 (by rw [e]; exact e2))
  · cases e : v1.ownBlock with
    | none => exact .inl rfl
    | some g => exact .inr (fun e2 => h.ne_r.2 (by rw [e]; exact e2))
theorem Chn.ring (h : Chn W F C m cl buf S R) : ∃ B, W.cell? ⟨C, 0, none⟩ = some (.pointer (some ⟨B, 0, none⟩)) ∧
    (Calls Try.prog 32 #[.pointer (some ⟨B, 0, none⟩)] W fun e w' => e = .returned (.tuple #[.int .i64 (buf.head?.getD 0), .int .i64 (takeE buf)]) ∧ Chn w' F C m cl buf.tail S R ∧ Frm F W w') ∧
    ∀ v, Calls Try.prog 31 #[.pointer (some ⟨B, 0, none⟩), .int .i64 v] W fun e w' => e = .returned (.int .i64 (putE m buf)) ∧ Chn w' F C m cl (putL m buf v) S R ∧ Frm F W w' := by
  obtain ⟨B, v0, v1, h, ho⟩ := h.at
  exact ⟨B, h.b, (take_ring W h.ring).mono fun _ _ ⟨h1, h2, h3⟩ => ⟨h1, (h.ringed h2 h3).chn ho, Frm.of_grown h3 (fun k e => by cases e; exact ho.b)⟩,
    fun v => (put_ring v W h.ring).mono fun _ _ ⟨h1, h2, h3⟩ => ⟨h1, (h.ringed h2 h3).chn ho, Frm.of_grown h3 (fun k e => by cases e; exact ho.b)⟩⟩
/-- A deed's end: its result stands in the block that it laid first. -/
theorem deed_end {w1 w2 : World} (hwa : Below w.heap.size w wa) (hs : w.heap.size < wa.heap.size) (hc : Chn w1 (Fw (Fl F w) wa) C m cl buf S R) (hF : Frm (Fl F w) wa w1) (hb : Below w1.heap.size w1 w2) (g : Gt) :
    Chn (put7 w2 w.heap.size g) (Fw F w) C m cl buf S R ∧ Frm F w (put7 w2 w.heap.size g) := by
  refine ⟨((hc.below hb).put7 ?_ g).mono ?_, (Frm.old hwa ((hF.mono (fun k e => e.1)).next ?_)).put7 (Nat.le_refl _) g⟩
  · rintro (h | h)
    · have := h.2; omega
    · omega
  · rintro k (h | h)
    · exact .inl h.1
    · exact .inr (by omega)
  · exact Frm.of_below hb _
theorem res_kept {w1 w2 : World} {g : Gt} (hg : GtAt wa w.heap.size g) (hF : Frm (Fl F w) wa w1) (hb : Below w1.heap.size w1 w2) : GtAt w2 w.heap.size g :=
  (hg.of_block (hF.block _ hg.lt (fun e => by have := e.2; omega))).below hb
end

/-! ### The deeds -/

set_option maxRecDepth 100000 in
set_option maxHeartbeats 1000000 in
theorem hand_any {F : Nat → Prop} {C m : Nat} {cl : Bool} {buf : List Int} {S t : List Wt} {x : Wt} (val : Int) (w : World) (h : Chn w F C m cl buf S (x :: t)) (hl : (x :: t).length ≤ 1000) :
    Calls Try.prog 22 #[.pointer (some ⟨C, 0, none⟩), .int .i64 val] w fun e w' => e = .returned (Gt.val ⟨0, x, val, true, 0⟩) ∧ Chn w' (Fw F w) C m cl buf S t ∧ Frm F w w' := by
  obtain ⟨wa, hwa⟩ : ∃ wa, wa = w.alloc (.cells #[.int .u8 0, .int .i64 0, .int .i64 0, .int .i64 0, .int .i64 0, .bool false, .int .i64 0] 33) := ⟨_, rfl⟩
  have hba : Below w.heap.size w wa := by rw [hwa]; exact below1 w _
  have hg : GtAt wa w.heap.size .zero := by rw [hwa]; exact gtAt_new w .zero
  have hs := hg.lt
  have ha := h.fl.below hba
  go_enter Try.func22, Try.ntmps22
  have htk := take_any (t := t) (x := x) false wa ha rfl hl
  go_wp2_with fail
  rw [← hwa]
  clear hwa
  refine htk.mono ?_
  rintro e w1 ⟨rfl, hc, hF⟩
  unfold Wt.val
  obtain ⟨w2, hw2⟩ : ∃ w2, w2 = w1.alloc (.cells #[.int .i64 x.t, .int .i64 x.c, .int .i64 x.v] 31) := ⟨_, rfl⟩
  have hb2 : Below w1.heap.size w1 w2 := by rw [hw2]; exact below1 w1 _
  have hx : WtAt w2 w1.heap.size x := by rw [hw2]; exact wtAt_new w1 x
  have k2 := res_kept hg hF hb2
  have HE := Lib.hid (deed_end hba hs hc hF hb2 ⟨0, x, val, true, 0⟩)
  have z0 := k2.frozen 0
  have z1 := k2.frozen 1
  have z2 := k2.frozen 2
  have z3 := k2.frozen 3
  have z4 := k2.frozen 4
  have z5 := k2.frozen 5
  have z6 := k2.frozen 6
  have y0 := k2.c0
  have y1 := k2.c1
  have y2 := k2.c2
  have y3 := k2.c3
  have y4 := k2.c4
  have y5 := k2.c5
  have y6 := k2.c6
  have x0 := hx.c0
  have x1 := hx.c1
  have x2 := hx.c2
  clear hx h htk ha hg hc hF hb2
  rw [hw2] at z0 z1 z2 z3 z4 z5 z6 y0 y1 y2 y3 y4 y5 y6 x0 x1 x2
  have k5 := k2.put7 ⟨0, x, val, true, 0⟩
  clear k2
  go_wp2_with fail
  rw [← hw2]
  change bodyPost _ _ _ _ _ (put7 w2 w.heap.size ⟨0, x, val, true, 0⟩)
  generalize put7 w2 w.heap.size ⟨0, x, val, true, 0⟩ = W5 at k5 HE ⊢
  refine bodyPost_ret (v := Gt.val ⟨0, x, val, true, 0⟩) (results_cell_row rfl _ _ w.heap.size 33 _ (0, 0) _ rfl k5 Try.underlying33 rfl (by kernel_rfl)) rfl ?_
  exact ⟨rfl, HE.out.1, HE.out.2⟩

set_option maxRecDepth 100000 in
set_option maxHeartbeats 1000000 in
theorem fetch_any {F : Nat → Prop} {C m : Nat} {cl : Bool} {buf : List Int} {t R : List Wt} {x : Wt} (w : World) (h : Chn w F C m cl buf (x :: t) R) (hl : (x :: t).length ≤ 1000) :
    Calls Try.prog 23 #[.pointer (some ⟨C, 0, none⟩)] w fun e w' => e = .returned (Gt.val ⟨0, x, x.v, true, 0⟩) ∧ Chn w' (Fw F w) C m cl buf t R ∧ Frm F w w' := by
  obtain ⟨wa, hwa⟩ : ∃ wa, wa = w.alloc (.cells #[.int .u8 0, .int .i64 0, .int .i64 0, .int .i64 0, .int .i64 0, .bool false, .int .i64 0] 33) := ⟨_, rfl⟩
  have hba : Below w.heap.size w wa := by rw [hwa]; exact below1 w _
  have hg : GtAt wa w.heap.size .zero := by rw [hwa]; exact gtAt_new w .zero
  have hs := hg.lt
  have ha := h.fl.below hba
  go_enter Try.func23, Try.ntmps23
  have htk := take_any (t := t) (x := x) true wa ha rfl hl
  go_wp2_with fail
  rw [← hwa]
  clear hwa
  refine htk.mono ?_
  rintro e w1 ⟨rfl, hc, hF⟩
  unfold Wt.val
  obtain ⟨w2, hw2⟩ : ∃ w2, w2 = w1.alloc (.cells #[.int .i64 x.t, .int .i64 x.c, .int .i64 x.v] 31) := ⟨_, rfl⟩
  have hb2 : Below w1.heap.size w1 w2 := by rw [hw2]; exact below1 w1 _
  have hx : WtAt w2 w1.heap.size x := by rw [hw2]; exact wtAt_new w1 x
  have k2 := res_kept hg hF hb2
  have HE := Lib.hid (deed_end hba hs hc hF hb2 ⟨0, x, x.v, true, 0⟩)
  have z0 := k2.frozen 0
  have z1 := k2.frozen 1
  have z2 := k2.frozen 2
  have z3 := k2.frozen 3
  have z4 := k2.frozen 4
  have z5 := k2.frozen 5
  have z6 := k2.frozen 6
  have y0 := k2.c0
  have y1 := k2.c1
  have y2 := k2.c2
  have y3 := k2.c3
  have y4 := k2.c4
  have y5 := k2.c5
  have y6 := k2.c6
  have x0 := hx.c0
  have x1 := hx.c1
  have x2 := hx.c2
  clear hx h htk ha hg hc hF hb2
  rw [hw2] at z0 z1 z2 z3 z4 z5 z6 y0 y1 y2 y3 y4 y5 y6 x0 x1 x2
  have k5 := k2.put7 ⟨0, x, x.v, true, 0⟩
  clear k2
  go_wp2_with fail
  rw [← hw2]
  change bodyPost _ _ _ _ _ (put7 w2 w.heap.size ⟨0, x, x.v, true, 0⟩)
  generalize put7 w2 w.heap.size ⟨0, x, x.v, true, 0⟩ = W5 at k5 HE ⊢
  refine bodyPost_ret (v := Gt.val ⟨0, x, x.v, true, 0⟩) (results_cell_row rfl _ _ w.heap.size 33 _ (0, 0) _ rfl k5 Try.underlying33 rfl (by kernel_rfl)) rfl ?_
  exact ⟨rfl, HE.out.1, HE.out.2⟩

set_option maxRecDepth 100000 in
set_option maxHeartbeats 1000000 in
theorem put_deed {F : Nat → Prop} {C m : Nat} {cl : Bool} {buf : List Int} {S R : List Wt} (val : Int) (w : World) (h : Chn w F C m cl buf S R) :
    Calls Try.prog 24 #[.pointer (some ⟨C, 0, none⟩), .int .i64 val] w fun e w' => e = .returned (Gt.val ⟨0, .zero, val, true, 0⟩) ∧ Chn w' (Fw F w) C m cl (putL m buf val) S R ∧ Frm F w w' := by
  obtain ⟨wa, hwa⟩ : ∃ wa, wa = w.alloc (.cells #[.int .u8 0, .int .i64 0, .int .i64 0, .int .i64 0, .int .i64 0, .bool false, .int .i64 0] 33) := ⟨_, rfl⟩
  have hba : Below w.heap.size w wa := by rw [hwa]; exact below1 w _
  have hg : GtAt wa w.heap.size .zero := by rw [hwa]; exact gtAt_new w .zero
  have hs := hg.lt
  have ha := h.fl.below hba
  go_enter Try.func24, Try.ntmps24
  obtain ⟨B, hb, -, hput⟩ := ha.ring
  have hp := hput val
  rw [hwa] at hb
  go_wp2_with fail
  rw [← hwa]
  clear hwa
  refine hp.mono ?_
  rintro e w1 ⟨rfl, hc, hF⟩
  have k2 := res_kept hg hF (Below.refl _ _)
  have HE := Lib.hid (deed_end hba hs (hc.mono (fun k e => .inl e)) hF (Below.refl _ _) ⟨0, .zero, val, true, 0⟩)
  have z0 := k2.frozen 0
  have z1 := k2.frozen 1
  have z2 := k2.frozen 2
  have z3 := k2.frozen 3
  have z4 := k2.frozen 4
  have z5 := k2.frozen 5
  have z6 := k2.frozen 6
  have y0 := k2.c0
  have y1 := k2.c1
  have y2 := k2.c2
  have y3 := k2.c3
  have y4 := k2.c4
  have y5 := k2.c5
  have y6 := k2.c6
  clear h ha hg hc hF hput hp hb
  have k5 := k2.put7 ⟨0, .zero, val, true, 0⟩
  clear k2
  go_wp2_with fail
  change bodyPost _ _ _ _ _ (put7 w1 w.heap.size ⟨0, .zero, val, true, 0⟩)
  generalize put7 w1 w.heap.size ⟨0, .zero, val, true, 0⟩ = W5 at k5 HE ⊢
  refine bodyPost_ret (v := Gt.val ⟨0, .zero, val, true, 0⟩) (results_cell_row rfl _ _ w.heap.size 33 _ (0, 0) _ rfl k5 Try.underlying33 rfl (by kernel_rfl)) rfl ?_
  exact ⟨rfl, HE.out.1, HE.out.2⟩

set_option maxRecDepth 100000 in
set_option maxHeartbeats 1000000 in
theorem get_deed {F : Nat → Prop} {C m : Nat} {cl : Bool} {buf : List Int} {S R : List Wt} (w : World) (h : Chn w F C m cl buf S R) :
    Calls Try.prog 25 #[.pointer (some ⟨C, 0, none⟩)] w fun e w' => e = .returned (Gt.val ⟨0, .zero, buf.head?.getD 0, true, 0⟩) ∧ Chn w' (Fw F w) C m cl buf.tail S R ∧ Frm F w w' := by
  obtain ⟨wa, hwa⟩ : ∃ wa, wa = w.alloc (.cells #[.int .u8 0, .int .i64 0, .int .i64 0, .int .i64 0, .int .i64 0, .bool false, .int .i64 0] 33) := ⟨_, rfl⟩
  have hba : Below w.heap.size w wa := by rw [hwa]; exact below1 w _
  have hg : GtAt wa w.heap.size .zero := by rw [hwa]; exact gtAt_new w .zero
  have hs := hg.lt
  have ha := h.fl.below hba
  go_enter Try.func25, Try.ntmps25
  obtain ⟨B, hb, htk, -⟩ := ha.ring
  obtain ⟨y, hy⟩ : ∃ y, y = buf.head?.getD 0 := ⟨_, rfl⟩
  rw [← hy] at htk
  have HY := Lib.hid hy
  obtain ⟨te, hte⟩ : ∃ te, te = takeE buf := ⟨_, rfl⟩
  rw [← hte] at htk
  clear hy hte
  rw [hwa] at hb
  go_wp2_with fail
  rw [← hwa]
  clear hwa
  refine htk.mono ?_
  rintro e w1 ⟨rfl, hc, hF⟩
  have k2 := res_kept hg hF (Below.refl _ _)
  have HE := Lib.hid (deed_end hba hs (hc.mono (fun k e => .inl e)) hF (Below.refl _ _) ⟨0, .zero, y, true, 0⟩)
  have z0 := k2.frozen 0
  have z1 := k2.frozen 1
  have z2 := k2.frozen 2
  have z3 := k2.frozen 3
  have z4 := k2.frozen 4
  have z5 := k2.frozen 5
  have z6 := k2.frozen 6
  have y0 := k2.c0
  have y1 := k2.c1
  have y2 := k2.c2
  have y3 := k2.c3
  have y4 := k2.c4
  have y5 := k2.c5
  have y6 := k2.c6
  clear h ha hg hc hF htk hb
  have k5 := k2.put7 ⟨0, .zero, y, true, 0⟩
  clear k2
  go_wp2_with fail
  change bodyPost _ _ _ _ _ (put7 w1 w.heap.size ⟨0, .zero, y, true, 0⟩)
  generalize put7 w1 w.heap.size ⟨0, .zero, y, true, 0⟩ = W5 at k5 HE ⊢
  refine bodyPost_ret (v := Gt.val ⟨0, .zero, y, true, 0⟩) (results_cell_row rfl _ _ w.heap.size 33 _ (0, 0) _ rfl k5 Try.underlying33 rfl (by kernel_rfl)) rfl ?_
  rw [← HY.out]
  exact ⟨rfl, HE.out.1, HE.out.2⟩

set_option maxRecDepth 100000 in
set_option maxHeartbeats 1000000 in
theorem zero_deed {F : Nat → Prop} {C m : Nat} {cl : Bool} {buf : List Int} {S R : List Wt} (w : World) (h : Chn w F C m cl buf S R) :
    Calls Try.prog 27 #[.pointer (some ⟨C, 0, none⟩)] w fun e w' => e = .returned (Gt.val .zero) ∧ Chn w' (Fw F w) C m cl buf S R ∧ Frm F w w' := by
  obtain ⟨wa, hwa⟩ : ∃ wa, wa = w.alloc (.cells #[.int .u8 0, .int .i64 0, .int .i64 0, .int .i64 0, .int .i64 0, .bool false, .int .i64 0] 33) := ⟨_, rfl⟩
  have hba : Below w.heap.size w wa := by rw [hwa]; exact below1 w _
  have hg : GtAt wa w.heap.size .zero := by rw [hwa]; exact gtAt_new w .zero
  have hs := hg.lt
  have ha := h.fl.below hba
  go_enter Try.func27, Try.ntmps27
  have HE : Hid (Chn wa (Fw F w) C m cl buf S R ∧ Frm F w wa) := Lib.hid ⟨(h.below hba).mono (fun k e => .inl e), Frm.of_below hba F⟩
  clear h ha hs hba
  go_wp2_with fail
  rw [← hwa]
  refine bodyPost_ret (v := Gt.val .zero) (results_cell_row rfl _ _ w.heap.size 33 _ (0, 0) _ rfl hg Try.underlying33 rfl (by kernel_rfl)) rfl ?_
  exact ⟨rfl, HE.out.1, HE.out.2⟩
end Go.Proofs.Ytbelfcfdgkmnmaa
