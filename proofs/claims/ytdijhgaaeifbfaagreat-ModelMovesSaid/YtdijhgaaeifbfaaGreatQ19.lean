/-
  ModelMoves: its walks, part 19: MDeeds MWait.
-/
import Derived.Test.YtdijhgaaeifbfaaGreatQ00
import Derived.Test.YtdijhgaaeifbfaaGreatQ17
import Derived.Test.YtdijhgaaeifbfaaGreatQ18
set_option maxRecDepth 100000
set_option maxHeartbeats 12800000
namespace Go.Proofs.YtdijhgaaeifbfaaGreat.Mch
open Go.RowKit
def GtAt (W : World) (B : Nat) (g : Gt) : Prop := W.heap[B]? = some (.cells #[.int .u8 (g.k : Int), .int .i64 g.p.t, .int .i64 g.p.c, .int .i64 g.p.v, .int .i64 g.v, .bool g.ok, .int .i64 g.u] 184 (0, 0))
def put7 (W : World) (B : Nat) (g : Gt) : World := ((((((W.setCell ⟨B, 0, none⟩ (.int .u8 (g.k : Int))).setCell ⟨B, 1, none⟩ (.int .i64 g.p.t)).setCell ⟨B, 2, none⟩ (.int .i64 g.p.c)).setCell ⟨B, 3, none⟩ (.int .i64 g.p.v)).setCell ⟨B, 4, none⟩ (.int .i64 g.v)).setCell ⟨B, 5, none⟩ (.bool g.ok)).setCell ⟨B, 6, none⟩ (.int .i64 g.u)
section
variable {W W' : World} {B : Nat} {g : Gt}
theorem GtAt.lt (h : GtAt W B g) : B < W.heap.size := (Array.getElem?_eq_some_iff.1 h).1
theorem GtAt.of_block (h : GtAt W B g) (hb : W'.heap[B]? = W.heap[B]?) : GtAt W' B g := hb.trans h
theorem GtAt.below (h : GtAt W B g) (hb : Below W.heap.size W W') : GtAt W' B g := h.of_block (hb.block B h.lt)
theorem GtAt.c0 (h : GtAt W B g) : W.cell? ⟨B, 0, none⟩ = some (.int .u8 (g.k : Int)) := by simp [World.cell?, show W.heap[B]? = _ from h]
theorem GtAt.c1 (h : GtAt W B g) : W.cell? ⟨B, 1, none⟩ = some (.int .i64 g.p.t) := by simp [World.cell?, show W.heap[B]? = _ from h]
theorem GtAt.c2 (h : GtAt W B g) : W.cell? ⟨B, 2, none⟩ = some (.int .i64 g.p.c) := by simp [World.cell?, show W.heap[B]? = _ from h]
theorem GtAt.c3 (h : GtAt W B g) : W.cell? ⟨B, 3, none⟩ = some (.int .i64 g.p.v) := by simp [World.cell?, show W.heap[B]? = _ from h]
theorem GtAt.c4 (h : GtAt W B g) : W.cell? ⟨B, 4, none⟩ = some (.int .i64 g.v) := by simp [World.cell?, show W.heap[B]? = _ from h]
theorem GtAt.c5 (h : GtAt W B g) : W.cell? ⟨B, 5, none⟩ = some (.bool g.ok) := by simp [World.cell?, show W.heap[B]? = _ from h]
theorem GtAt.c6 (h : GtAt W B g) : W.cell? ⟨B, 6, none⟩ = some (.int .i64 g.u) := by simp [World.cell?, show W.heap[B]? = _ from h]
theorem GtAt.frozen (h : GtAt W B g) (k : Nat) : W.frozen? ⟨B, k, none⟩ = false := by simp [World.frozen?, show W.heap[B]? = _ from h]
theorem gtAt_new (W : World) (g : Gt) : GtAt (W.alloc (.cells #[.int .u8 (g.k : Int), .int .i64 g.p.t, .int .i64 g.p.c, .int .i64 g.p.v, .int .i64 g.v, .bool g.ok, .int .i64 g.u] 184)) W.heap.size g := World.alloc_heap_new W _
theorem GtAt.put7 (h : GtAt W B g) (z : Gt) : GtAt (put7 W B z) B z := by
  have h0 := heap_setCell_same (k := 0) (.int .u8 (z.k : Int)) h
  have h1 := heap_setCell_same (k := 1) (.int .i64 z.p.t) h0
  have h2 := heap_setCell_same (k := 2) (.int .i64 z.p.c) h1
  have h3 := heap_setCell_same (k := 3) (.int .i64 z.p.v) h2
  have h4 := heap_setCell_same (k := 4) (.int .i64 z.v) h3
  have h5 := heap_setCell_same (k := 5) (.bool z.ok) h4
  have h6 := heap_setCell_same (k := 6) (.int .i64 z.u) h5
  simpa [GtAt, YtdijhgaaeifbfaaGreat.Mch.put7] using h6
end
section
variable {w wa W W' : World} {F : Nat -> Prop} {C m : Nat} {cl : Bool} {buf : List Int} {S R : List Wt}
def Fl (F : Nat -> Prop) (w : World) : Nat -> Prop := fun k => F k /\ k < w.heap.size
theorem Chn.fl (h : Chn w F C m cl buf S R) : Chn w (Fl F w) C m cl buf S R := by
  obtain ⟨B, v0, v1, h, ho⟩ := h.at
  have hl := h.low
  exact h.chn ⟨⟨ho.c, hl.c⟩, ⟨ho.b, hl.b⟩, fun g e => ⟨ho.s g e, hl.s g e⟩, fun g e => ⟨ho.r g e, hl.r g e⟩⟩
theorem Chn.off (h : Chn W F C m cl buf S R) {n : Nat} (hn : ¬ F n) (k : Nat) (a : Value) : Chn (W.setCell ⟨n, k, none⟩ a) F C m cl buf S R := by
  obtain ⟨B, v0, v1, h, ho⟩ := h.at
  have gs := grownBy_setCell W ⟨n, k, none⟩ a
  refine ChAt.chn (B := B) (v0 := v0) (v1 := v1) ⟨(Below.heap_setCell _ _ _ C (fun e => hn (by rw [show n = C from e.symm]; exact ho.c))).trans h.head, h.ring.kept gs (fun e => hn (by cases e; exact ho.b)), h.sends.kept gs ?_, h.recvs.kept gs ?_, h.apart⟩ ho
  · cases e : v0.ownBlock with
    | none => exact .inl rfl
    | some g => exact .inr (fun e2 => hn (by cases e2; exact ho.s _ e))
  · cases e : v1.ownBlock with
    | none => exact .inl rfl
    | some g => exact .inr (fun e2 => hn (by cases e2; exact ho.r _ e))
theorem Chn.put7 (h : Chn W F C m cl buf S R) {n : Nat} (hn : ¬ F n) (g : Gt) : Chn (put7 W n g) F C m cl buf S R :=
  ((((((h.off hn 0 _).off hn 1 _).off hn 2 _).off hn 3 _).off hn 4 _).off hn 5 _).off hn 6 _
theorem Frm.put7 (h : Frm F w W) {n : Nat} (hn : w.heap.size <= n) (g : Gt) : Frm F w (put7 W n g) :=
  ((((((h.next (Frm.set W _ (.inr hn))).next (Frm.set _ _ (.inr hn))).next (Frm.set _ _ (.inr hn))).next (Frm.set _ _ (.inr hn))).next (Frm.set _ _ (.inr hn))).next (Frm.set _ _ (.inr hn))).next (Frm.set _ _ (.inr hn))
theorem Frm.trans_new {G : Nat -> Prop} {w1 w2 : World} (h : Frm F w w1) (k : Frm G w1 w2) (hG : ∀ i, G i -> F i \/ w.heap.size <= i) : Frm F w w2 := h.next (k.mono hG)
theorem ChAt.ringed {B m : Nat} {v0 v1 : Value} {buf' : List Int} (h : ChAt W C B m cl v0 v1 buf S R) (hR : Rng W' B m buf') (hg : W.grownBy W' (some B)) : ChAt W' C B m cl v0 v1 buf' S R := by
  refine ⟨(hg.block C h.lt (fun e => h.ne_ring (by cases e; rfl))).trans h.head, hR, h.sends.kept hg ?_, h.recvs.kept hg ?_, h.apart⟩
  · cases e : v0.ownBlock with
    | none => exact .inl rfl
    | some g => exact .inr (fun e2 => h.ne_s.2 (by rw [e]; exact e2))
  · cases e : v1.ownBlock with
    | none => exact .inl rfl
    | some g => exact .inr (fun e2 => h.ne_r.2 (by rw [e]; exact e2))
theorem Chn.ring (h : Chn W F C m cl buf S R) : ∃ B, W.cell? ⟨C, 0, none⟩ = some (.pointer (some ⟨B, 0, none⟩)) /\
    (Calls Tryz.prog 168 #[.pointer (some ⟨B, 0, none⟩)] W fun e w' => e = .returned (.tuple #[.int .i64 (buf.head?.getD 0), .int .i64 (takeE buf)]) /\ Chn w' F C m cl buf.tail S R /\ Frm F W w') /\
    ∀ v, Calls Tryz.prog 167 #[.pointer (some ⟨B, 0, none⟩), .int .i64 v] W fun e w' => e = .returned (.int .i64 (putE m buf)) /\ Chn w' F C m cl (putL m buf v) S R /\ Frm F W w' := by
  obtain ⟨B, v0, v1, h, ho⟩ := h.at
  exact ⟨B, h.b, (take_ring W h.ring).mono fun _ _ ⟨h1, h2, h3⟩ => ⟨h1, (h.ringed h2 h3).chn ho, Frm.of_grown h3 (fun k e => by cases e; exact ho.b)⟩,
    fun v => (put_ring v W h.ring).mono fun _ _ ⟨h1, h2, h3⟩ => ⟨h1, (h.ringed h2 h3).chn ho, Frm.of_grown h3 (fun k e => by cases e; exact ho.b)⟩⟩
theorem deed_end {w1 w2 : World} (hwa : Below w.heap.size w wa) (hs : w.heap.size < wa.heap.size) (hc : Chn w1 (Fw (Fl F w) wa) C m cl buf S R) (hF : Frm (Fl F w) wa w1) (hb : Below w1.heap.size w1 w2) (g : Gt) :
    Chn (put7 w2 w.heap.size g) (Fw F w) C m cl buf S R /\ Frm F w (put7 w2 w.heap.size g) := by
  refine ⟨((hc.below hb).put7 ?_ g).mono ?_, (Frm.old hwa ((hF.mono (fun k e => e.1)).next ?_)).put7 (Nat.le_refl _) g⟩
  · rintro (h | h)
    · have := h.2; omega
    · omega
  · rintro k (h | h)
    · exact .inl h.1
    · exact .inr (by omega)
  · exact Frm.of_below hb _
theorem res_kept {w1 w2 : World} {g : Gt} (hg : GtAt wa w.heap.size g) (hF : Frm (Fl F w) wa w1) (hb : Below w1.heap.size w1 w2) : GtAt w2 w.heap.size g :=
  (hg.of_block (hF.block _ hg.lt (fun e => by have := e.2; omega))).below hb
end
theorem hand_any {F : Nat -> Prop} {C m : Nat} {cl : Bool} {buf : List Int} {S t : List Wt} {x : Wt} (val : Int) (w : World) (h : Chn w F C m cl buf S (x :: t)) (hl : (x :: t).length <= 1000) :
    Calls Tryz.prog 155 #[.pointer (some ⟨C, 0, none⟩), .int .i64 val] w fun e w' => e = .returned (Gt.val ⟨0, x, val, true, 0⟩) /\ Chn w' (Fw F w) C m cl buf S t /\ Frm F w w' := by
  obtain ⟨wa, hwa⟩ : ∃ wa, wa = w.alloc (.cells #[.int .u8 0, .int .i64 0, .int .i64 0, .int .i64 0, .int .i64 0, .bool false, .int .i64 0] 184) := ⟨_, rfl⟩
  have hba : Below w.heap.size w wa := by rw [hwa]; exact below1 w _
  have hg : GtAt wa w.heap.size .zero := by rw [hwa]; exact gtAt_new w .zero
  have hs := hg.lt
  have ha := h.fl.below hba
  go_enter Tryz.func155, Tryz.ntmps155
  have htk := take_any (t := t) (x := x) false wa ha rfl hl
  go_wp2_with fail
  rw [<- hwa]
  clear hwa
  refine htk.mono ?_
  rintro e w1 ⟨rfl, hc, hF⟩
  unfold Wt.val
  obtain ⟨w2, hw2⟩ : ∃ w2, w2 = w1.alloc (.cells #[.int .i64 x.t, .int .i64 x.c, .int .i64 x.v] 134) := ⟨_, rfl⟩
  have hb2 : Below w1.heap.size w1 w2 := by rw [hw2]; exact below1 w1 _
  have hx : WtAt w2 w1.heap.size x := by rw [hw2]; exact wtAt_new w1 x
  have k2 := res_kept hg hF hb2
  have HE := Lib.hid (deed_end hba hs hc hF hb2 ⟨0, x, val, true, 0⟩)
  have z0 := k2.frozen 0
  have z1 := k2.frozen 1
  have z2 := k2.frozen 2
  have z3 := k2.frozen 3
  have z4 := k2.frozen 4
  have z5 := k2.frozen 5
  have z6 := k2.frozen 6
  have y0 := k2.c0
  have y1 := k2.c1
  have y2 := k2.c2
  have y3 := k2.c3
  have y4 := k2.c4
  have y5 := k2.c5
  have y6 := k2.c6
  have x0 := hx.c0
  have x1 := hx.c1
  have x2 := hx.c2
  clear hx h htk ha hg hc hF hb2
  rw [hw2] at z0 z1 z2 z3 z4 z5 z6 y0 y1 y2 y3 y4 y5 y6 x0 x1 x2
  have k5 := k2.put7 ⟨0, x, val, true, 0⟩
  clear k2
  go_wp2_with fail
  rw [<- hw2]
  change bodyPost _ _ _ _ _ (put7 w2 w.heap.size ⟨0, x, val, true, 0⟩)
  generalize put7 w2 w.heap.size ⟨0, x, val, true, 0⟩ = W5 at k5 HE ⊢
  refine bodyPost_ret (v := Gt.val ⟨0, x, val, true, 0⟩) (results_cell_row rfl _ _ w.heap.size 184 _ (0, 0) _ rfl k5 Tryz.underlying184 rfl (by kernel_rfl)) rfl ?_
  exact ⟨rfl, HE.out.1, HE.out.2⟩
theorem fetch_any {F : Nat -> Prop} {C m : Nat} {cl : Bool} {buf : List Int} {t R : List Wt} {x : Wt} (w : World) (h : Chn w F C m cl buf (x :: t) R) (hl : (x :: t).length <= 1000) :
    Calls Tryz.prog 156 #[.pointer (some ⟨C, 0, none⟩)] w fun e w' => e = .returned (Gt.val ⟨0, x, x.v, true, 0⟩) /\ Chn w' (Fw F w) C m cl buf t R /\ Frm F w w' := by
  obtain ⟨wa, hwa⟩ : ∃ wa, wa = w.alloc (.cells #[.int .u8 0, .int .i64 0, .int .i64 0, .int .i64 0, .int .i64 0, .bool false, .int .i64 0] 184) := ⟨_, rfl⟩
  have hba : Below w.heap.size w wa := by rw [hwa]; exact below1 w _
  have hg : GtAt wa w.heap.size .zero := by rw [hwa]; exact gtAt_new w .zero
  have hs := hg.lt
  have ha := h.fl.below hba
  go_enter Tryz.func156, Tryz.ntmps156
  have htk := take_any (t := t) (x := x) true wa ha rfl hl
  go_wp2_with fail
  rw [<- hwa]
  clear hwa
  refine htk.mono ?_
  rintro e w1 ⟨rfl, hc, hF⟩
  unfold Wt.val
  obtain ⟨w2, hw2⟩ : ∃ w2, w2 = w1.alloc (.cells #[.int .i64 x.t, .int .i64 x.c, .int .i64 x.v] 134) := ⟨_, rfl⟩
  have hb2 : Below w1.heap.size w1 w2 := by rw [hw2]; exact below1 w1 _
  have hx : WtAt w2 w1.heap.size x := by rw [hw2]; exact wtAt_new w1 x
  have k2 := res_kept hg hF hb2
  have HE := Lib.hid (deed_end hba hs hc hF hb2 ⟨0, x, x.v, true, 0⟩)
  have z0 := k2.frozen 0
  have z1 := k2.frozen 1
  have z2 := k2.frozen 2
  have z3 := k2.frozen 3
  have z4 := k2.frozen 4
  have z5 := k2.frozen 5
  have z6 := k2.frozen 6
  have y0 := k2.c0
  have y1 := k2.c1
  have y2 := k2.c2
  have y3 := k2.c3
  have y4 := k2.c4
  have y5 := k2.c5
  have y6 := k2.c6
  have x0 := hx.c0
  have x1 := hx.c1
  have x2 := hx.c2
  clear hx h htk ha hg hc hF hb2
  rw [hw2] at z0 z1 z2 z3 z4 z5 z6 y0 y1 y2 y3 y4 y5 y6 x0 x1 x2
  have k5 := k2.put7 ⟨0, x, x.v, true, 0⟩
  clear k2
  go_wp2_with fail
  rw [<- hw2]
  change bodyPost _ _ _ _ _ (put7 w2 w.heap.size ⟨0, x, x.v, true, 0⟩)
  generalize put7 w2 w.heap.size ⟨0, x, x.v, true, 0⟩ = W5 at k5 HE ⊢
  refine bodyPost_ret (v := Gt.val ⟨0, x, x.v, true, 0⟩) (results_cell_row rfl _ _ w.heap.size 184 _ (0, 0) _ rfl k5 Tryz.underlying184 rfl (by kernel_rfl)) rfl ?_
  exact ⟨rfl, HE.out.1, HE.out.2⟩
theorem put_deed {F : Nat -> Prop} {C m : Nat} {cl : Bool} {buf : List Int} {S R : List Wt} (val : Int) (w : World) (h : Chn w F C m cl buf S R) :
    Calls Tryz.prog 157 #[.pointer (some ⟨C, 0, none⟩), .int .i64 val] w fun e w' => e = .returned (Gt.val ⟨0, .zero, val, true, 0⟩) /\ Chn w' (Fw F w) C m cl (putL m buf val) S R /\ Frm F w w' := by
  obtain ⟨wa, hwa⟩ : ∃ wa, wa = w.alloc (.cells #[.int .u8 0, .int .i64 0, .int .i64 0, .int .i64 0, .int .i64 0, .bool false, .int .i64 0] 184) := ⟨_, rfl⟩
  have hba : Below w.heap.size w wa := by rw [hwa]; exact below1 w _
  have hg : GtAt wa w.heap.size .zero := by rw [hwa]; exact gtAt_new w .zero
  have hs := hg.lt
  have ha := h.fl.below hba
  go_enter Tryz.func157, Tryz.ntmps157
  obtain ⟨B, hb, -, hput⟩ := ha.ring
  have hp := hput val
  rw [hwa] at hb
  go_wp2_with fail
  rw [<- hwa]
  clear hwa
  refine hp.mono ?_
  rintro e w1 ⟨rfl, hc, hF⟩
  have k2 := res_kept hg hF (Below.refl _ _)
  have HE := Lib.hid (deed_end hba hs (hc.mono (fun k e => .inl e)) hF (Below.refl _ _) ⟨0, .zero, val, true, 0⟩)
  have z0 := k2.frozen 0
  have z1 := k2.frozen 1
  have z2 := k2.frozen 2
  have z3 := k2.frozen 3
  have z4 := k2.frozen 4
  have z5 := k2.frozen 5
  have z6 := k2.frozen 6
  have y0 := k2.c0
  have y1 := k2.c1
  have y2 := k2.c2
  have y3 := k2.c3
  have y4 := k2.c4
  have y5 := k2.c5
  have y6 := k2.c6
  clear h ha hg hc hF hput hp hb
  have k5 := k2.put7 ⟨0, .zero, val, true, 0⟩
  clear k2
  go_wp2_with fail
  change bodyPost _ _ _ _ _ (put7 w1 w.heap.size ⟨0, .zero, val, true, 0⟩)
  generalize put7 w1 w.heap.size ⟨0, .zero, val, true, 0⟩ = W5 at k5 HE ⊢
  refine bodyPost_ret (v := Gt.val ⟨0, .zero, val, true, 0⟩) (results_cell_row rfl _ _ w.heap.size 184 _ (0, 0) _ rfl k5 Tryz.underlying184 rfl (by kernel_rfl)) rfl ?_
  exact ⟨rfl, HE.out.1, HE.out.2⟩
theorem get_deed {F : Nat -> Prop} {C m : Nat} {cl : Bool} {buf : List Int} {S R : List Wt} (w : World) (h : Chn w F C m cl buf S R) :
    Calls Tryz.prog 158 #[.pointer (some ⟨C, 0, none⟩)] w fun e w' => e = .returned (Gt.val ⟨0, .zero, buf.head?.getD 0, true, 0⟩) /\ Chn w' (Fw F w) C m cl buf.tail S R /\ Frm F w w' := by
  obtain ⟨wa, hwa⟩ : ∃ wa, wa = w.alloc (.cells #[.int .u8 0, .int .i64 0, .int .i64 0, .int .i64 0, .int .i64 0, .bool false, .int .i64 0] 184) := ⟨_, rfl⟩
  have hba : Below w.heap.size w wa := by rw [hwa]; exact below1 w _
  have hg : GtAt wa w.heap.size .zero := by rw [hwa]; exact gtAt_new w .zero
  have hs := hg.lt
  have ha := h.fl.below hba
  go_enter Tryz.func158, Tryz.ntmps158
  obtain ⟨B, hb, htk, -⟩ := ha.ring
  obtain ⟨y, hy⟩ : ∃ y, y = buf.head?.getD 0 := ⟨_, rfl⟩
  rw [<- hy] at htk
  have HY := Lib.hid hy
  obtain ⟨te, hte⟩ : ∃ te, te = takeE buf := ⟨_, rfl⟩
  rw [<- hte] at htk
  clear hy hte
  rw [hwa] at hb
  go_wp2_with fail
  rw [<- hwa]
  clear hwa
  refine htk.mono ?_
  rintro e w1 ⟨rfl, hc, hF⟩
  have k2 := res_kept hg hF (Below.refl _ _)
  have HE := Lib.hid (deed_end hba hs (hc.mono (fun k e => .inl e)) hF (Below.refl _ _) ⟨0, .zero, y, true, 0⟩)
  have z0 := k2.frozen 0
  have z1 := k2.frozen 1
  have z2 := k2.frozen 2
  have z3 := k2.frozen 3
  have z4 := k2.frozen 4
  have z5 := k2.frozen 5
  have z6 := k2.frozen 6
  have y0 := k2.c0
  have y1 := k2.c1
  have y2 := k2.c2
  have y3 := k2.c3
  have y4 := k2.c4
  have y5 := k2.c5
  have y6 := k2.c6
  clear h ha hg hc hF htk hb
  have k5 := k2.put7 ⟨0, .zero, y, true, 0⟩
  clear k2
  go_wp2_with fail
  change bodyPost _ _ _ _ _ (put7 w1 w.heap.size ⟨0, .zero, y, true, 0⟩)
  generalize put7 w1 w.heap.size ⟨0, .zero, y, true, 0⟩ = W5 at k5 HE ⊢
  refine bodyPost_ret (v := Gt.val ⟨0, .zero, y, true, 0⟩) (results_cell_row rfl _ _ w.heap.size 184 _ (0, 0) _ rfl k5 Tryz.underlying184 rfl (by kernel_rfl)) rfl ?_
  rw [<- HY.out]
  exact ⟨rfl, HE.out.1, HE.out.2⟩
theorem zero_deed {F : Nat -> Prop} {C m : Nat} {cl : Bool} {buf : List Int} {S R : List Wt} (w : World) (h : Chn w F C m cl buf S R) :
    Calls Tryz.prog 160 #[.pointer (some ⟨C, 0, none⟩)] w fun e w' => e = .returned (Gt.val .zero) /\ Chn w' (Fw F w) C m cl buf S R /\ Frm F w w' := by
  obtain ⟨wa, hwa⟩ : ∃ wa, wa = w.alloc (.cells #[.int .u8 0, .int .i64 0, .int .i64 0, .int .i64 0, .int .i64 0, .bool false, .int .i64 0] 184) := ⟨_, rfl⟩
  have hba : Below w.heap.size w wa := by rw [hwa]; exact below1 w _
  have hg : GtAt wa w.heap.size .zero := by rw [hwa]; exact gtAt_new w .zero
  have hs := hg.lt
  have ha := h.fl.below hba
  go_enter Tryz.func160, Tryz.ntmps160
  have HE : Hid (Chn wa (Fw F w) C m cl buf S R /\ Frm F w wa) := Lib.hid ⟨(h.below hba).mono (fun k e => .inl e), Frm.of_below hba F⟩
  clear h ha hs hba
  go_wp2_with fail
  rw [<- hwa]
  refine bodyPost_ret (v := Gt.val .zero) (results_cell_row rfl _ _ w.heap.size 184 _ (0, 0) _ rfl hg Tryz.underlying184 rfl (by kernel_rfl)) rfl ?_
  exact ⟨rfl, HE.out.1, HE.out.2⟩
open Go.RowKit Go.Shelf
attribute [local go_sem] Oper.semAt_some
theorem step_append_at {P : Program} {ops : Array Oper} {o : Oper} {a : Act} {w : World} {K : Act -> World -> Prop} {Q : Exit -> Act -> World -> Prop} {E : Prop}
    (hg : o.guard = none) (s x : Operand) (t : TypeId) (ho : o.op = .call { callee := .builtin .append, args := #[s, x], argTypes := #[t, t] })
    (base : Nat) (e : TypeId) (i : TypeInfo) (z : Value) (size bytes : Nat) (ht : P.underlying t = some (.slice e)) (hi : P.info? e = some i) (hz : i.zero = some z)
    (hsize : i.size = size) (hby : i.bytes = bytes) (hzs : z.cells.size = size) (hsz : 0 < size)
    (v : Value) (n : Nat) (xs : List Value) (hs : a.eval s = v) (hown : w.ownsRow base e size v n xs)
    (ad : Addr) (m c : Nat) (news : List Value) (hx : a.eval x = .slice (some ad) m c) (hl : news.length = m * size) (hnews : ∀ j u, news[j]? = some u -> w.cell? (ad.add j) = some u) (h1 : ∀ u ∈ news, u.oneCell' = true)
    (h63 : n + m <= maxLen) (hbytes : (n + m) * bytes <= 140737488355328) (hbase : base <= w.heap.size)
    (h : ∀ v' w', w'.ownsRow base e size v' (n + m) (xs ++ news) -> w.grownBy w' v.ownBlock -> (v'.ownBlock = v.ownBlock \/ v'.ownBlock = some w.heap.size) -> K (a.put o.dst v') w') :
    if Region.wanted o (yielded ops a.tmps) = true then Oper.wp P o a w K Q else E := by
  have hw : Region.wanted o (yielded ops a.tmps) = true := by simp [Region.wanted, hg]
  rw [if_pos hw]
  obtain ⟨v', w', hr, h2, h3, _, h5⟩ := run_append_own_at (P := P) w base t o.type e i z size bytes ht hi hz hsize hby hzs hsz v n xs hown ad m c news hl hnews h1 h63 hbytes hbase
  unfold Oper.wp execOp
  simp only [ho, resolve, invoke, builtin, Sem.run_bind, Sem.run_pure, Result.andThen_ok, List.map_toArray, List.map_cons, List.map_nil, hs, hx, hr]
  exact h v' w' h2 h3 h5
def onlyN (Q : Exit -> Act -> World -> Prop) : Exit -> Act -> World -> Prop
  | .normal, a, w => Q .normal a w
  | _, _, _ => False
theorem wp_onlyN {P : Program} {c : Code} {Q : Exit -> Act -> World -> Prop} {a : Act} {w : World} (h : c.wp P (onlyN Q) a w) : c.wp P Q a w :=
  Code.wp_mono (fun e a w h => by cases e <;> first | exact h | exact h.elim) h
def likeW (x y : Wt) : Bool := y.t == x.t && y.c == x.c
theorem wait_turn {F : Nat -> Prop} {C B m : Nat} {cl : Bool} {v0 v1 v v' : Value} {buf : List Int} {S R xs : List Wt} {s : Bool} {x : Wt} {w W w1 : World} {tmp : Obj} {E D : Nat}
    (h : ChAt W C B m cl v0 v1 buf S R) (ho : Own F C B v0 v1) (hl : Low w.heap.size C B v0 v1) (hb : Below w.heap.size w W) (hv : v = (if s then v0 else v1)) (hxs : xs = sel s S R)
    (hr : Boxed W E 28 (.int .i64 0)) (hE : w.heap.size <= E) (hK : W.heap[D]? = some (.deferred (some []))) (hD : w.heap.size <= D)
    (hrow : w1.ownsRow 0 134 3 v' (xs.length + 1) (flatW xs ++ x.cellsL)) (hg : (W.alloc tmp).drew.grownBy w1 v.ownBlock) (hat : v'.ownBlock = v.ownBlock \/ v'.ownBlock = some (W.alloc tmp).drew.heap.size) :
    Boxed (w1.setCell ⟨C, 2 + ix s, none⟩ v') E 28 (.int .i64 0) /\ Chn (w1.setCell ⟨C, 2 + ix s, none⟩ v') (Fw F W) C m cl buf (sel s (S ++ [x]) S) (sel s R (R ++ [x])) /\ Frm F w (w1.setCell ⟨C, 2 + ix s, none⟩ v') /\ (w1.setCell ⟨C, 2 + ix s, none⟩ v').heap[D]? = some (.deferred (some [])) := by
  subst hv
  have hbA : Below W.heap.size W (W.alloc tmp).drew := (below1 W tmp).drew
  have hsz : (W.alloc tmp).drew.heap.size = W.heap.size + 1 := World.size_alloc W tmp
  have hvl := hl.w s
  have hEW := hr.lt
  have hDW : D < W.heap.size := (Array.getElem?_eq_some_iff.1 hK).1
  have hC := hl.c
  have hws := hb.size
  have hA := h.below hbA
  have ho2 : v'.ownBlock = (if s then v0 else v1).ownBlock \/ ∃ g, v'.ownBlock = some g /\ (W.alloc tmp).drew.heap.size <= g := hat.elim .inl (fun e => .inr ⟨_, e, Nat.le_refl _⟩)
  have ho3 : v'.ownBlock = (if s then v0 else v1).ownBlock \/ ∃ g, v'.ownBlock = some g /\ W.heap.size <= g := hat.elim .inl (fun e => .inr ⟨_, e, by omega⟩)
  have hrow' : w1.ownsRow 0 134 3 v' (xs ++ [x]).length (flatW (xs ++ [x])) := by rw [flatW_snoc, List.length_append]; exact hrow
  have hnb : ∀ n, w.heap.size <= n -> some n ≠ (if s then v0 else v1).ownBlock := fun n hn e => by have := hvl n e.symm; omega
  have hnC : ∀ n, w.heap.size <= n -> n ≠ C := fun n hn => by omega
  refine ⟨?_, ?_, ?_, ?_⟩
  · exact (Below.heap_setCell _ _ _ _ (hnC E hE)).trans ((hg.block E (by omega) (hnb E hE)).trans ((hbA.block E hEW).trans hr))
  · have ht := hA.turn (s := s) (l := xs ++ [x]) ho2 hrow' hg
    have hc := ht.chn (Own.turn ho W ho3)
    rw [hxs] at hc
    cases s
    · exact hc
    · exact hc
  · exact Frm.old (below_nx hb hbA (Nat.le_refl _)) (ho.frm hg v' (2 + ix s))
  · exact (Below.heap_setCell _ _ _ _ (hnC D hD)).trans ((hg.block D (by omega) (hnb D hD)).trans ((hbA.block D hDW).trans hK))
theorem Chn.putObj {W : World} {F : Nat -> Prop} {C m : Nat} {cl : Bool} {buf : List Int} {S R : List Wt} (h : Chn W F C m cl buf S R) {D : Nat} {o : Obj} (hK : W.heap[D]? = some o) (hn : o.isCells = false) (o' : Obj) : Chn (W.putObj D o') F C m cl buf S R := by
  obtain ⟨B, v0, v1, h, ho⟩ := h.at
  have gs := grownBy_putObj' W D o'
  have key : ∀ k cs t z, W.heap[k]? = some (.cells cs t z) -> some k ≠ some D := fun k cs t z hk e => by cases e; rw [hk] at hK; cases hK; cases hn
  obtain ⟨vs, f, hraw, _⟩ := id h.ring
  refine ChAt.chn (B := B) (v0 := v0) (v1 := v1) ⟨(gs.block C h.lt (key _ _ _ _ h.head)).trans h.head, h.ring.kept gs (key _ _ _ _ hraw.2), h.sends.kept gs ?_, h.recvs.kept gs ?_, h.apart⟩ ho
  · cases e : v0.ownBlock with
    | none => exact .inl rfl
    | some g => obtain ⟨cs, hc⟩ := own_at h.sends e; exact .inr (key _ _ _ _ hc)
  · cases e : v1.ownBlock with
    | none => exact .inl rfl
    | some g => obtain ⟨cs, hc⟩ := own_at h.recvs e; exact .inr (key _ _ _ _ hc)
theorem wait_end {F : Nat -> Prop} {C m : Nat} {cl : Bool} {buf : List Int} {S R : List Wt} {w W : World} {D E : Nat} (hD : w.heap.size <= D) (t0 t1 t2 t3 t4 t5 t7 t8 t9 t10 t11 t12 t13 t14 t15 t16 t17 t18 t19 t20 t21 t22 t23 t24 t25 t26 t27 t28 t29 t30 t31 t32 t33 t34 t35 t36 t37 t38 t39 t40 t41 t42 : Value)
    (hr : Boxed W E 28 (.int .i64 0)) (hc : Chn W (Fw F w) C m cl buf S R) (hF : Frm F w W) (hK : W.heap[D]? = some (.deferred (some []))) :
    bodyPostM Fence.wide 4 Tryz.prog Tryz.f114 (fun e w' => e = .returned (.int .i64 0) /\ Chn w' (Fw F w) C m cl buf S R /\ Frm F w w') .ret
      { tmps := #[t0, t1, t2, t3, t4, t5, .pointer (some ⟨E, 0, none⟩), t7, t8, t9, t10, t11, t12, t13, t14, t15, t16, t17, t18, t19, t20, t21, t22, t23, t24, t25, t26, t27, t28, t29, t30, t31, t32, t33, t34, t35, t36, t37, t38, t39, t40, t41, t42], defers := [{ target := Target.collected D, args := #[] }] } W := by
  refine ⟨by simp, .inl ⟨_, _, rfl, run_takeDeferred hK, ?_⟩⟩
  have hg := grownBy_putObj' W D (.deferred none)
  have hq : ∀ r, some D = some r -> ∃ o, W.heap[r]? = some o /\ o.isCells = false := fun r e => by cases e; exact ⟨_, hK, rfl⟩
  have a1 := cell_kept hr.cell hg hq
  refine ⟨.int .i64 0, ?_, rfl, hc.putObj hK rfl _, hF.next (Frm.of_grown hg (fun k e => by cases e; exact .inr hD))⟩
  simp [results, Tryz.f114, go_sem, a1]
theorem wait_any {F : Nat -> Prop} {C m : Nat} {cl : Bool} {buf : List Int} {S R : List Wt} (s : Bool) (x : Wt) (w : World) (h : Chn w F C m cl buf S R) (hno : ∀ y ∈ sel s S R, likeW x y = false) (hl : (sel s S R).length <= 900) :
    Calls Tryz.prog 114 #[.pointer (some ⟨C, 0, none⟩), .bool s, x.val] w fun e w' => e = .returned (.int .i64 0) /\ Chn w' (Fw F w) C m cl buf (sel s (S ++ [x]) S) (sel s R (R ++ [x])) /\ Frm F w w' := by
  obtain ⟨i0, hi, hz0, hz1, hz2⟩ := info_parts infoWait
  obtain ⟨B, v0, v1, h, ho⟩ := h.fl.at
  obtain ⟨xs, hxs⟩ : ∃ xs, xs = sel s S R := ⟨_, rfl⟩
  obtain ⟨v, hv⟩ : ∃ v, v = (if s then v0 else v1) := ⟨_, rfl⟩
  have hcw := h.w s
  have hrw : w.ownsRow 0 134 3 v xs.length (flatW xs) := by rw [hv, hxs]; exact h.row s
  rw [<- hxs] at hno hl
  rw [<- hv] at hcw
  obtain ⟨w2, hw2⟩ : ∃ w2, w2 = (w.alloc (.cells #[.int .i64 x.t, .int .i64 x.c, .int .i64 x.v] 134)).alloc (.cells #[.int .i64 0] 28) := ⟨_, rfl⟩
  have hx2 : WtAt w2 w.heap.size x := by rw [hw2]; exact (wtAt_new w x).alloc _
  have hr2 : Boxed w2 (w.heap.size + 1) 28 (.int .i64 0) := by
    have h1 := Boxed.new (w.alloc (.cells #[.int .i64 x.t, .int .i64 x.c, .int .i64 x.v] 134)) 28 (.int .i64 0)
    rw [World.size_alloc] at h1
    rw [hw2]; exact h1
  have hB2 : Below w.heap.size w w2 := by rw [hw2]; exact Below.al (below1 w _) (by simp) _
  obtain ⟨w4, hw4⟩ : ∃ w4, w4 = (w2.alloc (.cells #[.pointer (some ⟨C, 0, none⟩)] 63)).alloc (.cells #[.int .i64 (ix s : Int)] 3) := ⟨_, rfl⟩
  have hb24 : Below w2.heap.size w2 w4 := by rw [hw4]; exact Below.al (below1 w2 _) (by simp) _
  have hc4 : Boxed w4 w2.heap.size 63 (.pointer (some ⟨C, 0, none⟩)) := by rw [hw4]; exact (Boxed.new w2 _ _).alloc _
  have hi4 : Boxed w4 (w2.heap.size + 1) 3 (.int .i64 (ix s : Int)) := by
    have h1 := Boxed.new (w2.alloc (.cells #[.pointer (some ⟨C, 0, none⟩)] 63)) 3 (.int .i64 (ix s : Int))
    rw [World.size_alloc] at h1
    rw [hw4]; exact h1
  have hB4 := below_nx hB2 hb24 (Nat.le_refl _)
  have hx4 := hx2.below hb24
  have hr4 := boxed_below hr2 hb24
  have hcell4 := World.grownBy.cell (grown_below hB4) hcw (by simp)
  have hrow4 := hrw.kept (grown_below hB4) (by cases v.ownBlock <;> simp)
  have hsz : w.heap.size + 1 < w4.heap.size := hr4.lt
  have hra := row_any (some ⟨C, 0, none⟩) (ix s : Int) w2
  rw [<- hw4] at hra
  have HV := Lib.hid hv
  have HXS := Lib.hid hxs
  have HNO := Lib.hid hno
  refine (callsIn_wide (n := 4)).1 ?_
  refine callsIn_of_wp_marks Tryz.func114 rfl trivial ?_ rfl
  simp only [Tryz.ntmps114, List.size_toArray, List.length_cons, List.length_nil, Nat.reduceAdd, Nat.reduceSub, Array.replicate_succ, Array.replicate_zero, List.push_toArray, List.append_toArray, List.nil_append, List.cons_append]
  clear hcw hrw hx2 hr2 hv hxs hno
  refine wpIn_wide.2 ?_
  unfold Wt.val
  go_wp2_with fail
  refine (rowOf_any s _).mono ?_
  rintro e w' ⟨rfl, rfl⟩
  rw [<- hw2]
  clear hw2
  go_wp2_with fail
  refine hra.mono ?_
  rintro e w4 ⟨rfl, rfl⟩
  go_wp2_with fail
  rw [<- hw4]
  clear hra hw4
  refine (wpIn_wide (n := 4)).1 ?_
  refine wpIn_rangeFunc_ownH rfl (by omega) (gf := 124) (lb := #[.pointer (some ⟨w2.heap.size, 0, none⟩), .pointer (some ⟨w2.heap.size + 1, 0, none⟩)]) rfl trivial (enters_of Tryz.func124 (by kernel_rfl) rfl)
    (row_stops hc4 hi4 hcell4 hrow4 (by omega) (Below.refl _ _)) (fun h k => h.trans k) (fun W l o o' hl ho hc hw => belowK_b (Nat.le_refl _) W l o o' hl ho hc hw) (Below.refl _ _) (fun _ => rfl)
    (fun pre W => Below w4.heap.size w4 W /\ True)
    (fun c pre W => Hid (∃ y ∈ pre, likeW x y = true) /\ c = .ret)
    (OwnFrom.and (ownFrom_below (Nat.le_refl _) (Nat.le_refl _)) (fun _ _ _ _ h _ _ => h))
    (fun c => OwnFrom.and (fun _ _ _ _ h _ _ => h) (fun _ _ _ _ h _ _ => h))
    ⟨Below.refl _ _, trivial⟩
    (fun y a' W => ∃ X, a' = { tmps := #[.pointer (some ⟨C, 0, none⟩), .bool s, (.agg #[.int .i64 x.t, .int .i64 x.c, .int .i64 x.v]), undef, undef, .pointer (some ⟨w.heap.size, 0, none⟩), .pointer (some ⟨w.heap.size + 1, 0, none⟩), .int .i64 (ix s : Int), .pointer (some ⟨X, 0, none⟩), .pointer (some ⟨C, 0, none⟩), .bool false, .bool s, .int .i64 (ix s : Int), .pointer (some ⟨C, 0, none⟩), .int .i64 (ix s : Int), .func (.func 124) #[] #[.pointer (some ⟨w2.heap.size, 0, none⟩), .pointer (some ⟨w2.heap.size + 1, 0, none⟩)], y.val, undef, undef, undef, undef, undef, undef, undef, undef, undef, undef, undef, undef, undef, undef, undef, undef, undef, undef, undef, undef, undef, undef, undef, undef, undef, undef], defers := [] } /\ WtAt W X y /\ w4.heap.size <= X) ?abides ?assign ?body ?done ?stop
  case abides =>
    intro y a' u W W' row hs hg hr
    obtain ⟨X, h1, h2, h3⟩ := hs
    exact ⟨X, h1, wtAt_abides X (fun _ : Unit => y) _ () W W' row h2 hg hr, h3⟩
  case assign =>
    rintro l pre y W K ⟨hB, -⟩ hK
    unfold Wt.val at hK ⊢
    gi_wp2
    exact hK _ _ ((KeepsOthers.alloc W _).from _) ((below1 W _).mono hB.size) ⟨Below.al hB hB.size _, trivial⟩ ⟨_, rfl, wtAt_new W y, hB.size⟩
  case body =>
    rintro l pre y a' W hl2 hr ⟨hB, -⟩ ⟨X, rfl, hX, hXl⟩ hlt
    have hxW := hx4.below hB
    have hrW := boxed_below hr4 hB
    have c0 := hX.c0
    have c1 := hX.c1
    have d0 := hxW.c0
    have d1 := hxW.c1
    have r0 := hrW.cell
    have r1 := hrW.frozen
    unfold Wt.val
    by_cases h0 : y.t = x.t
    · have t0 : (y.t == x.t) = true := beq_iff_eq.2 h0
      by_cases h1 : y.c = x.c
      · have t1 : (y.c == x.c) = true := beq_iff_eq.2 h1
        have HL : Hid (∃ z ∈ pre ++ [y], likeW x z = true) := Lib.hid ⟨y, by simp, by unfold likeW; rw [t0, t1]; rfl⟩
        clear h0 h1
        gi_wp2
        exact ⟨(KeepsOthers.setCell _ _ _).from _, HL, rfl⟩
      · have t1 : (y.c == x.c) = false := beq_eq_false_iff_ne.2 h1
        clear h0
        gi_wp2
        exact ⟨KeepsFrom.refl _ _, Below.refl _ _, hB, trivial⟩
    · have t0 : (y.t == x.t) = false := beq_eq_false_iff_ne.2 h0
      gi_wp2
      exact ⟨KeepsFrom.refl _ _, Below.refl _ _, hB, trivial⟩
  case done =>
    rintro D ys W hD - ⟨hB, -⟩ hK
    have hbW := below_nx hB4 hB (Nat.le_refl _)
    have hA := h.below hbW
    have hxW := hx4.below hB
    have hrW := boxed_below hr4 hB
    have hcW := hA.w s
    have hfW := hA.frozen (2 + ix s)
    have hwW := hA.row s
    rw [<- HV.out] at hcW hwW
    rw [show (if s = true then S else R) = xs from HXS.out.symm] at hwW
    have hlow := h.low
    have hi0 : (0 : Int) <= (ix s : Int) := by omega
    have hi2 : (ix s : Int) < 2 := by have := ix_lt s; omega
    have hneC : v.ownBlock ≠ some C := by rw [HV.out]; exact h.ne_w s
    have hDw : w.heap.size <= D := by omega
    obtain ⟨va, vc, rfl⟩ := owns_slice' hwW
    have c0 := hxW.c0
    have c1 := hxW.c1
    have c2 := hxW.c2
    have hne2 : ∀ (j : Nat) (u : Value), x.cellsL[j]? = some u -> (W.alloc (.cells #[.int .i64 x.t, .int .i64 x.c, .int .i64 x.v] 134)).drew.cell? (Addr.add ⟨W.heap.size, 0, none⟩ j) = some u := fun j u hj => wt_cell (wtAt_new W x) j u hj
    have h1 := wt_one x
    have hrow2 : (W.alloc (.cells #[.int .i64 x.t, .int .i64 x.c, .int .i64 x.v] 134)).drew.ownsRow 0 134 3 (.slice va xs.length vc) xs.length (flatW xs) := (hwW.alloc _).drew
    have hcA : (W.alloc (.cells #[.int .i64 x.t, .int .i64 x.c, .int .i64 x.v] 134)).cell? ⟨C, 2 + ix s, none⟩ = some (.slice va xs.length vc) := World.grownBy.cell (World.grownBy_alloc W _ none) hcW (by simp)
    have hcAd : (W.alloc (.cells #[.int .i64 x.t, .int .i64 x.c, .int .i64 x.v] 134)).drew.cell? ⟨C, 2 + ix s, none⟩ = some (.slice va xs.length vc) := hcA
    have hCl : C < (W.alloc (.cells #[.int .i64 x.t, .int .i64 x.c, .int .i64 x.v] 134)).drew.heap.size := by show C < (W.alloc _).heap.size; simp; have := hA.lt; omega
    have hfAd : (W.alloc (.cells #[.int .i64 x.t, .int .i64 x.c, .int .i64 x.v] 134)).drew.frozen? ⟨C, 2 + ix s, none⟩ = false := (World.frozen?_of_block ((World.grownBy_alloc W _ none).block C hA.lt (by simp))).trans hfW
    have hbx : ∀ w1, (W.alloc (.cells #[.int .i64 x.t, .int .i64 x.c, .int .i64 x.v] 134)).drew.grownBy w1 (Value.slice va xs.length vc).ownBlock -> w1.cell? ⟨C, 2 + ix s, none⟩ = some (.slice va xs.length vc) /\ w1.frozen? ⟨C, 2 + ix s, none⟩ = false := fun w1 hg =>
      ⟨hg.cell hcAd (fun e => hneC e.symm), (World.frozen?_of_block (hg.block C hCl (fun e => hneC e.symm))).trans hfAd⟩
    have HT := fun (w1 : World) (v' : Value) hr hg ha => wait_turn (F := Fl F w) (w := w) (w1 := w1) (v' := v') (x := x) (tmp := (.cells #[.int .i64 x.t, .int .i64 x.c, .int .i64 x.v] 134)) hA ho hlow hbW HV.out HXS.out hrW (by omega) hK hDw hr hg ha
    have hsz2 : 0 <= (W.alloc (.cells #[.int .i64 x.t, .int .i64 x.c, .int .i64 x.v] 134)).drew.heap.size := Nat.zero_le _
    clear hA hxW hrW hwW hfAd hcAd hneC
    go_wp2_with fail
    refine wp_onlyN ?_
    go_region_law (refine step_append_at rfl (.tmp 36) (.tmp 38) 109 rfl 0 134 i0 (.agg #[.int .i64 0, .int .i64 0, .int .i64 0]) 3 24 Tryz.underlying109 hi hz0 hz1 hz2 rfl (by decide) (.slice va xs.length vc) xs.length (flatW xs) rfl hrow2 ⟨W.heap.size, 0, none⟩ 1 1 x.cellsL rfl rfl hne2 h1 (by unfold maxLen; omega) (by omega) hsz2 ?_
                   intro v1' w1 hown1 hg1 hat1
                   obtain ⟨g1, cap1, rfl⟩ := ownsRow_succ hown1
                   obtain ⟨hv1, hf1⟩ := hbx w1 hg1)
    all_goals obtain ⟨hr3, hc3, hF3, hK3⟩ := HT w1 _ hown1 hg1 hat1
    all_goals simp only [onlyN]
    all_goals obtain ⟨W3, hW3⟩ : ∃ W3, W3 = w1.setCell ⟨C, 2 + ix s, none⟩ (.slice (some ⟨g1, 0, none⟩) (xs.length + 1) cap1) := ⟨_, rfl⟩
    all_goals rw [<- hW3] at hr3 hc3 hF3 hK3 ⊢
    all_goals have r0 := hr3.cell
    all_goals have r1 := hr3.frozen
    all_goals have hnE : ¬ Fw (Fl F w) W (w.heap.size + 1) := fun e => e.elim (fun e => by have := e.2; omega) (fun e => by have := hr4.lt; have := hB.size; omega)
    all_goals have hc5 := (hc3.off hnE 0 (.int .i64 0)).mono (G := Fw F w) (fun k e => e.elim (fun e => .inl e.1) (fun e => .inr (Nat.le_trans hbW.size e)))
    all_goals have hF5 := (hF3.mono (G := F) (fun k e => e.1)).next (Frm.set (F := Fw F w) W3 (p := ⟨w.heap.size + 1, 0, none⟩) (.int .i64 0) (.inr (by simp)))
    all_goals have hr5 := hr3.set (.int .i64 0)
    all_goals have hK5 := (KeepsOthers.setCell W3 ⟨w.heap.size + 1, 0, none⟩ (.int .i64 0)).same D _ hK3 rfl
    all_goals clear hW3 HT hbx hcW hcA hfW hown1 hg1 hat1 hv1 hf1 hne2 hrow2 c0 c1 c2 h1
    all_goals go_wp2_with fail
    all_goals exact wait_end hDw _ _ _ _ _ _ _ _ _ _ _ _ _ _ _ _ _ _ _ _ _ _ _ _ _ _ _ _ _ _ _ _ _ _ _ _ _ _ _ _ _ _ hr5 hc5 hF5 hK5
  case stop =>
    rintro D c pre W hD hpre ⟨HL, rfl⟩ hK
    obtain ⟨y, hy, hyl⟩ := HL.out
    exact absurd ((HNO.out y (hpre.subset hy)).symm.trans hyl) (by decide)
end Go.Proofs.YtdijhgaaeifbfaaGreat.Mch
