/-
  The walk of the document's line.
-/
import Derived.Deep.RegionHeld3
import Derived.Test.YthellmecdmolcaaDoorIRefC
namespace Go.Proofs.YthellmecdmolcaaDoor
open Go.RowKit Go.Shelf

attribute [local go_sem] Oper.semAt_some

/-- What the walk of a line goes on with. -/
structure Lin (w W : World) (B N : Nat) (x : In) : Prop where
  box : InAt W B x
  ne : NeAt W N (nA x.o) (nB x.o) (nC x.o) (nK x.o)
  vars : Vars W
  below : Below w.heap.size w W
theorem Lin.next {w W W' : World} {B N : Nat} {x : In} (h : Lin w W B N x) (hb : Below W.heap.size W W') : Lin w W' B N x :=
  ⟨h.box.of_block (hb.block _ h.box.lt), h.ne.of_block (hb.block _ h.ne.lt), h.vars.below hb, h.below.trans (hb.mono h.below.size)⟩

set_option maxRecDepth 100000 in
set_option maxHeartbeats 12800000 in
theorem refLine_any (x : In) (hx : x.ok) (w : World) (hv : Vars w) :
    Calls Tryd.prog 8 #[x.val] w fun e w' => e = .returned (.tuple #[.string ⟨(lineV x).toArray⟩, .int .i64 (lineE x)]) ∧ Below w.heap.size w w' := by
  obtain ⟨W0, hW0⟩ : ∃ W0, W0 = w.alloc (.cells #[.int .u8 (x.o : Int), .int .i64 x.a, .int .i64 x.b, .int .i64 x.c, .int .i64 x.k] 23) := ⟨_, rfl⟩
  have hb0 : But [] w W0 := by rw [hW0]; exact (But.refl [] w).alloc _
  have hbox : InAt W0 w.heap.size x := by rw [hW0]; exact inAt_new w x
  have hbr := bare_any x W0
  have x0 := hbox.c0
  have x1 := hbox.c1
  have x2 := hbox.c2
  have x3 := hbox.c3
  have x4 := hbox.c4
  unfold In.val at hbr ⊢
  rw [hW0] at x0 x1 x2 x3 x4 hbr
  go_enter Tryd.func8, Tryd.ntmps8
  go_wp2_with fail
  refine hbr.mono ?_
  rw [← hW0]
  rintro e wb ⟨rfl, hkb⟩
  have hb1 : But [] w wb := hb0.next hkb
  have hx1 := hbox.of_block (hkb.block _ hbox.lt (by simp))
  clear x0 x1 x2 x3 x4 hbr hW0 hbox hb0 hkb
  cases hok : okI x with
  | false =>
    have HE : Hid (lineV x = []) := Lib.hid (by unfold lineV; rw [hok]; rfl)
    have HF : Hid (lineE x = 2) := Lib.hid (by unfold lineE; rw [hok]; rfl)
    have hB := hb1.below (Nat.le_refl _) (by simp)
    clear hok
    go_wp2_with fail
    exact bodyPost_ret (v := .tuple #[.string ⟨#[]⟩, .int .i64 2]) (by simp [results, Tryd.f8, go_sem]) rfl ⟨ret_v (by rw [HE.out, HF.out]), hB⟩
  | true =>
  have y0 := hx1.c0
  have hof := of_any x.o wb
  go_wp2_with fail
  refine hof.mono ?_
  rintro e wk ⟨rfl, hk⟩
  obtain ⟨W1, hW1⟩ : ∃ W1, W1 = wk.alloc (.cells #[.bool (nA x.o), .bool (nB x.o), .bool (nC x.o), .bool (nK x.o)] 48) := ⟨_, rfl⟩
  have hb2 : But [] wk W1 := by rw [hW1]; exact (But.refl [] wk).alloc _
  have hne : NeAt W1 wk.heap.size (nA x.o) (nB x.o) (nC x.o) (nK x.o) := by rw [hW1]; exact neAt_new wk _ _ _ _
  have hbw := (hb1.next (hk.next hb2)).below (n := w.heap.size) (Nat.le_refl _) (by simp)
  have hC : Lin w W1 w.heap.size wk.heap.size x := ⟨hx1.of_block ((hk.next hb2).block _ hx1.lt (by simp)), hne, hv.below hbw, hbw⟩
  clear hof hk hb2 hne hbw y0 hx1 hb1
  have hkn : known x.o = true := by have := hok; unfold okI at this; simp only [Bool.and_eq_true] at this; exact this.1
  have ho : x.o ≤ 10 := (known_iff.1 hkn).2
  go_upto_region 4 with fail
  rw [← hW1]
  obtain ⟨N, hN⟩ : ∃ N, N = wk.heap.size := ⟨_, rfl⟩
  rw [← hN] at hC
  rw [← hN]
  clear hW1 hN
  go_cut [5] from 12 to 16 (fun sv W => sv = .string ⟨(wordL x.o).toArray⟩ ∧ Lin w W w.heap.size N x)
  case first =>
    have c0 := hC.box.c0
    have i1 : (x.o : Int) < 11 := by omega
    have hsz : W1.drew.heap.size = W1.heap.size := rfl
    have k9 : W1.drew.cell? ⟨w.heap.size, 0, none⟩ = some (.int .u8 (x.o : Int)) := c0
    go_region_with ((go_at_call 20; refine (words_any _).mono ?_; rintro e wq ⟨rfl, hwq, hbq⟩; have k0 := hbq.cell (p := ⟨w.heap.size, 0, none⟩) c0 (by simp); have l0 : wq.cell? ⟨W1.heap.size, x.o, none⟩ = some (.string ⟨(wordL x.o).toArray⟩) := hwq.cell x.o ho))
    all_goals go_wp2_with fail
    all_goals go_meet
    all_goals exact ⟨rfl, hC.next (((But.refl [] W1).drew.next hbq).below (Nat.le_refl _) (by simp))⟩
  case rest =>
    obtain ⟨rfl, hC⟩ := hcut
    have hxa := hx.a
    have hxb := hx.b
    have hxc := hx.c
    have hxk := hx.k
    obtain ⟨o, a, b, c, k⟩ := x
    simp only at hkn hxa hxb hxc hxk ⊢
    have hla := Lib.itoa_length_le a hxa.1 hxa.2
    have hlb := Lib.itoa_length_le b hxb.1 hxb.2
    have hlc := Lib.itoa_length_le c hxc.1 hxc.2
    have hlk := Lib.itoa_length_le k hxk.1 hxk.2
    rcases known_cases hkn with rfl | rfl | rfl | rfl | rfl | rfl | rfl | rfl | rfl | rfl
    · have HE : Hid (lineV ⟨1, a, b, c, k⟩ = ((((wordL 1 ++ [32]) ++ Lib.itoa a) ++ [32]) ++ Lib.itoa k)) := Lib.hid (by unfold lineV; rw [hok]; rfl)
      have HF : Hid (lineE ⟨1, a, b, c, k⟩ = 0) := Lib.hid (by unfold lineE; rw [hok]; rfl)
      clear hok hkn ho hx
      simp only [wordL]
      have n0 : World.cell? _ ⟨N, 0, none⟩ = some (.bool true) := hC.ne.c0
      have n1 : World.cell? _ ⟨N, 1, none⟩ = some (.bool false) := hC.ne.c1
      have n2 : World.cell? _ ⟨N, 2, none⟩ = some (.bool false) := hC.ne.c2
      have n3 : World.cell? _ ⟨N, 3, none⟩ = some (.bool true) := hC.ne.c3
      have y1 : World.cell? _ ⟨w.heap.size, 1, none⟩ = some (.int .i64 a) := hC.box.c1
      have y2 : World.cell? _ ⟨w.heap.size, 2, none⟩ = some (.int .i64 b) := hC.box.c2
      have y3 : World.cell? _ ⟨w.heap.size, 3, none⟩ = some (.int .i64 c) := hC.box.c3
      have y4 : World.cell? _ ⟨w.heap.size, 4, none⟩ = some (.int .i64 k) := hC.box.c4
      go_wp2_with ((first | (go_at_call 21; first | refine (itoa_any hxa _ hC.vars).mono ?_ | refine (itoa_any hxb _ hC.vars).mono ?_ | refine (itoa_any hxc _ hC.vars).mono ?_) | (go_at_call 22; refine (fmt_any hxk _ hC.vars).mono ?_)); rintro e wq ⟨rfl, hq⟩; clear n0 y1 n1 y2 n2 y3 n3 y4; have hD := hC.next hq; clear hC hq; have hC := hD; clear hD; have n0 : World.cell? _ ⟨N, 0, none⟩ = some (.bool true) := hC.ne.c0; have n1 : World.cell? _ ⟨N, 1, none⟩ = some (.bool false) := hC.ne.c1; have n2 : World.cell? _ ⟨N, 2, none⟩ = some (.bool false) := hC.ne.c2; have n3 : World.cell? _ ⟨N, 3, none⟩ = some (.bool true) := hC.ne.c3; have y1 : World.cell? _ ⟨w.heap.size, 1, none⟩ = some (.int .i64 a) := hC.box.c1; have y2 : World.cell? _ ⟨w.heap.size, 2, none⟩ = some (.int .i64 b) := hC.box.c2; have y3 : World.cell? _ ⟨w.heap.size, 3, none⟩ = some (.int .i64 c) := hC.box.c3; have y4 : World.cell? _ ⟨w.heap.size, 4, none⟩ = some (.int .i64 k) := hC.box.c4)
      exact bodyPost_ret (by simp [results, Tryd.f8, go_sem]; rfl) rfl ⟨ret_v (by rw [HE.out, HF.out]; first | (simp only [ByteArray.mk_append_mk]; rfl) | rfl), hC.below⟩
    · have HE : Hid (lineV ⟨2, a, b, c, k⟩ = ((((wordL 2 ++ [32]) ++ Lib.itoa a) ++ [32]) ++ Lib.itoa b)) := Lib.hid (by unfold lineV; rw [hok]; rfl)
      have HF : Hid (lineE ⟨2, a, b, c, k⟩ = 0) := Lib.hid (by unfold lineE; rw [hok]; rfl)
      clear hok hkn ho hx
      simp only [wordL]
      have n0 : World.cell? _ ⟨N, 0, none⟩ = some (.bool true) := hC.ne.c0
      have n1 : World.cell? _ ⟨N, 1, none⟩ = some (.bool true) := hC.ne.c1
      have n2 : World.cell? _ ⟨N, 2, none⟩ = some (.bool false) := hC.ne.c2
      have n3 : World.cell? _ ⟨N, 3, none⟩ = some (.bool false) := hC.ne.c3
      have y1 : World.cell? _ ⟨w.heap.size, 1, none⟩ = some (.int .i64 a) := hC.box.c1
      have y2 : World.cell? _ ⟨w.heap.size, 2, none⟩ = some (.int .i64 b) := hC.box.c2
      have y3 : World.cell? _ ⟨w.heap.size, 3, none⟩ = some (.int .i64 c) := hC.box.c3
      have y4 : World.cell? _ ⟨w.heap.size, 4, none⟩ = some (.int .i64 k) := hC.box.c4
      go_wp2_with ((first | (go_at_call 21; first | refine (itoa_any hxa _ hC.vars).mono ?_ | refine (itoa_any hxb _ hC.vars).mono ?_ | refine (itoa_any hxc _ hC.vars).mono ?_) | (go_at_call 22; refine (fmt_any hxk _ hC.vars).mono ?_)); rintro e wq ⟨rfl, hq⟩; clear n0 y1 n1 y2 n2 y3 n3 y4; have hD := hC.next hq; clear hC hq; have hC := hD; clear hD; have n0 : World.cell? _ ⟨N, 0, none⟩ = some (.bool true) := hC.ne.c0; have n1 : World.cell? _ ⟨N, 1, none⟩ = some (.bool true) := hC.ne.c1; have n2 : World.cell? _ ⟨N, 2, none⟩ = some (.bool false) := hC.ne.c2; have n3 : World.cell? _ ⟨N, 3, none⟩ = some (.bool false) := hC.ne.c3; have y1 : World.cell? _ ⟨w.heap.size, 1, none⟩ = some (.int .i64 a) := hC.box.c1; have y2 : World.cell? _ ⟨w.heap.size, 2, none⟩ = some (.int .i64 b) := hC.box.c2; have y3 : World.cell? _ ⟨w.heap.size, 3, none⟩ = some (.int .i64 c) := hC.box.c3; have y4 : World.cell? _ ⟨w.heap.size, 4, none⟩ = some (.int .i64 k) := hC.box.c4)
      exact bodyPost_ret (by simp [results, Tryd.f8, go_sem]; rfl) rfl ⟨ret_v (by rw [HE.out, HF.out]; first | (simp only [ByteArray.mk_append_mk]; rfl) | rfl), hC.below⟩
    · have HE : Hid (lineV ⟨3, a, b, c, k⟩ = ((wordL 3 ++ [32]) ++ Lib.itoa k)) := Lib.hid (by unfold lineV; rw [hok]; rfl)
      have HF : Hid (lineE ⟨3, a, b, c, k⟩ = 0) := Lib.hid (by unfold lineE; rw [hok]; rfl)
      clear hok hkn ho hx
      simp only [wordL]
      have n0 : World.cell? _ ⟨N, 0, none⟩ = some (.bool false) := hC.ne.c0
      have n1 : World.cell? _ ⟨N, 1, none⟩ = some (.bool false) := hC.ne.c1
      have n2 : World.cell? _ ⟨N, 2, none⟩ = some (.bool false) := hC.ne.c2
      have n3 : World.cell? _ ⟨N, 3, none⟩ = some (.bool true) := hC.ne.c3
      have y1 : World.cell? _ ⟨w.heap.size, 1, none⟩ = some (.int .i64 a) := hC.box.c1
      have y2 : World.cell? _ ⟨w.heap.size, 2, none⟩ = some (.int .i64 b) := hC.box.c2
      have y3 : World.cell? _ ⟨w.heap.size, 3, none⟩ = some (.int .i64 c) := hC.box.c3
      have y4 : World.cell? _ ⟨w.heap.size, 4, none⟩ = some (.int .i64 k) := hC.box.c4
      go_wp2_with ((first | (go_at_call 21; first | refine (itoa_any hxa _ hC.vars).mono ?_ | refine (itoa_any hxb _ hC.vars).mono ?_ | refine (itoa_any hxc _ hC.vars).mono ?_) | (go_at_call 22; refine (fmt_any hxk _ hC.vars).mono ?_)); rintro e wq ⟨rfl, hq⟩; clear n0 y1 n1 y2 n2 y3 n3 y4; have hD := hC.next hq; clear hC hq; have hC := hD; clear hD; have n0 : World.cell? _ ⟨N, 0, none⟩ = some (.bool false) := hC.ne.c0; have n1 : World.cell? _ ⟨N, 1, none⟩ = some (.bool false) := hC.ne.c1; have n2 : World.cell? _ ⟨N, 2, none⟩ = some (.bool false) := hC.ne.c2; have n3 : World.cell? _ ⟨N, 3, none⟩ = some (.bool true) := hC.ne.c3; have y1 : World.cell? _ ⟨w.heap.size, 1, none⟩ = some (.int .i64 a) := hC.box.c1; have y2 : World.cell? _ ⟨w.heap.size, 2, none⟩ = some (.int .i64 b) := hC.box.c2; have y3 : World.cell? _ ⟨w.heap.size, 3, none⟩ = some (.int .i64 c) := hC.box.c3; have y4 : World.cell? _ ⟨w.heap.size, 4, none⟩ = some (.int .i64 k) := hC.box.c4)
      exact bodyPost_ret (by simp [results, Tryd.f8, go_sem]; rfl) rfl ⟨ret_v (by rw [HE.out, HF.out]; first | (simp only [ByteArray.mk_append_mk]; rfl) | rfl), hC.below⟩
    · have HE : Hid (lineV ⟨4, a, b, c, k⟩ = ((((wordL 4 ++ [32]) ++ Lib.itoa a) ++ [32]) ++ Lib.itoa k)) := Lib.hid (by unfold lineV; rw [hok]; rfl)
      have HF : Hid (lineE ⟨4, a, b, c, k⟩ = 0) := Lib.hid (by unfold lineE; rw [hok]; rfl)
      clear hok hkn ho hx
      simp only [wordL]
      have n0 : World.cell? _ ⟨N, 0, none⟩ = some (.bool true) := hC.ne.c0
      have n1 : World.cell? _ ⟨N, 1, none⟩ = some (.bool false) := hC.ne.c1
      have n2 : World.cell? _ ⟨N, 2, none⟩ = some (.bool false) := hC.ne.c2
      have n3 : World.cell? _ ⟨N, 3, none⟩ = some (.bool true) := hC.ne.c3
      have y1 : World.cell? _ ⟨w.heap.size, 1, none⟩ = some (.int .i64 a) := hC.box.c1
      have y2 : World.cell? _ ⟨w.heap.size, 2, none⟩ = some (.int .i64 b) := hC.box.c2
      have y3 : World.cell? _ ⟨w.heap.size, 3, none⟩ = some (.int .i64 c) := hC.box.c3
      have y4 : World.cell? _ ⟨w.heap.size, 4, none⟩ = some (.int .i64 k) := hC.box.c4
      go_wp2_with ((first | (go_at_call 21; first | refine (itoa_any hxa _ hC.vars).mono ?_ | refine (itoa_any hxb _ hC.vars).mono ?_ | refine (itoa_any hxc _ hC.vars).mono ?_) | (go_at_call 22; refine (fmt_any hxk _ hC.vars).mono ?_)); rintro e wq ⟨rfl, hq⟩; clear n0 y1 n1 y2 n2 y3 n3 y4; have hD := hC.next hq; clear hC hq; have hC := hD; clear hD; have n0 : World.cell? _ ⟨N, 0, none⟩ = some (.bool true) := hC.ne.c0; have n1 : World.cell? _ ⟨N, 1, none⟩ = some (.bool false) := hC.ne.c1; have n2 : World.cell? _ ⟨N, 2, none⟩ = some (.bool false) := hC.ne.c2; have n3 : World.cell? _ ⟨N, 3, none⟩ = some (.bool true) := hC.ne.c3; have y1 : World.cell? _ ⟨w.heap.size, 1, none⟩ = some (.int .i64 a) := hC.box.c1; have y2 : World.cell? _ ⟨w.heap.size, 2, none⟩ = some (.int .i64 b) := hC.box.c2; have y3 : World.cell? _ ⟨w.heap.size, 3, none⟩ = some (.int .i64 c) := hC.box.c3; have y4 : World.cell? _ ⟨w.heap.size, 4, none⟩ = some (.int .i64 k) := hC.box.c4)
      exact bodyPost_ret (by simp [results, Tryd.f8, go_sem]; rfl) rfl ⟨ret_v (by rw [HE.out, HF.out]; first | (simp only [ByteArray.mk_append_mk]; rfl) | rfl), hC.below⟩
    · have HE : Hid (lineV ⟨5, a, b, c, k⟩ = ((((wordL 5 ++ [32]) ++ Lib.itoa a) ++ [32]) ++ Lib.itoa c)) := Lib.hid (by unfold lineV; rw [hok]; rfl)
      have HF : Hid (lineE ⟨5, a, b, c, k⟩ = 0) := Lib.hid (by unfold lineE; rw [hok]; rfl)
      clear hok hkn ho hx
      simp only [wordL]
      have n0 : World.cell? _ ⟨N, 0, none⟩ = some (.bool true) := hC.ne.c0
      have n1 : World.cell? _ ⟨N, 1, none⟩ = some (.bool false) := hC.ne.c1
      have n2 : World.cell? _ ⟨N, 2, none⟩ = some (.bool true) := hC.ne.c2
      have n3 : World.cell? _ ⟨N, 3, none⟩ = some (.bool false) := hC.ne.c3
      have y1 : World.cell? _ ⟨w.heap.size, 1, none⟩ = some (.int .i64 a) := hC.box.c1
      have y2 : World.cell? _ ⟨w.heap.size, 2, none⟩ = some (.int .i64 b) := hC.box.c2
      have y3 : World.cell? _ ⟨w.heap.size, 3, none⟩ = some (.int .i64 c) := hC.box.c3
      have y4 : World.cell? _ ⟨w.heap.size, 4, none⟩ = some (.int .i64 k) := hC.box.c4
      go_wp2_with ((first | (go_at_call 21; first | refine (itoa_any hxa _ hC.vars).mono ?_ | refine (itoa_any hxb _ hC.vars).mono ?_ | refine (itoa_any hxc _ hC.vars).mono ?_) | (go_at_call 22; refine (fmt_any hxk _ hC.vars).mono ?_)); rintro e wq ⟨rfl, hq⟩; clear n0 y1 n1 y2 n2 y3 n3 y4; have hD := hC.next hq; clear hC hq; have hC := hD; clear hD; have n0 : World.cell? _ ⟨N, 0, none⟩ = some (.bool true) := hC.ne.c0; have n1 : World.cell? _ ⟨N, 1, none⟩ = some (.bool false) := hC.ne.c1; have n2 : World.cell? _ ⟨N, 2, none⟩ = some (.bool true) := hC.ne.c2; have n3 : World.cell? _ ⟨N, 3, none⟩ = some (.bool false) := hC.ne.c3; have y1 : World.cell? _ ⟨w.heap.size, 1, none⟩ = some (.int .i64 a) := hC.box.c1; have y2 : World.cell? _ ⟨w.heap.size, 2, none⟩ = some (.int .i64 b) := hC.box.c2; have y3 : World.cell? _ ⟨w.heap.size, 3, none⟩ = some (.int .i64 c) := hC.box.c3; have y4 : World.cell? _ ⟨w.heap.size, 4, none⟩ = some (.int .i64 k) := hC.box.c4)
      exact bodyPost_ret (by simp [results, Tryd.f8, go_sem]; rfl) rfl ⟨ret_v (by rw [HE.out, HF.out]; first | (simp only [ByteArray.mk_append_mk]; rfl) | rfl), hC.below⟩
    · have HE : Hid (lineV ⟨6, a, b, c, k⟩ = ((((((wordL 6 ++ [32]) ++ Lib.itoa a) ++ [32]) ++ Lib.itoa b) ++ [32]) ++ Lib.itoa c)) := Lib.hid (by unfold lineV; rw [hok]; rfl)
      have HF : Hid (lineE ⟨6, a, b, c, k⟩ = 0) := Lib.hid (by unfold lineE; rw [hok]; rfl)
      clear hok hkn ho hx
      simp only [wordL]
      have n0 : World.cell? _ ⟨N, 0, none⟩ = some (.bool true) := hC.ne.c0
      have n1 : World.cell? _ ⟨N, 1, none⟩ = some (.bool true) := hC.ne.c1
      have n2 : World.cell? _ ⟨N, 2, none⟩ = some (.bool true) := hC.ne.c2
      have n3 : World.cell? _ ⟨N, 3, none⟩ = some (.bool false) := hC.ne.c3
      have y1 : World.cell? _ ⟨w.heap.size, 1, none⟩ = some (.int .i64 a) := hC.box.c1
      have y2 : World.cell? _ ⟨w.heap.size, 2, none⟩ = some (.int .i64 b) := hC.box.c2
      have y3 : World.cell? _ ⟨w.heap.size, 3, none⟩ = some (.int .i64 c) := hC.box.c3
      have y4 : World.cell? _ ⟨w.heap.size, 4, none⟩ = some (.int .i64 k) := hC.box.c4
      go_wp2_with ((first | (go_at_call 21; first | refine (itoa_any hxa _ hC.vars).mono ?_ | refine (itoa_any hxb _ hC.vars).mono ?_ | refine (itoa_any hxc _ hC.vars).mono ?_) | (go_at_call 22; refine (fmt_any hxk _ hC.vars).mono ?_)); rintro e wq ⟨rfl, hq⟩; clear n0 y1 n1 y2 n2 y3 n3 y4; have hD := hC.next hq; clear hC hq; have hC := hD; clear hD; have n0 : World.cell? _ ⟨N, 0, none⟩ = some (.bool true) := hC.ne.c0; have n1 : World.cell? _ ⟨N, 1, none⟩ = some (.bool true) := hC.ne.c1; have n2 : World.cell? _ ⟨N, 2, none⟩ = some (.bool true) := hC.ne.c2; have n3 : World.cell? _ ⟨N, 3, none⟩ = some (.bool false) := hC.ne.c3; have y1 : World.cell? _ ⟨w.heap.size, 1, none⟩ = some (.int .i64 a) := hC.box.c1; have y2 : World.cell? _ ⟨w.heap.size, 2, none⟩ = some (.int .i64 b) := hC.box.c2; have y3 : World.cell? _ ⟨w.heap.size, 3, none⟩ = some (.int .i64 c) := hC.box.c3; have y4 : World.cell? _ ⟨w.heap.size, 4, none⟩ = some (.int .i64 k) := hC.box.c4)
      exact bodyPost_ret (by simp [results, Tryd.f8, go_sem]; rfl) rfl ⟨ret_v (by rw [HE.out, HF.out]; first | (simp only [ByteArray.mk_append_mk]; rfl) | rfl), hC.below⟩
    · have HE : Hid (lineV ⟨7, a, b, c, k⟩ = ((wordL 7 ++ [32]) ++ Lib.itoa c)) := Lib.hid (by unfold lineV; rw [hok]; rfl)
      have HF : Hid (lineE ⟨7, a, b, c, k⟩ = 0) := Lib.hid (by unfold lineE; rw [hok]; rfl)
      clear hok hkn ho hx
      simp only [wordL]
      have n0 : World.cell? _ ⟨N, 0, none⟩ = some (.bool false) := hC.ne.c0
      have n1 : World.cell? _ ⟨N, 1, none⟩ = some (.bool false) := hC.ne.c1
      have n2 : World.cell? _ ⟨N, 2, none⟩ = some (.bool true) := hC.ne.c2
      have n3 : World.cell? _ ⟨N, 3, none⟩ = some (.bool false) := hC.ne.c3
      have y1 : World.cell? _ ⟨w.heap.size, 1, none⟩ = some (.int .i64 a) := hC.box.c1
      have y2 : World.cell? _ ⟨w.heap.size, 2, none⟩ = some (.int .i64 b) := hC.box.c2
      have y3 : World.cell? _ ⟨w.heap.size, 3, none⟩ = some (.int .i64 c) := hC.box.c3
      have y4 : World.cell? _ ⟨w.heap.size, 4, none⟩ = some (.int .i64 k) := hC.box.c4
      go_wp2_with ((first | (go_at_call 21; first | refine (itoa_any hxa _ hC.vars).mono ?_ | refine (itoa_any hxb _ hC.vars).mono ?_ | refine (itoa_any hxc _ hC.vars).mono ?_) | (go_at_call 22; refine (fmt_any hxk _ hC.vars).mono ?_)); rintro e wq ⟨rfl, hq⟩; clear n0 y1 n1 y2 n2 y3 n3 y4; have hD := hC.next hq; clear hC hq; have hC := hD; clear hD; have n0 : World.cell? _ ⟨N, 0, none⟩ = some (.bool false) := hC.ne.c0; have n1 : World.cell? _ ⟨N, 1, none⟩ = some (.bool false) := hC.ne.c1; have n2 : World.cell? _ ⟨N, 2, none⟩ = some (.bool true) := hC.ne.c2; have n3 : World.cell? _ ⟨N, 3, none⟩ = some (.bool false) := hC.ne.c3; have y1 : World.cell? _ ⟨w.heap.size, 1, none⟩ = some (.int .i64 a) := hC.box.c1; have y2 : World.cell? _ ⟨w.heap.size, 2, none⟩ = some (.int .i64 b) := hC.box.c2; have y3 : World.cell? _ ⟨w.heap.size, 3, none⟩ = some (.int .i64 c) := hC.box.c3; have y4 : World.cell? _ ⟨w.heap.size, 4, none⟩ = some (.int .i64 k) := hC.box.c4)
      exact bodyPost_ret (by simp [results, Tryd.f8, go_sem]; rfl) rfl ⟨ret_v (by rw [HE.out, HF.out]; first | (simp only [ByteArray.mk_append_mk]; rfl) | rfl), hC.below⟩
    · have HE : Hid (lineV ⟨8, a, b, c, k⟩ = ((((wordL 8 ++ [32]) ++ Lib.itoa b) ++ [32]) ++ Lib.itoa k)) := Lib.hid (by unfold lineV; rw [hok]; rfl)
      have HF : Hid (lineE ⟨8, a, b, c, k⟩ = 0) := Lib.hid (by unfold lineE; rw [hok]; rfl)
      clear hok hkn ho hx
      simp only [wordL]
      have n0 : World.cell? _ ⟨N, 0, none⟩ = some (.bool false) := hC.ne.c0
      have n1 : World.cell? _ ⟨N, 1, none⟩ = some (.bool true) := hC.ne.c1
      have n2 : World.cell? _ ⟨N, 2, none⟩ = some (.bool false) := hC.ne.c2
      have n3 : World.cell? _ ⟨N, 3, none⟩ = some (.bool true) := hC.ne.c3
      have y1 : World.cell? _ ⟨w.heap.size, 1, none⟩ = some (.int .i64 a) := hC.box.c1
      have y2 : World.cell? _ ⟨w.heap.size, 2, none⟩ = some (.int .i64 b) := hC.box.c2
      have y3 : World.cell? _ ⟨w.heap.size, 3, none⟩ = some (.int .i64 c) := hC.box.c3
      have y4 : World.cell? _ ⟨w.heap.size, 4, none⟩ = some (.int .i64 k) := hC.box.c4
      go_wp2_with ((first | (go_at_call 21; first | refine (itoa_any hxa _ hC.vars).mono ?_ | refine (itoa_any hxb _ hC.vars).mono ?_ | refine (itoa_any hxc _ hC.vars).mono ?_) | (go_at_call 22; refine (fmt_any hxk _ hC.vars).mono ?_)); rintro e wq ⟨rfl, hq⟩; clear n0 y1 n1 y2 n2 y3 n3 y4; have hD := hC.next hq; clear hC hq; have hC := hD; clear hD; have n0 : World.cell? _ ⟨N, 0, none⟩ = some (.bool false) := hC.ne.c0; have n1 : World.cell? _ ⟨N, 1, none⟩ = some (.bool true) := hC.ne.c1; have n2 : World.cell? _ ⟨N, 2, none⟩ = some (.bool false) := hC.ne.c2; have n3 : World.cell? _ ⟨N, 3, none⟩ = some (.bool true) := hC.ne.c3; have y1 : World.cell? _ ⟨w.heap.size, 1, none⟩ = some (.int .i64 a) := hC.box.c1; have y2 : World.cell? _ ⟨w.heap.size, 2, none⟩ = some (.int .i64 b) := hC.box.c2; have y3 : World.cell? _ ⟨w.heap.size, 3, none⟩ = some (.int .i64 c) := hC.box.c3; have y4 : World.cell? _ ⟨w.heap.size, 4, none⟩ = some (.int .i64 k) := hC.box.c4)
      exact bodyPost_ret (by simp [results, Tryd.f8, go_sem]; rfl) rfl ⟨ret_v (by rw [HE.out, HF.out]; first | (simp only [ByteArray.mk_append_mk]; rfl) | rfl), hC.below⟩
    · have HE : Hid (lineV ⟨9, a, b, c, k⟩ = ((wordL 9 ++ [32]) ++ Lib.itoa k)) := Lib.hid (by unfold lineV; rw [hok]; rfl)
      have HF : Hid (lineE ⟨9, a, b, c, k⟩ = 0) := Lib.hid (by unfold lineE; rw [hok]; rfl)
      clear hok hkn ho hx
      simp only [wordL]
      have n0 : World.cell? _ ⟨N, 0, none⟩ = some (.bool false) := hC.ne.c0
      have n1 : World.cell? _ ⟨N, 1, none⟩ = some (.bool false) := hC.ne.c1
      have n2 : World.cell? _ ⟨N, 2, none⟩ = some (.bool false) := hC.ne.c2
      have n3 : World.cell? _ ⟨N, 3, none⟩ = some (.bool true) := hC.ne.c3
      have y1 : World.cell? _ ⟨w.heap.size, 1, none⟩ = some (.int .i64 a) := hC.box.c1
      have y2 : World.cell? _ ⟨w.heap.size, 2, none⟩ = some (.int .i64 b) := hC.box.c2
      have y3 : World.cell? _ ⟨w.heap.size, 3, none⟩ = some (.int .i64 c) := hC.box.c3
      have y4 : World.cell? _ ⟨w.heap.size, 4, none⟩ = some (.int .i64 k) := hC.box.c4
      go_wp2_with ((first | (go_at_call 21; first | refine (itoa_any hxa _ hC.vars).mono ?_ | refine (itoa_any hxb _ hC.vars).mono ?_ | refine (itoa_any hxc _ hC.vars).mono ?_) | (go_at_call 22; refine (fmt_any hxk _ hC.vars).mono ?_)); rintro e wq ⟨rfl, hq⟩; clear n0 y1 n1 y2 n2 y3 n3 y4; have hD := hC.next hq; clear hC hq; have hC := hD; clear hD; have n0 : World.cell? _ ⟨N, 0, none⟩ = some (.bool false) := hC.ne.c0; have n1 : World.cell? _ ⟨N, 1, none⟩ = some (.bool false) := hC.ne.c1; have n2 : World.cell? _ ⟨N, 2, none⟩ = some (.bool false) := hC.ne.c2; have n3 : World.cell? _ ⟨N, 3, none⟩ = some (.bool true) := hC.ne.c3; have y1 : World.cell? _ ⟨w.heap.size, 1, none⟩ = some (.int .i64 a) := hC.box.c1; have y2 : World.cell? _ ⟨w.heap.size, 2, none⟩ = some (.int .i64 b) := hC.box.c2; have y3 : World.cell? _ ⟨w.heap.size, 3, none⟩ = some (.int .i64 c) := hC.box.c3; have y4 : World.cell? _ ⟨w.heap.size, 4, none⟩ = some (.int .i64 k) := hC.box.c4)
      exact bodyPost_ret (by simp [results, Tryd.f8, go_sem]; rfl) rfl ⟨ret_v (by rw [HE.out, HF.out]; first | (simp only [ByteArray.mk_append_mk]; rfl) | rfl), hC.below⟩
    · have HE : Hid (lineV ⟨10, a, b, c, k⟩ = wordL 10) := Lib.hid (by unfold lineV; rw [hok]; rfl)
      have HF : Hid (lineE ⟨10, a, b, c, k⟩ = 0) := Lib.hid (by unfold lineE; rw [hok]; rfl)
      clear hok hkn ho hx
      simp only [wordL]
      have n0 : World.cell? _ ⟨N, 0, none⟩ = some (.bool false) := hC.ne.c0
      have n1 : World.cell? _ ⟨N, 1, none⟩ = some (.bool false) := hC.ne.c1
      have n2 : World.cell? _ ⟨N, 2, none⟩ = some (.bool false) := hC.ne.c2
      have n3 : World.cell? _ ⟨N, 3, none⟩ = some (.bool false) := hC.ne.c3
      have y1 : World.cell? _ ⟨w.heap.size, 1, none⟩ = some (.int .i64 a) := hC.box.c1
      have y2 : World.cell? _ ⟨w.heap.size, 2, none⟩ = some (.int .i64 b) := hC.box.c2
      have y3 : World.cell? _ ⟨w.heap.size, 3, none⟩ = some (.int .i64 c) := hC.box.c3
      have y4 : World.cell? _ ⟨w.heap.size, 4, none⟩ = some (.int .i64 k) := hC.box.c4
      go_wp2_with ((first | (go_at_call 21; first | refine (itoa_any hxa _ hC.vars).mono ?_ | refine (itoa_any hxb _ hC.vars).mono ?_ | refine (itoa_any hxc _ hC.vars).mono ?_) | (go_at_call 22; refine (fmt_any hxk _ hC.vars).mono ?_)); rintro e wq ⟨rfl, hq⟩; clear n0 y1 n1 y2 n2 y3 n3 y4; have hD := hC.next hq; clear hC hq; have hC := hD; clear hD; have n0 : World.cell? _ ⟨N, 0, none⟩ = some (.bool false) := hC.ne.c0; have n1 : World.cell? _ ⟨N, 1, none⟩ = some (.bool false) := hC.ne.c1; have n2 : World.cell? _ ⟨N, 2, none⟩ = some (.bool false) := hC.ne.c2; have n3 : World.cell? _ ⟨N, 3, none⟩ = some (.bool false) := hC.ne.c3; have y1 : World.cell? _ ⟨w.heap.size, 1, none⟩ = some (.int .i64 a) := hC.box.c1; have y2 : World.cell? _ ⟨w.heap.size, 2, none⟩ = some (.int .i64 b) := hC.box.c2; have y3 : World.cell? _ ⟨w.heap.size, 3, none⟩ = some (.int .i64 c) := hC.box.c3; have y4 : World.cell? _ ⟨w.heap.size, 4, none⟩ = some (.int .i64 k) := hC.box.c4)
      exact bodyPost_ret (by simp [results, Tryd.f8, go_sem]; rfl) rfl ⟨ret_v (by rw [HE.out, HF.out]; first | (simp only [ByteArray.mk_append_mk]; rfl) | rfl), hC.below⟩
end Go.Proofs.YthellmecdmolcaaDoor
