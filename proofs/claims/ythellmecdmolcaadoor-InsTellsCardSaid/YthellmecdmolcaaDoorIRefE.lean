/-
  The walk of the document's reading: for each kind, what would be told of it.
-/
import Derived.Test.YthellmecdmolcaaDoorIRefD
import Derived.Test.YthellmecdmolcaaDoorIRefS
namespace Go.Proofs.YthellmecdmolcaaDoor
open Go.RowKit Go.Shelf

attribute [local go_sem] Oper.semAt_some

theorem readB_known {s : List UInt8} (h : known (opOf (cut1 s)) = false) : readB s = false := by
  have e : readX s = In.only (opOf (cut1 s)) := by
    unfold readX pairs
    rw [show (In.only (opOf (cut1 s))).o = opOf (cut1 s) from rfl, namesOf_out h]
    rfl
  unfold readB okI
  rw [e, show (In.only (opOf (cut1 s))).o = opOf (cut1 s) from rfl, h]
  rfl
theorem fill_eq {o : Nat} {s : List UInt8} (hk : known o = true) (ho : opOf (cut1 s) = o) {k1 k2 k3 : Nat} {x1 x2 x3 x4 : In}
    (h1 : k1 = if nA o then 1 + 1 else 1) (g1 : x1 = if nA o then (In.only o).put 0 (parseV (nth s 1)) else In.only o)
    (h2 : k2 = if nB o then k1 + 1 else k1) (g2 : x2 = if nB o then x1.put 1 (parseV (nth s k1)) else x1)
    (h3 : k3 = if nC o then k2 + 1 else k2) (g3 : x3 = if nC o then x2.put 2 (parseV (nth s k2)) else x2)
    (g4 : x4 = if nK o then x3.put 3 (parseV (nth s k3)) else x3) : x4 = readX s := by
  unfold readX
  rw [ho]
  rcases known_cases hk with rfl | rfl | rfl | rfl | rfl | rfl | rfl | rfl | rfl | rfl
  all_goals (simp only [nA, nB, nC, nK, if_true, if_false, Bool.false_eq_true] at h1 g1 h2 g2 h3 g3 g4; subst h1 g1 h2 g2 h3 g3 g4; rfl)

/-- What the walk of a reading goes on with. -/
structure Rea (w W : World) (B : Nat) (v : Value) (s : List UInt8) : Prop where
  res : InAt W w.heap.size In.zero
  words : WordsAt W B
  row : StrRow W v (splitL s)
  vars : Vars W
  below : Below w.heap.size w W
theorem Rea.next {w W W' : World} {B : Nat} {v : Value} {s : List UInt8} (h : Rea w W B v s) (hb : Below W.heap.size W W') : Rea w W' B v s :=
  ⟨h.res.of_block (hb.block _ h.res.lt), h.words.of_block (hb.block _ h.words.lt), h.row.below hb, h.vars.below hb, h.below.trans (hb.mono h.below.size)⟩
/-- .. and within a round. -/
structure Rnd (Wr W : World) (N X : Nat) (p q r t : Bool) (x : In) : Prop where
  ne : NeAt W N p q r t
  box : InAt W X x
  lowN : Wr.heap.size ≤ N
  lowX : Wr.heap.size ≤ X
  apart : N ≠ X
  below : Below Wr.heap.size Wr W
theorem Rnd.next {Wr W W' : World} {N X : Nat} {p q r t : Bool} {x : In} (h : Rnd Wr W N X p q r t x) (hb : Below W.heap.size W W') : Rnd Wr W' N X p q r t x :=
  ⟨h.ne.of_block (hb.block _ h.ne.lt), h.box.of_block (hb.block _ h.box.lt), h.lowN, h.lowX, h.apart, h.below.trans (hb.mono h.below.size)⟩
theorem inAt_put {W : World} {B : Nat} {x : In} (h : InAt W B x) (n : Nat) (hn : n < 4) (v : Int) : InAt (W.setCell ⟨B, n + 1, none⟩ (.int .i64 v)) B (x.put n v) := by
  have h1 := heap_set_same (k := n + 1) (.int .i64 v) h
  rcases (by omega : n = 0 ∨ n = 1 ∨ n = 2 ∨ n = 3) with rfl | rfl | rfl | rfl
  all_goals simpa [InAt, In.put] using h1
theorem Rnd.put {Wr W : World} {N X : Nat} {p q r t : Bool} {x : In} (h : Rnd Wr W N X p q r t x) (n : Nat) (hn : n < 4) (v : Int) : Rnd Wr (W.setCell ⟨X, n + 1, none⟩ (.int .i64 v)) N X p q r t (x.put n v) := by
  have hb : But [X] W (W.setCell ⟨X, n + 1, none⟩ (.int .i64 v)) := (But.refl [X] W).set (p := ⟨X, n + 1, none⟩) (.inl (by simp)) _
  have hl := h.lowX
  have ha := h.apart
  exact ⟨h.ne.of_block (hb.block _ h.ne.lt (by simpa using ha)), inAt_put h.box n hn v, h.lowN, h.lowX, h.apart, h.below.trans (hb.below h.below.size (by simpa using hl))⟩

theorem rread_end (w W : World) (T : Array Value) (s : List UInt8) (y : In) (e : Int) (hy : y = readV s) (he : e = readE s) (h2 : T[2]?.getD undef = .pointer (some ⟨w.heap.size, 0, none⟩)) (h3 : T[3]?.getD undef = .int .i64 e) (hI : InAt W w.heap.size y) (hB : Below w.heap.size w W) :
    bodyPost Tryd.prog Tryd.f10 (fun e w' => e = .returned (.tuple #[(readV s).val, .int .i64 (readE s)]) ∧ Below w.heap.size w w') .ret { tmps := T, defers := [] } W := by
  have c0 := hI.c0
  have c1 := hI.c1
  have c2 := hI.c2
  have c3 := hI.c3
  have c4 := hI.c4
  exact bodyPost_ret (v := .tuple #[y.val, .int .i64 e]) (by simp [results, Tryd.f10, go_sem, h2, h3, c0, c1, c2, c3, c4, In.val]) rfl ⟨by rw [hy, he], hB⟩

set_option maxRecDepth 100000 in
set_option maxHeartbeats 12800000 in
theorem refRead_any (s : List UInt8) (hs : s.length ≤ 4096) (w : World) (hv : Vars w) :
    Calls Tryd.prog 10 #[.string ⟨s.toArray⟩] w fun e w' => e = .returned (.tuple #[(readV s).val, .int .i64 (readE s)]) ∧ Below w.heap.size w w' := by
  obtain ⟨W0, hW0⟩ : ∃ W0, W0 = w.alloc (.cells #[.int .u8 0, .int .i64 0, .int .i64 0, .int .i64 0, .int .i64 0] 23) := ⟨_, rfl⟩
  have hres0 : InAt W0 w.heap.size In.zero := by rw [hW0]; exact inAt_new w In.zero
  have hb0 : But [] w W0 := by rw [hW0]; exact (But.refl [] w).alloc _
  have hsp := refSplit_any s hs W0
  have hlen : ∀ j : Nat, ((splitL s)[j]?.getD []).length ≤ 4096 := fun j => by rw [split_nth]; exact Nat.le_trans (nth_len s j) hs
  rw [hW0] at hsp
  go_enter Tryd.func10, Tryd.ntmps10
  go_wp2_with fail
  refine hsp.mono ?_
  rw [← hW0]
  rintro e w1 ⟨v, rfl, hrow, hb1⟩
  have hww := words_any w1
  go_wp2_with fail
  refine hww.mono ?_
  rintro e w2 ⟨rfl, hwd, hb2⟩
  have hQ : Rea w w2 w1.heap.size v s := by
    have h01 := hb0.below (n := w.heap.size) (Nat.le_refl _) (by simp)
    have h12 := hb2.below (n := w1.heap.size) (Nat.le_refl _) (by simp)
    have h02 := below_next (below_next h01 hb1 (Nat.le_refl _)) h12 (Nat.le_refl _)
    exact ⟨(hres0.of_block (hb1.block _ hres0.lt)).of_block (h12.block _ (Nat.lt_of_lt_of_le hres0.lt hb1.size)), hwd, hrow.below h12, hv.below h02, h02⟩
  obtain ⟨g, cap, hgv⟩ : ∃ g cap, v = .slice (some ⟨g, 0, none⟩) (splitL s).length cap := by obtain ⟨g, cap, h, _⟩ := hrow; exact ⟨g, cap, h⟩
  subst hgv
  obtain ⟨B, hB⟩ : ∃ B, B = w1.heap.size := ⟨_, rfl⟩
  rw [← hB] at hQ
  rw [← hB]
  have hL0 := split_pos s
  obtain ⟨L, hL⟩ : ∃ L, L = (splitL s).length := ⟨_, rfl⟩
  have hrw : ∀ W, Rea w W B (.slice (some ⟨g, 0, none⟩) L cap) s → W.cell? ⟨g, 0, none⟩ = some (.string ⟨(cut1 s).toArray⟩) := fun W h => by
    obtain ⟨g', cap', e, _, hc⟩ := h.row
    simp only [Value.slice.injEq, Option.some.injEq, Addr.mk.injEq] at e
    have := hc 0 hL0
    rw [split_nth] at this
    rw [e.1.1]
    exact this
  rw [← hL] at hQ hL0
  rw [← hL]
  have n0 : (0 : Int) < (L : Int) := by omega
  clear hsp hrow hww hwd hb1 hb2 hres0 hb0 hW0 hB hL
  go_wp2_with fail
  go_loopw [6] (fun iv wr => ∃ i : Nat, iv = .int .i64 (i : Int) ∧ 1 ≤ i ∧ i ≤ 11 ∧ Rea w wr B (.slice (some ⟨g, 0, none⟩) L cap) s ∧ Hid (opOf (cut1 s) < i → known (opOf (cut1 s)) = true → readB s = false)) (fun iv _ => 11 - (intOf iv).toNat)
  case atStart => exact ⟨1, rfl, Nat.le_refl _, by omega, hQ, Lib.hid fun h h2 => by have := known_iff.1 h2; omega⟩
  case round =>
    clear hQ
    obtain ⟨i, rfl, hi1, hi2, hQ, HI⟩ := hrel
    by_cases hlt : i ≤ 10
    · have c1 : (i : Int) ≤ 10 := by omega
      have c2 : (i : Int) < 11 := by omega
      have c3 : (0 : Int) ≤ (i : Int) := by omega
      have l0 := hrw _ hQ
      have l1 := hQ.words.cell i hlt
      have hki : known i = true := known_iff.2 ⟨hi1, hlt⟩
      by_cases hm : wordL i = cut1 s
      · have hop : opOf (cut1 s) = i := opOf_is hki hm
        have hw8 : IntKind.u8.wrap (i : Int) = (i : Int) := by rw [IntKind.wrap_u8]; omega
        have hof := fun W => of_any i W
        rw [hm] at l1
        have HI2 := HI.out
        clear HI2
        go_wp2_with fail
        go_region
        go_wp2_with fail
        refine (hof _).mono ?_
        rintro e wk ⟨rfl, hk⟩
        have hk2 := ((But.refl [] wr).drew).next hk
        obtain ⟨w4, hw4⟩ : ∃ W, W = wk.alloc (.cells #[.bool (nA i), .bool (nB i), .bool (nC i), .bool (nK i)] 48) := ⟨_, rfl⟩
        obtain ⟨w5, hw5⟩ : ∃ W, W = w4.alloc (.cells #[.int .u8 (i : Int), .int .i64 0, .int .i64 0, .int .i64 0, .int .i64 0] 23) := ⟨_, rfl⟩
        have hR : Rnd wr w5 wk.heap.size w4.heap.size (nA i) (nB i) (nC i) (nK i) (In.only i) := by
          have hb4 : But [] wk w4 := by rw [hw4]; exact (But.refl [] wk).alloc _
          have hb5 : But [] w4 w5 := by rw [hw5]; exact (But.refl [] w4).alloc _
          have hne : NeAt w4 wk.heap.size (nA i) (nB i) (nC i) (nK i) := by rw [hw4]; exact neAt_new wk _ _ _ _
          have hsz : w4.heap.size = wk.heap.size + 1 := by rw [hw4]; simp
          have h1 := hk2.size
          exact ⟨hne.of_block (hb5.block _ hne.lt (by simp)), by rw [hw5]; exact inAt_new w4 (In.only i), h1, by omega, by omega, ((hk2.next hb4).next hb5).below (Nat.le_refl _) (by simp)⟩
        have hsz4 : w4.heap.size = wk.heap.size + 1 := by rw [hw4]; simp
        clear hof hk hk2 l0 l1
        go_upto_region 10 with fail
        rw [← hw4, ← hw5]
        rw [hsz4] at hR
        obtain ⟨p, hp⟩ : ∃ b, b = nA i := ⟨_, rfl⟩
        obtain ⟨q, hq⟩ : ∃ b, b = nB i := ⟨_, rfl⟩
        obtain ⟨r, hr⟩ : ∃ b, b = nC i := ⟨_, rfl⟩
        obtain ⟨t, ht⟩ : ∃ b, b = nK i := ⟨_, rfl⟩
        rw [← hp, ← hq, ← hr, ← ht] at hR
        obtain ⟨N, hN⟩ : ∃ N, N = wk.heap.size := ⟨_, rfl⟩
        obtain ⟨X, hX⟩ : ∃ X, X = wk.heap.size + 1 := ⟨_, rfl⟩
        rw [← hX, ← hN] at hR
        rw [← hX, ← hN]
        obtain ⟨x0, hx0⟩ : ∃ x, x = In.only i := ⟨_, rfl⟩
        rw [← hx0] at hR
        have HX0 := Lib.hid hx0
        have HP := Lib.hid hp
        have HQf := Lib.hid hq
        have HR := Lib.hid hr
        have HT := Lib.hid ht
        clear hw4 hw5 hN hX hsz4 hx0 hp hq hr ht
        have g0 := hR.ne.c0
        go_upto_if 34 with fail
        go_cut [9] from 33 to 40 (fun kv W => kv = .int .i64 ((if p then 1 + 1 else 1 : Nat) : Int) ∧ Rnd wr W N X p q r t (if p then x0.put 0 (parseV (nth s 1)) else x0))
        case first =>
          cases p with
          | false =>
            go_wp2_with fail
            go_meet
            exact ⟨rfl, hR⟩
          | true =>
            have hnum := num_any ((hQ.next hR.below).row) hlen (hQ.next hR.below).vars 1
            rw [split_nth] at hnum
            go_wp2_with fail
            refine hnum.mono ?_
            rintro e wq ⟨rfl, hqb⟩
            have hR1 := hR.next hqb
            have hR2 := hR1.put 0 (by omega) (parseV (nth s 1))
            have y0 := hR1.box.c1
            have y1 := hR1.box.frozen 1
            clear hnum
            go_wp2_with fail
            go_meet
            exact ⟨by go_num, hR2⟩
        obtain ⟨rfl, hR⟩ := hcut
        clear g0
        obtain ⟨k1, hk1⟩ : ∃ k, k = (if p then 1 + 1 else 1 : Nat) := ⟨_, rfl⟩
        rw [← hk1]
        have hkb1 : k1 ≤ 2 := by rw [hk1]; split <;> omega
        have HK1 := Lib.hid hk1
        clear hk1
        obtain ⟨x1, hx1⟩ : ∃ y, y = (if p then x0.put 0 (parseV (nth s 1)) else x0) := ⟨_, rfl⟩
        rw [← hx1] at hR
        have HX1 := Lib.hid hx1
        clear hx1
        have g0 := hR.ne.c1
        go_upto_if 42 with fail
        go_cut [9] from 41 to 48 (fun kv W => kv = .int .i64 ((if q then k1 + 1 else k1 : Nat) : Int) ∧ Rnd wr W N X p q r t (if q then x1.put 1 (parseV (nth s k1)) else x1))
        case first =>
          cases q with
          | false =>
            go_wp2_with fail
            go_meet
            exact ⟨rfl, hR⟩
          | true =>
            have hnum := num_any ((hQ.next hR.below).row) hlen (hQ.next hR.below).vars k1
            rw [split_nth] at hnum
            have hkw : IntKind.i64.wrap ((k1 : Int) + 1) = (k1 : Int) + 1 := by rw [IntKind.wrap_i64]; omega
            go_wp2_with fail
            refine hnum.mono ?_
            rintro e wq ⟨rfl, hqb⟩
            have hR1 := hR.next hqb
            have hR2 := hR1.put 1 (by omega) (parseV (nth s k1))
            have y0 := hR1.box.c2
            have y1 := hR1.box.frozen 2
            clear hnum
            go_wp2_with fail
            go_meet
            exact ⟨by go_num, hR2⟩
        obtain ⟨rfl, hR⟩ := hcut
        clear g0
        obtain ⟨k2, hk2⟩ : ∃ k, k = (if q then k1 + 1 else k1 : Nat) := ⟨_, rfl⟩
        rw [← hk2]
        have hkb2 : k2 ≤ 3 := by rw [hk2]; split <;> omega
        have HK2 := Lib.hid hk2
        clear hk2
        obtain ⟨x2, hx2⟩ : ∃ y, y = (if q then x1.put 1 (parseV (nth s k1)) else x1) := ⟨_, rfl⟩
        rw [← hx2] at hR
        have HX2 := Lib.hid hx2
        clear hx2
        have g0 := hR.ne.c2
        go_upto_if 50 with fail
        go_cut [9] from 49 to 56 (fun kv W => kv = .int .i64 ((if r then k2 + 1 else k2 : Nat) : Int) ∧ Rnd wr W N X p q r t (if r then x2.put 2 (parseV (nth s k2)) else x2))
        case first =>
          cases r with
          | false =>
            go_wp2_with fail
            go_meet
            exact ⟨rfl, hR⟩
          | true =>
            have hnum := num_any ((hQ.next hR.below).row) hlen (hQ.next hR.below).vars k2
            rw [split_nth] at hnum
            have hkw : IntKind.i64.wrap ((k2 : Int) + 1) = (k2 : Int) + 1 := by rw [IntKind.wrap_i64]; omega
            go_wp2_with fail
            refine hnum.mono ?_
            rintro e wq ⟨rfl, hqb⟩
            have hR1 := hR.next hqb
            have hR2 := hR1.put 2 (by omega) (parseV (nth s k2))
            have y0 := hR1.box.c3
            have y1 := hR1.box.frozen 3
            clear hnum
            go_wp2_with fail
            go_meet
            exact ⟨by go_num, hR2⟩
        obtain ⟨rfl, hR⟩ := hcut
        clear g0
        obtain ⟨k3, hk3⟩ : ∃ k, k = (if r then k2 + 1 else k2 : Nat) := ⟨_, rfl⟩
        rw [← hk3]
        have hkb3 : k3 ≤ 4 := by rw [hk3]; split <;> omega
        have HK3 := Lib.hid hk3
        clear hk3
        obtain ⟨x3, hx3⟩ : ∃ y, y = (if r then x2.put 2 (parseV (nth s k2)) else x2) := ⟨_, rfl⟩
        rw [← hx3] at hR
        have HX3 := Lib.hid hx3
        clear hx3
        have g0 := hR.ne.c3
        go_upto_if 58 with fail
        go_cut [] from 57 to 62 (fun W => Rnd wr W N X p q r t (if t then x3.put 3 (parseV (nth s k3)) else x3))
        case first =>
          cases t with
          | false =>
            go_wp2_with fail
            go_meet
            exact hR
          | true =>
            have hnum := num_any ((hQ.next hR.below).row) hlen (hQ.next hR.below).vars k3
            rw [split_nth] at hnum
            have hkw : IntKind.i64.wrap ((k3 : Int) + 1) = (k3 : Int) + 1 := by rw [IntKind.wrap_i64]; omega
            go_wp2_with fail
            refine hnum.mono ?_
            rintro e wq ⟨rfl, hqb⟩
            have hR1 := hR.next hqb
            have hR2 := hR1.put 3 (by omega) (parseV (nth s k3))
            have y0 := hR1.box.c4
            have y1 := hR1.box.frozen 4
            clear hnum
            go_wp2_with fail
            go_meet
            exact hR2
        have hR := hcut
        clear g0
        obtain ⟨x4, hx4⟩ : ∃ y, y = (if t then x3.put 3 (parseV (nth s k3)) else x3) := ⟨_, rfl⟩
        rw [← hx4] at hR
        have HX4 := Lib.hid hx4
        clear hx4
        have hx4 : x4 = readX s := fill_eq (k1 := k1) (k2 := k2) (k3 := k3) (x1 := x1) (x2 := x2) (x3 := x3) (x4 := x4) hki hop (by rw [← HP.out]; exact HK1.out) (by rw [← HP.out, ← HX0.out]; exact HX1.out) (by rw [← HQf.out]; exact HK2.out) (by rw [← HQf.out]; exact HX2.out) (by rw [← HR.out]; exact HK3.out) (by rw [← HR.out]; exact HX3.out) (by rw [← HT.out]; exact HX4.out)
        clear hcut HK1 HK2 HK3 HX1 HX2 HX3 HX4 HX0 HP HQf HR HT HI
        have hxo : x4.ok := by rw [hx4]; exact readX_ok s
        have HV : Hid (readB s = (okI x4 && lineL x4 == s)) := Lib.hid (by rw [hx4]; rfl)
        have HYX := Lib.hid hx4
        have hln := refLine_any x4 hxo wc (hQ.next hR.below).vars
        unfold In.val at hln
        have z0 := hR.box.c0
        have z1 := hR.box.c1
        have z2 := hR.box.c2
        have z3 := hR.box.c3
        have z4 := hR.box.c4
        clear hx4
        cases hok2 : okI x4 with
        | false =>
          have HB : Hid (readB s = false) := Lib.hid (by rw [HV.out, hok2]; rfl)
          have e1 : lineV x4 = [] := by unfold lineV; rw [hok2]; rfl
          have e2 : lineE x4 = 2 := by unfold lineE; rw [hok2]; rfl
          rw [e1, e2] at hln
          clear e1 e2 hok2 HV
          have HJ : Hid (opOf (cut1 s) < i + 1 → known (opOf (cut1 s)) = true → readB s = false) := Lib.hid fun _ _ => HB.out
          go_wp2_with fail
          refine hln.mono ?_
          rintro e wl ⟨rfl, hbl⟩
          have hR2 := hR.next hbl
          have hQ2 := hQ.next hR2.below
          clear hln hR hQ hm hop
          go_wp2_with fail
          go_roundw
          case rel => exact ⟨i + 1, by go_num, by omega, by omega, hQ2, HJ⟩
          case measure => simp [intOf]; omega
        | true =>
          have e1 : lineV x4 = lineL x4 := by unfold lineV; rw [hok2]; rfl
          have e2 : lineE x4 = 0 := by unfold lineE; rw [hok2]; rfl
          rw [e1, e2] at hln
          by_cases he : lineL x4 = s
          · have HB : Hid (readB s = true) := Lib.hid (by rw [HV.out, hok2, he]; simp)
            rw [he] at hln
            clear e1 e2 hok2 HV he
            go_wp2_with fail
            refine hln.mono ?_
            rintro e wl ⟨rfl, hbl⟩
            have hR2 := hR.next hbl
            have hQ2 := hQ.next hR2.below
            have y0 := hR2.box.c0
            have y1 := hR2.box.c1
            have y2 := hR2.box.c2
            have y3 := hR2.box.c3
            have y4 := hR2.box.c4
            have r0 : World.cell? _ ⟨w.heap.size, 0, none⟩ = some (.int .u8 0) := hQ2.res.c0
            have r1 : World.cell? _ ⟨w.heap.size, 1, none⟩ = some (.int .i64 0) := hQ2.res.c1
            have r2 : World.cell? _ ⟨w.heap.size, 2, none⟩ = some (.int .i64 0) := hQ2.res.c2
            have r3 : World.cell? _ ⟨w.heap.size, 3, none⟩ = some (.int .i64 0) := hQ2.res.c3
            have r4 : World.cell? _ ⟨w.heap.size, 4, none⟩ = some (.int .i64 0) := hQ2.res.c4
            have f0 := hQ2.res.frozen 0
            have f1 := hQ2.res.frozen 1
            have f2 := hQ2.res.frozen 2
            have f3 := hQ2.res.frozen 3
            have f4 := hQ2.res.frozen 4
            have hbp := but_put5 wl w.heap.size x4
            have hBp := hQ2.below.trans (hbp.below hQ2.below.size (by simp))
            have hIp := hQ2.res.put5 x4
            clear hbp hln hR hQ hm hop
            go_wp2_with fail
            exact rread_end w _ _ s x4 _ (by rw [readV, HB.out, HYX.out]; rfl) (by rw [readE, HB.out]; rfl) rfl rfl hIp hBp
          · have hbe : (lineL x4 == s) = false := by simpa using he
            have HB : Hid (readB s = false) := Lib.hid (by rw [HV.out, hok2, hbe]; rfl)
            clear e1 e2 hok2 HV he
            have HJ : Hid (opOf (cut1 s) < i + 1 → known (opOf (cut1 s)) = true → readB s = false) := Lib.hid fun _ _ => HB.out
            go_wp2_with fail
            refine hln.mono ?_
            rintro e wl ⟨rfl, hbl⟩
            have hR2 := hR.next hbl
            have hQ2 := hQ.next hR2.below
            clear hln hR hQ hm hop
            go_wp2_with fail
            go_roundw
            case rel => exact ⟨i + 1, by go_num, by omega, by omega, hQ2, HJ⟩
            case measure => simp [intOf]; omega
      · have hne : (wordL i == cut1 s) = false := by simpa using hm
        have hnn : (wordL i != cut1 s) = true := by simpa using hm
        have HJ : Hid (opOf (cut1 s) < i + 1 → known (opOf (cut1 s)) = true → readB s = false) := Lib.hid fun h h2 => by
          by_cases he : opOf (cut1 s) = i
          · exact absurd (by rw [← he]; exact opOf_known h2) hm
          · exact HI.out (by omega) h2
        clear hm HI
        go_wp2_with fail
        go_region
        go_wp2_with fail
        go_roundw
        case rel => exact ⟨i + 1, by go_num, by omega, by omega, hQ.next (below_drewN (Below.refl _ _) 1), HJ⟩
        case measure => simp [intOf]; omega
    · obtain rfl : i = 11 := by omega
      have HB : Hid (readB s = false) := Lib.hid (by
        cases hk : known (opOf (cut1 s)) with
        | false => exact readB_known hk
        | true => exact HI.out (by have := opOf_lt (cut1 s); omega) hk)
      clear HI
      have r0 : World.cell? _ ⟨w.heap.size, 0, none⟩ = some (.int .u8 0) := hQ.res.c0
      have r1 : World.cell? _ ⟨w.heap.size, 1, none⟩ = some (.int .i64 0) := hQ.res.c1
      have r2 : World.cell? _ ⟨w.heap.size, 2, none⟩ = some (.int .i64 0) := hQ.res.c2
      have r3 : World.cell? _ ⟨w.heap.size, 3, none⟩ = some (.int .i64 0) := hQ.res.c3
      have r4 : World.cell? _ ⟨w.heap.size, 4, none⟩ = some (.int .i64 0) := hQ.res.c4
      have f0 := hQ.res.frozen 0
      have f1 := hQ.res.frozen 1
      have f2 := hQ.res.frozen 2
      have f3 := hQ.res.frozen 3
      have f4 := hQ.res.frozen 4
      have hbp := but_put5 wr w.heap.size In.zero
      have hBp := hQ.below.trans (hbp.below hQ.below.size (by simp))
      have hIp := hQ.res.put5 In.zero
      clear hbp
      go_wp2_with fail
      exact rread_end w _ _ s In.zero _ (by rw [readV, HB.out]; rfl) (by rw [readE, HB.out]; rfl) rfl rfl hIp hBp
end Go.Proofs.YthellmecdmolcaaDoor
