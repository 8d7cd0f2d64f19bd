/-
  The walk of the document's Get.
-/
import Derived.Test.YtengpehiknoheaaDoorERefS
import Derived.Test.YtengpehiknoheaaDoorERefM
namespace Go.Proofs.YtengpehiknoheaaDoor
open Go.RowKit Go.Shelf Oct

attribute [local go_sem] Oper.semAt_some

theorem take_len_sub (d r : List UInt8) : (d ++ r).take ((d ++ r).length - r.length) = d := by
  rw [List.length_append, Nat.add_sub_cancel, List.take_append_of_le_length (Nat.le_refl _), List.take_length]
/-- What is read: where the bytes that went are those of the entry. -/
theorem read_yes {s r : List UInt8} {x : En} {d : List UInt8} (hs : s = d ++ r) (hx : x.ok) (hok : okB x = true) (hd : enL x = d) : readR s = some (x, r) := by
  rw [hs, ← hd]
  exact read_put hx hok r
theorem read_no {s s' : List UInt8} {b' : Bool} {x : En} {d : List UInt8} (h : OneP s true x s' b') (hs : s = d ++ s') (hn : ¬ (b' = true ∧ okB x = true ∧ enL x = d)) : readR s = none := by
  cases hr : readR s with
  | none => rfl
  | some p =>
    obtain ⟨y, r⟩ := p
    obtain ⟨a1, a2, a3⟩ := read_fore hr
    obtain ⟨rfl, rfl, rfl⟩ := h.2.2 rfl y r a1 a2 a3.symm
    exact absurd ⟨rfl, a2, by
      have := a3.trans hs
      exact List.append_cancel_right this⟩ hn
/-- The number of bytes that are left. -/
def leftR (W : World) (R : Nat) : Nat := sizeS ((W.cell? ⟨R, 0, none⟩).getD undef)
theorem leftR_eq {W : World} {R : Nat} {s : List UInt8} {b : Bool} (h : RdB W R s b) : leftR W R = s.length := by
  unfold leftR
  rw [Two.c0 h]
  rfl
theorem take_extB (n : Nat) (S : List UInt8) : ((⟨S.toArray⟩ : ByteArray).extract 0 n) = ⟨(S.take n).toArray⟩ := by rw [Lib.extract_eq]; simp

set_option maxRecDepth 100000 in
set_option maxHeartbeats 6400000 in
theorem rgets_any (s : List UInt8) (w : World) (hs : s.length ≤ 100000) :
    Calls Tryd.prog 12 #[.string ⟨s.toArray⟩] w (GetPost w.heap.size w s) := by
  obtain ⟨i0, hi, hz0, hz1, hz2⟩ := info_parts infoEntry
  obtain ⟨w1, hw1⟩ : ∃ w1, w1 = w.alloc (.cells #[.string ⟨s.toArray⟩, .bool true] 70) := ⟨_, rfl⟩
  have hb1 : Below w.heap.size w w1 := by rw [hw1]; exact below1 w _
  have hR1 : RdB w1 w.heap.size s true := by rw [hw1]; exact two_new w _ _ _
  obtain ⟨R, hRn⟩ : ∃ R, R = w.heap.size := ⟨_, rfl⟩
  rw [← hRn] at hR1
  go_enter Tryd.func12, Tryd.ntmps12
  go_upto_region 3 with fail
  rw [← hw1, ← hRn]
  have HRn := Lib.hid hRn
  clear hw1 hRn
  go_wp2_with fail
  go_loopw [4] (fun lv wr => ∃ (pre : List En) (r : List UInt8), wr.ownsRow (R + 1) 26 13 lv pre.length (pre.flatMap En.cellsL) ∧ r.length ≤ s.length ∧ pre.length + r.length ≤ s.length ∧ RdB wr R r true ∧ Below w.heap.size w wr ∧ (∀ x ∈ pre, x.ok) ∧ Hid (getL s = (getL r).map (pre ++ ·))) (fun _ wr => leftR wr R)
  case atStart => exact ⟨[], s, World.ownsRow_nil _ _ _ _, Nat.le_refl _, by simp, hR1, hb1, by simp, Lib.hid (by cases getL s <;> simp)⟩
  case round =>
    clear hR1 hb1
    obtain ⟨pre, r, hO, hrl, hpl, hR, hB, hok, HL⟩ := hrel
    obtain ⟨pa, pc, rfl⟩ := owns_sliceE hO
    have d0 : wr.cell? ⟨R, 0, none⟩ = some (.string ⟨r.toArray⟩) := Two.c0 hR
    by_cases hr0 : r = []
    · subst hr0
      have HE : Hid (getE s = 0 ∧ getV s = pre) := Lib.hid (by
        have h1 := HL.out
        rw [getL_nil] at h1
        unfold getE getV
        rw [h1]
        simp)
      have hrow := EnRow.of_owns hO
      have hne : ((⟨([] : List UInt8).toArray⟩ : ByteArray) != ⟨#[]⟩) = false := by decide
      clear hO HL
      go_wp2_with fail
      refine bodyPost_ret (v := .tuple #[.slice pa pre.length pc, .int .i64 0]) (by simp [results, Tryd.f12, go_sem]) rfl ⟨_, by rw [HE.out.1], by rw [HE.out.2]; exact hrow, by rw [HE.out.2]; exact hok, hB⟩
    · obtain ⟨rs, hrs⟩ : ∃ rs : ByteArray, rs = ⟨r.toArray⟩ := ⟨_, rfl⟩
      have hem : rs.toList.isEmpty = false := by
        rw [ByteArray.toList_eq, hrs]
        simpa using hr0
      have hsz : rs.size = r.length := by rw [hrs]; rfl
      rw [← hrs] at d0
      have HRS := Lib.hid hrs
      have hone : Calls Tryd.prog 33 #[.pointer (some ⟨R, 0, none⟩)] wr fun e w' => ∃ (x : En) (s' : List UInt8) (b' : Bool), e = .returned (.agg #[.int .i64 x.a, .int .u8 (x.k : Int), .int .i64 x.w, .int .i64 x.t, .int .i64 x.p, .int .i64 x.c, .int .i64 x.b, .int .i64 x.q, .int .i64 x.v, .int .i64 x.u, .bool x.o, .int .i64 x.e, .int .u64 (x.s : Int)]) ∧ RdB w' R s' b' ∧ But [R] wr w' ∧ OneP r true x s' b' := one_any R r true wr hR (by omega)
      have HNE := Lib.hid hr0
      clear hrs hr0
      go_wp2_with fail
      refine hone.mono ?_
      rintro e w2 ⟨x, s', b', rfl, hR2, hb2, hP⟩
      have hxok := hP.1
      obtain ⟨d, hd⟩ := hP.2.1
      have hlen : r.length = d.length + s'.length := by rw [hd, List.length_append]
      have HP := Lib.hid hP
      have HD := Lib.hid hd
      have hRb : ∀ g, (Value.slice pa pre.length pc).ownBlock = some g → R + 1 ≤ g := fun g hg => (hO.lt g hg).1
      have hO2 := hb2.row hO (fun g hg => by have := hRb g hg; simp; omega)
      have hB2 : Below w.heap.size w w2 := hB.trans (hb2.below hB.size (by have := HRn.out; simp; omega))
      obtain ⟨w3, hw3⟩ : ∃ w3, w3 = w2.alloc (.cells #[.int .i64 x.a, .int .u8 (x.k : Int), .int .i64 x.w, .int .i64 x.t, .int .i64 x.p, .int .i64 x.c, .int .i64 x.b, .int .i64 x.q, .int .i64 x.v, .int .i64 x.u, .bool x.o, .int .i64 x.e, .int .u64 (x.s : Int)] 26) := ⟨_, rfl⟩
      have hb3 : But [] w2 w3 := by rw [hw3]; exact (But.refl [] w2).alloc _
      have hX3 : EnAt w3 w2.heap.size x := by rw [hw3]; exact enAt_new w2 x
      have hR3 : RdB w3 R s' b' := Two.of_block hR2 (hb3.block _ (Two.lt hR2) (by simp))
      have hO3 := owns_keepE hO2 hb3
      have hB3 : Below w.heap.size w w3 := hB2.trans (hb3.below hB2.size (by simp))
      obtain ⟨X, hX⟩ : ∃ X, X = w2.heap.size := ⟨_, rfl⟩
      rw [← hX] at hX3
      have hbd : ∀ W, But [] w3 W → Below w.heap.size w W := fun W hW => hB3.trans (hW.below hB3.size (by simp))
      have e1 : w3.cell? ⟨R, 1, none⟩ = some (.bool b') := Two.c1 hR3
      have hmay : Calls Tryd.prog 14 #[.agg #[.int .i64 x.a, .int .u8 (x.k : Int), .int .i64 x.w, .int .i64 x.t, .int .i64 x.p, .int .i64 x.c, .int .i64 x.b, .int .i64 x.q, .int .i64 x.v, .int .i64 x.u, .bool x.o, .int .i64 x.e, .int .u64 (x.s : Int)]] w3 fun e' W' => e' = .returned (.bool (okB x)) ∧ But [] w3 W' := rmay_any x hxok w3
      have hbad : ¬ (b' = true ∧ okB x = true ∧ enL x = d) → Hid (getE s = 7 ∧ getV s = []) := fun hn => Lib.hid (by
        have h1 := HL.out
        rw [getL_none HNE.out (read_no HP.out HD.out hn)] at h1
        unfold getE getV
        rw [h1]
        simp)
      have y0 : w3.cell? ⟨X, 0, none⟩ = some (.int .i64 x.a) := hX3.c0
      have y1 : w3.cell? ⟨X, 1, none⟩ = some (.int .u8 (x.k : Int)) := hX3.c1
      have y2 : w3.cell? ⟨X, 2, none⟩ = some (.int .i64 x.w) := hX3.c2
      have y3 : w3.cell? ⟨X, 3, none⟩ = some (.int .i64 x.t) := hX3.c3
      have y4 : w3.cell? ⟨X, 4, none⟩ = some (.int .i64 x.p) := hX3.c4
      have y5 : w3.cell? ⟨X, 5, none⟩ = some (.int .i64 x.c) := hX3.c5
      have y6 : w3.cell? ⟨X, 6, none⟩ = some (.int .i64 x.b) := hX3.c6
      have y7 : w3.cell? ⟨X, 7, none⟩ = some (.int .i64 x.q) := hX3.c7
      have y8 : w3.cell? ⟨X, 8, none⟩ = some (.int .i64 x.v) := hX3.c8
      have y9 : w3.cell? ⟨X, 9, none⟩ = some (.int .i64 x.u) := hX3.c9
      have y10 : w3.cell? ⟨X, 10, none⟩ = some (.bool x.o) := hX3.c10
      have y11 : w3.cell? ⟨X, 11, none⟩ = some (.int .i64 x.e) := hX3.c11
      have y12 : w3.cell? ⟨X, 12, none⟩ = some (.int .u64 (x.s : Int)) := hX3.c12
      clear hone hP hd hO hO2 hR2 hb2 d0 hb3
      cases b' with
      | false =>
        have HE := hbad (by simp)
        have hBx := hB3
        rw [hw3] at e1 hBx
        clear hbad hmay y0 y1 y2 y3 y4 y5 y6 y7 y8 y9 y10 y11 y12
        go_wp2_with fail
        refine bodyPost_ret (v := .tuple #[.slice none 0 0, .int .i64 7]) (by simp [results, Tryd.f12, go_sem]) rfl ⟨_, by rw [HE.out.1], by rw [HE.out.2]; exact EnRow.nil _, by rw [HE.out.2]; simp, by rw [HRn.out]; exact hBx⟩
      | true =>
        rw [hX] at y0 y1 y2 y3 y4 y5 y6 y7 y8 y9 y10 y11 y12
        rw [hw3] at e1 hmay y0 y1 y2 y3 y4 y5 y6 y7 y8 y9 y10 y11 y12
        go_wp2_with fail
        rw [← hX]
        refine hmay.mono ?_
        rw [← hw3]
        clear hmay e1 y0 y1 y2 y3 y4 y5 y6 y7 y8 y9 y10 y11 y12 hw3 hX
        rintro e w4 ⟨rfl, hb4⟩
        have hX4 : EnAt w4 X x := hX3.but hb4 (by simp)
        have hR4 : RdB w4 R s' true := Two.of_block hR3 (hb4.block _ (Two.lt hR3) (by simp))
        have hO4 := owns_keepE hO3 hb4
        have hB4 := hbd w4 hb4
        cases m : okB x with
        | false =>
          have HE := hbad (by rw [m]; simp)
          clear hbad m
          go_wp2_with fail
          refine bodyPost_ret (v := .tuple #[.slice none 0 0, .int .i64 7]) (by simp [results, Tryd.f12, go_sem]) rfl ⟨_, by rw [HE.out.1], by rw [HE.out.2]; exact EnRow.nil _, by rw [HE.out.2]; simp, by rw [HRn.out]; exact hB4⟩
        | true =>
          have hby : Calls Tryd.prog 31 #[.agg #[.int .i64 x.a, .int .u8 (x.k : Int), .int .i64 x.w, .int .i64 x.t, .int .i64 x.p, .int .i64 x.c, .int .i64 x.b, .int .i64 x.q, .int .i64 x.v, .int .i64 x.u, .bool x.o, .int .i64 x.e, .int .u64 (x.s : Int)]] w4 fun e w' => e = .returned (.string ⟨(enL x).toArray⟩) ∧ Below w4.heap.size w4 w' := rbytes_any x hxok m w4
          have M := Lib.hid m
          obtain ⟨E, hE⟩ : ∃ E, E = enL x := ⟨_, rfl⟩
          rw [← hE] at hby hbad
          have HE0 := Lib.hid hE
          have y0 : w4.cell? ⟨X, 0, none⟩ = some (.int .i64 x.a) := hX4.c0
          have y1 : w4.cell? ⟨X, 1, none⟩ = some (.int .u8 (x.k : Int)) := hX4.c1
          have y2 : w4.cell? ⟨X, 2, none⟩ = some (.int .i64 x.w) := hX4.c2
          have y3 : w4.cell? ⟨X, 3, none⟩ = some (.int .i64 x.t) := hX4.c3
          have y4 : w4.cell? ⟨X, 4, none⟩ = some (.int .i64 x.p) := hX4.c4
          have y5 : w4.cell? ⟨X, 5, none⟩ = some (.int .i64 x.c) := hX4.c5
          have y6 : w4.cell? ⟨X, 6, none⟩ = some (.int .i64 x.b) := hX4.c6
          have y7 : w4.cell? ⟨X, 7, none⟩ = some (.int .i64 x.q) := hX4.c7
          have y8 : w4.cell? ⟨X, 8, none⟩ = some (.int .i64 x.v) := hX4.c8
          have y9 : w4.cell? ⟨X, 9, none⟩ = some (.int .i64 x.u) := hX4.c9
          have y10 : w4.cell? ⟨X, 10, none⟩ = some (.bool x.o) := hX4.c10
          have y11 : w4.cell? ⟨X, 11, none⟩ = some (.int .i64 x.e) := hX4.c11
          have y12 : w4.cell? ⟨X, 12, none⟩ = some (.int .u64 (x.s : Int)) := hX4.c12
          clear m hE hX3 hR3 hO3 hbd hb4
          go_wp2_with fail
          refine hby.mono ?_
          rintro e w5 ⟨rfl, hb5⟩
          have hX5 : EnAt w5 X x := hX4.of_block (hb5.block _ hX4.lt)
          have hR5 : RdB w5 R s' true := Two.of_block hR4 (hb5.block _ (Two.lt hR4))
          have hO5 := owns_keepE hO4 (But.of_below hb5 [])
          have hB5 := below_nx hB4 hb5 (Nat.le_refl _)
          have d5 : w5.cell? ⟨R, 0, none⟩ = some (.string ⟨s'.toArray⟩) := Two.c0 hR5
          clear hby y0 y1 y2 y3 y4 y5 y6 y7 y8 y9 y10 y11 y12 hX4 hR4 hO4 hB4 hb5
          have hsub : IntKind.i64.wrap ((r.length : Int) - (s'.length : Int)) = (d.length : Int) := by rw [IntKind.wrap_i64]; omega
          have hdl : (d.length : Int) ≤ (r.length : Int) := by omega
          have hd0 : (0 : Int) ≤ (d.length : Int) := by omega
          have hext : (rs.extract 0 d.length).toList = d := by
            have h1 : rs.extract 0 d.length = ⟨(r.take d.length).toArray⟩ := by rw [HRS.out]; exact take_extB _ _
            rw [h1, HD.out, List.take_append_of_le_length (Nat.le_refl _), List.take_length]
            simp
          by_cases hEd : E = d
          · have hcmp : (E == (rs.extract 0 d.length).toList) = true := by rw [hext, hEd]; simp
            have hrr := read_yes HD.out hxok M.out (HE0.out.symm.trans hEd)
            have HL' : Hid (getL s = (getL s').map ((pre ++ [x]) ++ ·)) := Lib.hid (by
              rw [HL.out, getL_some HNE.out hrr, Option.map_map]
              congr 1
              funext t'
              simp)
            have hrl' := read_rest hrr
            obtain ⟨w6, hw6⟩ : ∃ w6, w6 = w5.alloc (.cells #[.int .i64 x.a, .int .u8 (x.k : Int), .int .i64 x.w, .int .i64 x.t, .int .i64 x.p, .int .i64 x.c, .int .i64 x.b, .int .i64 x.q, .int .i64 x.v, .int .i64 x.u, .bool x.o, .int .i64 x.e, .int .u64 (x.s : Int)] 26) := ⟨_, rfl⟩
            have hb6 : But [] w5 w6 := by rw [hw6]; exact (But.refl [] w5).alloc _
            have hrow := owns_keepE hO5 hb6
            have hR6 : RdB w6 R s' true := Two.of_block hR5 (hb6.block _ (Two.lt hR5) (by simp))
            have hB6 : Below w.heap.size w w6 := hB5.trans (hb6.below hB5.size (by simp))
            have hnx : EnAt w6 w5.heap.size x := by rw [hw6]; exact enAt_new w5 x
            have hne : ∀ (j : Nat) u, (x.cellsL : List Value)[j]? = some u → w6.cell? (Addr.add ⟨w5.heap.size, 0, none⟩ j) = some u := fun j u hj => by
              rw [show Addr.add ⟨w5.heap.size, 0, none⟩ j = ⟨w5.heap.size, j, none⟩ by by_cases e : j = 0 <;> simp [Addr.add, e]]
              simp only [World.cell?, show w6.heap[_]? = _ from hnx]
              simpa [En.cellsL] using hj
            have hpl2 : pre.length ≤ 100000 := by omega
            have hRsz : R + 1 ≤ w6.heap.size := Two.lt hR6
            have y0 : w5.cell? ⟨X, 0, none⟩ = some (.int .i64 x.a) := hX5.c0
            have y1 : w5.cell? ⟨X, 1, none⟩ = some (.int .u8 (x.k : Int)) := hX5.c1
            have y2 : w5.cell? ⟨X, 2, none⟩ = some (.int .i64 x.w) := hX5.c2
            have y3 : w5.cell? ⟨X, 3, none⟩ = some (.int .i64 x.t) := hX5.c3
            have y4 : w5.cell? ⟨X, 4, none⟩ = some (.int .i64 x.p) := hX5.c4
            have y5 : w5.cell? ⟨X, 5, none⟩ = some (.int .i64 x.c) := hX5.c5
            have y6 : w5.cell? ⟨X, 6, none⟩ = some (.int .i64 x.b) := hX5.c6
            have y7 : w5.cell? ⟨X, 7, none⟩ = some (.int .i64 x.q) := hX5.c7
            have y8 : w5.cell? ⟨X, 8, none⟩ = some (.int .i64 x.v) := hX5.c8
            have y9 : w5.cell? ⟨X, 9, none⟩ = some (.int .i64 x.u) := hX5.c9
            have y10 : w5.cell? ⟨X, 10, none⟩ = some (.bool x.o) := hX5.c10
            have y11 : w5.cell? ⟨X, 11, none⟩ = some (.int .i64 x.e) := hX5.c11
            have y12 : w5.cell? ⟨X, 12, none⟩ = some (.int .u64 (x.s : Int)) := hX5.c12
            clear hEd hext hrr hR5 hO5 hB5 hbad hX5 HE0 M HP
            rw [hw6] at hne hrow
            go_wp2_with (at_builtin; refine wpList_append_own _ rfl _ _ 27 rfl (R + 1) 26 i0 (.agg #[.int .i64 0, .int .u8 0, .int .i64 0, .int .i64 0, .int .i64 0, .int .i64 0, .int .i64 0, .int .i64 0, .int .i64 0, .int .i64 0, .bool false, .int .i64 0, .int .u64 0]) 13 104 Tryd.underlying27 hi hz0 hz1 hz2 rfl (by decide) _ _ _ rfl hrow ⟨w5.heap.size, 0, none⟩ 1 1 (x.cellsL) rfl rfl hne ?c2 ?c3 ?c4 ?c5 ?_)
            case c2 => simpa using en_one [x]
            case c3 => unfold maxLen; omega
            case c4 => omega
            case c5 =>
              have := hRsz
              rw [hw6] at this
              first | omega | exact this | trace_state
            rw [← hw6] at hrow ⊢
            intro v' w7 hown' hgrow _
            have hB7 : Below (R + 1) w6 w7 := grown_belowE hrow hgrow hRsz
            have hR7 : RdB w7 R s' true := Two.of_block hR6 (hB7.block _ (by omega))
            have hBw : Below w.heap.size w w7 := hB6.trans ⟨hB7.os, hB7.tape, hB7.output, hB7.size, fun k hk => hB7.block k (by have := HRn.out; omega)⟩
            have hO7 : w7.ownsRow (R + 1) 26 13 v' (pre ++ [x]).length ((pre ++ [x]).flatMap En.cellsL) := by
              rw [List.length_append, List.flatMap_append]
              simpa using hown'
            have hok7 : ∀ y ∈ pre ++ [x], y.ok := fun y hy => by
              rcases List.mem_append.1 hy with h | h
              · exact hok y h
              · rw [List.mem_singleton.1 h]; exact hxok
            have hm1 := leftR_eq hR
            have hm2 := leftR_eq hR7
            clear hown' hgrow hrow hne hw6 y0 y1 y2 y3 y4 y5 y6 y7 y8 y9 y10 y11 y12 hnx hR6 hB7 d5
            go_wp2_with fail
            go_roundw
            case rel => exact ⟨pre ++ [x], s', hO7, by omega, by rw [List.length_append, List.length_singleton]; omega, hR7, hBw, hok7, HL'⟩
            case measure => first | omega | (simp [sizeS]; omega) | trace_state
          · have hcmp : (E == (rs.extract 0 d.length).toList) = false := by rw [hext]; simpa using hEd
            have HE := hbad (fun h => hEd h.2.2)
            clear hbad hEd hext
            go_wp2_with fail
            refine bodyPost_ret (v := .tuple #[.slice none 0 0, .int .i64 7]) (by simp [results, Tryd.f12, go_sem]) rfl ⟨_, by rw [HE.out.1], by rw [HE.out.2]; exact EnRow.nil _, by rw [HE.out.2]; simp, by rw [HRn.out]; exact hB5⟩
end Go.Proofs.YtengpehiknoheaaDoor
