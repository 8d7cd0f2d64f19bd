/-
  The walk of tollbarlaw25's pair: a channel behind steps, and the document's.
-/
import Derived.Deep.RegionHeld3
import Derived.Test.YtkpnkhakjgfgfaaPLTwin
namespace Go.Proofs.Ytkpnkhakjgfgfaa
open Go.RowKit
open Lq (But I64b)

set_option maxRecDepth 100000 in
set_option maxHeartbeats 3200000 in
theorem pair_any (m : Nat) (hm : m ≤ 8) (a : Option Addr) (c : Nat) (ss : List St) (w : World) (hl : ss.length ≤ 100000) (hs : Steps w (.slice a ss.length c) ss) :
    Calls Try.prog 6 #[.int .i64 (m : Int), .slice a ss.length c] w fun e w' => ∃ (p : Pl) (q : Pr), e = .returned (.tuple #[ptrO p.C, ptrO q.D]) ∧ ∃ h, Twin w w' p q h ∧ h.m = m := by
  go_enter Try.func6, Try.ntmps6
  go_wp2_with fail
  refine (hnew_ok m w hm).mono ?_
  rintro e w1 ⟨p, rfl, hC, hb1, hop⟩
  go_wp2_with fail
  refine (rnew_any m _).mono ?_
  rintro e w2 ⟨q, rfl, hR, hb2, hoq⟩
  have hT0 : Twin w w2 p q (.new m) := ⟨hC.fresh hb2, hR, hb1.next hb2, hop, fun x hx => Nat.le_trans hb1.size (hoq x hx)⟩
  clear hC hR hb1 hb2 hop hoq
  go_wp2_with fail
  go_loopw [9] (fun iv wr => ∃ (i : Nat) (h : Hs), i ≤ ss.length ∧ iv = .int .i64 (i : Int) ∧ Twin w wr p q h ∧ Hid (h.m = m)) (fun iv _ => ss.length - (intOf iv).toNat)
  case atStart => exact ⟨0, _, Nat.zero_le _, rfl, hT0, Lib.hid rfl⟩
  case round =>
    clear hT0
    obtain ⟨i, h, hi, rfl, hT, HM⟩ := hrel
    by_cases hlt : i < ss.length
    · have hlt' : (i : Int) < (ss.length : Int) := by omega
      have i0 : (0 : Int) ≤ (i : Int) := by omega
      have hwi : IntKind.i64.wrap ((i : Int) + 1) = (i : Int) + 1 := by rw [IntKind.wrap_i64]; omega
      obtain ⟨b, off, ⟨d, se, j, v⟩, rfl, k0, k1, k2, k3, hj⟩ := hs.at hlt
      simp only at k0 k1 k2 k3 hj
      have c0 := k0 wr hT.but
      have c1 := k1 wr hT.but
      have c2 := k2 wr hT.but
      have c3 := k3 wr hT.but
      have g0 : But [] wr (wr.alloc (.cells #[.int .i64 d, .bool se, .int .i64 j, .int .i64 v] 49)) := (Lq.But.refl _ _).alloc _
      have hSt : (wr.alloc (.cells #[.int .i64 d, .bool se, .int .i64 j, .int .i64 v] 49)).heap[wr.heap.size]? = some (.cells #[.int .i64 d, .bool se, .int .i64 j, .int .i64 v] 49 (0, 0)) := World.alloc_heap_new wr _
      have hTa := hT.fresh g0
      have hnp : wr.heap.size ∉ p.all := fun hx => by have := hT.ch.ltAll _ hx; omega
      have hnq : wr.heap.size ∉ q.all := fun hx => by have := hT.ref.lt hx; omega
      obtain ⟨wa, hwa⟩ : ∃ wa, wa = wr.alloc (.cells #[.int .i64 d, .bool se, .int .i64 j, .int .i64 v] 49) := ⟨_, rfl⟩
      rw [← hwa] at hSt hTa
      obtain ⟨sb, hsb⟩ : ∃ sb, sb = wr.heap.size := ⟨_, rfl⟩
      rw [← hsb] at hSt hnp hnq
      have s0 : wa.cell? ⟨sb, 0, none⟩ = some (.int .i64 d) := by simp [World.cell?, hSt]
      have s1 : wa.cell? ⟨sb, 1, none⟩ = some (.bool se) := by simp [World.cell?, hSt]
      have s2 : wa.cell? ⟨sb, 2, none⟩ = some (.int .i64 j) := by simp [World.cell?, hSt]
      have s3 : wa.cell? ⟨sb, 3, none⟩ = some (.int .i64 v) := by simp [World.cell?, hSt]
      clear hT g0 hSt k0 k1 k2 k3
      go_upto_region 9 with fail
      rw [← hwa, ← hsb]
      clear hwa hsb c0 c1 c2 c3
      by_cases e0 : d = 0
      · subst e0
        have h1 := t_put v hTa
        have HM2 : Hid ((h.setB (Rg.putL h.m h.b v)).m = m) := Lib.hid (by have := HM.out; exact this)
        go_wp2_with fail
        refine h1.mono ?_
        rintro e w3 ⟨x, rfl, hT1, hb1⟩
        have z3 := hb1.cell s3 (by simpa using hnp)
        obtain ⟨y0, -, -, -⟩ := hT1.ref.cells
        have hd := hT1.drew
        have zd : w3.drew.cell? ⟨sb, 3, none⟩ = _ := z3
        have yd : w3.drew.cell? ⟨q.D, 0, none⟩ = _ := y0
        go_wp2_with fail
        go_region_held3 (fun w' => w'.cell? ⟨q.D, 0, none⟩ = some (ptrO q.R) ∧ w'.cell? ⟨sb, 3, none⟩ = some (.int .i64 v))
          (first | exact ⟨yd, zd⟩ | exact ⟨hT2.ref.cells.1, hb2.cell zd (by simpa using hnq)⟩)
          ((first | (go_at_call 20; refine (u_put v hd).mono ?_; rintro e w4 ⟨y, rfl, hT2, hb2⟩)))
        clear hT1 hb1 h1 hTa s0 s1 s2 s3 z3 y0 hd hb2 zd yd
        go_wp2_with fail
        go_roundw
        case rel => exact ⟨i + 1, _, by omega, by go_num, hT2, HM2⟩
        case measure => simp [intOf]; omega
      by_cases e1 : d = 1
      · subst e1
        have h1 := t_take hTa
        have HM2 : Hid ((h.setB h.b.tail).m = m) := Lib.hid (by have := HM.out; exact this)
        go_wp2_with fail
        refine h1.mono ?_
        rintro e w3 ⟨x, x2, rfl, hT1, hb1⟩
        obtain ⟨y0, -, -, -⟩ := hT1.ref.cells
        have h2 := u_take hT1
        go_wp2_with fail
        refine h2.mono ?_
        rintro e w4 ⟨y, y2, rfl, hT2, hb2⟩
        clear hT1 hb1 h1 hTa s0 s1 s2 s3 y0 h2 hb2
        go_wp2_with fail
        go_roundw
        case rel => exact ⟨i + 1, _, by omega, by go_num, hT2, HM2⟩
        case measure => simp [intOf]; omega
      by_cases e3 : d = 3
      · subst e3
        have h1 := t_enq se j hTa
        have HM2 : Hid ((h.setQ se (Lq.putX (h.q se) j)).m = m) := Lib.hid (by have := HM.out; cases se <;> exact this)
        go_wp2_with fail
        refine h1.mono ?_
        rintro e w3 ⟨x, rfl, hT1, hb1⟩
        have z1 := hb1.cell s1 (by simpa using hnp)
        have z2 := hb1.cell s2 (by simpa using hnp)
        have hd := hT1.drew
        have zd1 : w3.drew.cell? ⟨sb, 1, none⟩ = _ := z1
        have zd2 : w3.drew.cell? ⟨sb, 2, none⟩ = _ := z2
        go_wp2_with fail
        go_region_held3 (fun w' => w'.cell? ⟨sb, 1, none⟩ = some (.bool se) ∧ w'.cell? ⟨sb, 2, none⟩ = some (.int .i64 j))
          (first | exact ⟨zd1, zd2⟩ | exact ⟨hb2.cell zd1 (by simpa using hnq), hb2.cell zd2 (by simpa using hnq)⟩)
          ((first
            | (go_at_call 23; refine (q_any se _ hd.ref).mono ?_; rintro e wq ⟨rfl, rfl⟩)
            | (go_at_call 24; refine (u_enq se j hd).mono ?_; rintro e w4 ⟨y, rfl, hT2, hb2⟩)))
        clear hT1 hb1 h1 hTa s0 s1 s2 s3 z1 z2 hd hb2 zd1 zd2
        go_wp2_with fail
        go_roundw
        case rel => exact ⟨i + 1, _, by omega, by go_num, hT2, HM2⟩
        case measure => simp [intOf]; omega
      by_cases e4 : d = 4
      · subst e4
        have h1 := t_deq se j hj hTa
        have HM2 : Hid ((h.setQ se ((h.q se).erase j)).m = m) := Lib.hid (by have := HM.out; cases se <;> exact this)
        go_wp2_with fail
        refine h1.mono ?_
        rintro e w3 ⟨x, rfl, hT1, hb1⟩
        have z1 := hb1.cell s1 (by simpa using hnp)
        have z2 := hb1.cell s2 (by simpa using hnp)
        have hd := hT1.drew
        have zd1 : w3.drew.cell? ⟨sb, 1, none⟩ = _ := z1
        have zd2 : w3.drew.cell? ⟨sb, 2, none⟩ = _ := z2
        go_wp2_with fail
        go_region_held3 (fun w' => w'.cell? ⟨sb, 1, none⟩ = some (.bool se) ∧ w'.cell? ⟨sb, 2, none⟩ = some (.int .i64 j))
          (first | exact ⟨zd1, zd2⟩ | exact ⟨hb2.cell zd1 (by simpa using hnq), hb2.cell zd2 (by simpa using hnq)⟩)
          ((first
            | (go_at_call 23; refine (q_any se _ hd.ref).mono ?_; rintro e wq ⟨rfl, rfl⟩)
            | (go_at_call 26; refine (u_deq se j hd).mono ?_; rintro e w4 ⟨y, rfl, hT2, hb2⟩)))
        clear hT1 hb1 h1 hTa s0 s1 s2 s3 z1 z2 hd hb2 zd1 zd2
        go_wp2_with fail
        go_roundw
        case rel => exact ⟨i + 1, _, by omega, by go_num, hT2, HM2⟩
        case measure => simp [intOf]; omega
      by_cases e5 : d = 5
      · subst e5
        have h1 := t_shut hTa
        have HM2 : Hid ((h.shut).m = m) := Lib.hid (by have := HM.out; exact this)
        go_wp2_with fail
        refine h1.mono ?_
        rintro e w3 ⟨x, rfl, hT1, hb1⟩
        have h2 := u_shut hT1
        go_wp2_with fail
        refine h2.mono ?_
        rintro e w4 ⟨y, rfl, hT2, hb2⟩
        clear hT1 hb1 h1 hTa s0 s1 s2 s3 h2 hb2
        go_wp2_with fail
        go_roundw
        case rel => exact ⟨i + 1, _, by omega, by go_num, hT2, HM2⟩
        case measure => simp [intOf]; omega
      have n0 : (d == 0) = false := by simpa using e0
      have n1 : (d == 1) = false := by simpa using e1
      have n3 : (d == 3) = false := by simpa using e3
      have n4 : (d == 4) = false := by simpa using e4
      have n5 : (d == 5) = false := by simpa using e5
      have hT2 := hTa
      clear hTa s1 s2 s3
      go_wp2_with fail
      go_roundw
      case rel => exact ⟨i + 1, _, by omega, by go_num, hT2, HM⟩
      case measure => simp [intOf]; omega
    · obtain rfl : i = ss.length := by omega
      have hlt' : ¬ ((ss.length : Int) < (ss.length : Int)) := by omega
      have HT := Lib.hid hT
      clear hT
      go_wp2_with fail
      go_ret2
      exact ⟨p, q, rfl, h, HT.out, HM.out⟩
end Go.Proofs.Ytkpnkhakjgfgfaa
