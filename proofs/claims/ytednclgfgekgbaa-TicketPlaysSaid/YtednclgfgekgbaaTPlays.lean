/-
  The walk of the law TicketPlays.
-/
import Derived.Deep.CutRange
import Derived.Deep.Light
import Derived.Deep.RegionHeld3
import Derived.Deep.DrawnRows
import Derived.Test.YtednclgfgekgbaaTPlaysM
namespace Go.Proofs.Ytednclgfgekgbaa
open Go.RowKit

set_option maxRecDepth 100000 in
set_option maxHeartbeats 3200000 in
theorem plays_loop (base n : Nat) (hn1 : 1 ≤ n) (hn2 : n ≤ 10) (hbn : base + 2 * n ≤ 20) (k : Int) (b off cap : Nat) (ss : List (Int × Int × Nat × Nat)) (w : World) (hl : ss.length ≤ 200) (h0 : 0 < ss.length)
    (hc : ∀ j, j < ss.length → StepAt w b (off + j * 4) (ss[j]?.getD (0, 0, 0, 0))) :
    Calls Try.prog 3 #[.int .i64 (base : Int), .int .i64 (n : Int), .slice (some ⟨b, off, none⟩) ss.length cap, .int .i64 k] w fun e w' => e = .returned (.bool true) ∧ Below w.heap.size w w' := by
  obtain ⟨i0, hi, iz0, iz1, iz2⟩ := info_parts infoU64
  have hl1 : decide ((200 : Int) < (ss.length : Int)) = false := by simp; omega
  have hl2 : ¬ (200 : Int) < (ss.length : Int) := by omega
  have q1 : decide ((n : Int) < 1) = false := by simp; omega
  have q1' : ¬ (n : Int) < 1 := by omega
  have q2 : decide ((10 : Int) < (n : Int)) = false := by simp; omega
  have q2' : ¬ (10 : Int) < (n : Int) := by omega
  have q3 : decide ((base : Int) < 0) = false := by simp
  have q4 : decide (20 - 2 * (n : Int) < (base : Int)) = false := by simp; omega
  have q4' : ¬ 20 - 2 * (n : Int) < (base : Int) := by omega
  go_enter Try.func3, Try.ntmps3
  go_wp2_with fail
  refine (give_none _ _ (cells_nil _ _)).mono ?_
  rintro e w ⟨rfl, rfl⟩
  go_wp2_with fail
  refine (cell_new_at (n := 20) _ (Lib.hid rfl) (by omega) (by omega)).mono ?_
  rintro e w1 ⟨B, V, rfl, hC, hV, hB, hz⟩
  have hvl : (List.replicate 20 0).length = 20 := by simp
  obtain ⟨vs, hvs⟩ : ∃ vs, vs = List.replicate 20 0 := ⟨_, rfl⟩
  rw [← hvs] at hC hvl
  go_wp2_with fail
  refine (draw_none _ _ (cells_nil _ _)).mono ?_
  rintro e w1 ⟨rfl, rfl⟩
  go_wp2_with fail
  refine (mine_none _ _ _ (cells_nil _ _)).mono ?_
  rintro e w1 ⟨rfl, rfl⟩
  go_wp2_with fail
  refine (free_none _ _ (cells_nil _ _)).mono ?_
  rintro e w1 ⟨rfl, rfl⟩
  go_wp2_with fail
  refine (wait_none _ _ (cells_nil _ _)).mono ?_
  rintro e w1 ⟨rfl, rfl⟩
  go_wp2_with fail
  refine (tlen_nil _).mono ?_
  rintro e w1 ⟨rfl, rfl⟩
  have HV := Lib.hid hvl
  clear hvl
  go_wp2_with fail
  refine (tnew_ok _ hC hn1 (by omega) (by rw [HV.out]; exact hbn)).mono ?_
  rintro e w2 ⟨L, P, Q, rfl, hL, hg⟩
  have hC2 := hC.but hg (by simp) (by simp)
  have hz2 := hz.next hg
  clear hC hg hz
  go_wp2_with (at_make; refine wpList_make_full _ rfl _ _ 40 rfl w2.heap.size 41 i0 (.int .u64 0) 1 Try.underlying40 hi iz0 iz1 .i64 .i64 20 20 20 rfl rfl rfl rfl (by rw [iz2]; omega) (by unfold maxLen; omega) (Nat.le_refl _) ?_; intro w3 hown hgrow)
  have hD := Duel.first hL hC2 hz2 hB hV hvs hgrow hown
  clear hL hC2 hz2 hB hV hvs hgrow hown HV
  obtain ⟨R, hR⟩ : ∃ R, R = w3.heap.size + 1 := ⟨_, rfl⟩
  obtain ⟨C, hCC⟩ : ∃ C, C = w3.heap.size := ⟨_, rfl⟩
  rw [← hR, ← hCC] at hD ⊢
  clear hR hCC
  go_loopw [15] (fun iv wr => ∃ (j g : Nat) (vs : List Nat) (c : Nat), j ≤ ss.length ∧ iv = .int .i64 (j : Int) ∧ Duel w wr L P Q B V base n R C g vs c) (fun iv _ => ss.length - (intOf iv).toNat)
  case atStart => exact ⟨0, _, vs, 0, Nat.zero_le _, rfl, hD⟩
  case round =>
    clear hD vs
    obtain ⟨j, g, vs, c, hj, rfl, hD⟩ := hrel
    by_cases hlt : j < ss.length
    · have hlt' : (j : Int) < (ss.length : Int) := by omega
      have hs := hc j hlt
      clear hc
      obtain ⟨s, hse⟩ : ∃ s, ss[j]?.getD (0, 0, 0, 0) = s := ⟨_, rfl⟩
      rw [hse] at hs
      clear hse
      obtain ⟨d, kk, t, v⟩ := s
      obtain ⟨y0, y1, y2, y3, kk1, kk2, v2⟩ := hs
      simp only at y0 y1 y2 y3 kk1 kk2 v2
      have z0 := hD.but.cell y0 (by simp)
      have z1 := hD.but.cell y1 (by simp)
      have z2 := hD.but.cell y2 (by simp)
      have z3 := hD.but.cell y3 (by simp)
      clear y0 y1 y2 y3
      go_upto_region 19 with fail
      iterate 10 go_step
      have hD1 : Duel w (wr.alloc (.cells #[.int .i64 d, .int .i64 kk, .int .u16 (t : Int), .int .u64 (v : Int)] 47)) L P Q B V base n R C g vs c := hD.fresh ((But.refl [] wr).alloc _)
      obtain ⟨x0, x1, x2, x3⟩ := cell4 (World.alloc_heap_new wr (.cells #[.int .i64 d, .int .i64 kk, .int .u16 (t : Int), .int .u64 (v : Int)] 47))
      have hDB : ∀ x ∈ [B, V], x ≠ wr.heap.size := by have := hD.cels.ltB; have := hD.cels.ltV; simp; omega
      have hDC : ∀ x ∈ [C], x ≠ wr.heap.size := by have := hD.refc.ltC; simp; omega
      clear hD z0 z1 z2 z3
      generalize wr.alloc (.cells #[.int .i64 d, .int .i64 kk, .int .u16 (t : Int), .int .u64 (v : Int)] 47) = wy at *
      generalize wr.heap.size = D at *
      clear x0
      have hvl : base + 2 * n ≤ vs.length := by have := hD1.len; omega
      go_cut [17] from 102 to 235 (fun bv wx => ∃ (g : Nat) (vs : List Nat) (c : Nat), bv = .bool true ∧ Duel w wx L P Q B V base n R C g vs c ∧ wx.cell? ⟨D, 1, none⟩ = some (.int .i64 kk))
      case first =>
        by_cases e0 : d = 0
        · subst e0
          go_wp2_with fail
          have hX1 : ∀ w1, But [B, V] wy.drew w1 → RefL w1 R C base n ∧ RefC w1 C g vs c := fun w1 hg => ⟨hD1.drew.refl.cels hD1.drew.cels hg, hD1.drew.refc.cels hD1.drew.cels hD1.apart hg⟩
          go_region_held3 (fun w' => w'.cell? ⟨D, 1, none⟩ = some (.int .i64 kk)) (first | go_keep | (exact hg1.keeps x1 hDB) | (exact hR1.but.keeps (hg1.keeps x1 hDB) hDC)) ((first | (go_at_call 9; refine (draw_any kk _ hD1.drew.lks hD1.drew.cels hvl).mono ?_; rintro e wa ⟨rfl, hC1, hg1⟩) | (go_at_call 15; refine (rdraw_any kk _ (hX1 _ hg1).1 (hX1 _ hg1).2 hvl).mono ?_; rintro e wb ⟨rfl, hR1⟩)))
          all_goals go_wp2_with fail
          all_goals go_meet
          all_goals (obtain ⟨g', hD2⟩ := hD1.drew.step hC1 hg1 hR1 (by rw [drawV_len]; exact hD1.len); exact ⟨g', _, _, rfl, hD2, hR1.but.keeps (hg1.keeps x1 hDB) hDC⟩)
        by_cases e1 : d = 1
        · subst e1
          go_wp2_with fail
          have hX1 : ∀ w1, But [B, V] wy.drew w1 → RefL w1 R C base n ∧ RefC w1 C g vs c := fun w1 hg => ⟨hD1.drew.refl.cels hD1.drew.cels hg, hD1.drew.refc.cels hD1.drew.cels hD1.apart hg⟩
          go_region_held3 (fun w' => w'.cell? ⟨D, 1, none⟩ = some (.int .i64 kk) ∧ w'.cell? ⟨D, 2, none⟩ = some (.int .u16 (t : Int))) (first | (exact ⟨x1, x2⟩) | (exact ⟨hg1.keeps x1 hDB, hg1.keeps x2 hDB⟩) | (exact ⟨hR1.but.keeps (hg1.keeps x1 hDB) hDC, hR1.but.keeps (hg1.keeps x2 hDB) hDC⟩)) ((first | (go_at_call 10; refine (mine_any kk t _ hD1.drew.lks hD1.drew.cels hvl).mono ?_; rintro e wa ⟨rfl, hC1, hg1⟩) | (go_at_call 16; refine (rmine_any kk t _ (hX1 _ hg1).1 (hX1 _ hg1).2 hvl).mono ?_; rintro e wb ⟨rfl, hR1⟩)))
          all_goals go_wp2_with fail
          all_goals go_meet
          all_goals (obtain ⟨g', hD2⟩ := hD1.drew.step hC1 hg1 hR1 hD1.len; exact ⟨g', _, _, rfl, hD2, hR1.but.keeps (hg1.keeps x1 hDB) hDC⟩)
        by_cases e2 : d = 2
        · subst e2
          go_wp2_with fail
          refine (give_any kk _ hD1.lks hD1.cels hvl).mono ?_
          rintro e wa ⟨rfl, hC1, hg1⟩
          have hl1 := hD1.refl.cels hD1.cels hg1
          have hr1 := hD1.refc.cels hD1.cels hD1.apart hg1
          have u1 := hg1.keeps x1 hDB
          go_wp2_with fail
          refine (rgive_any kk _ hl1 hr1 hvl).mono ?_
          rintro e wb ⟨rfl, hR1⟩
          go_wp2_with fail
          go_meet
          case rel => obtain ⟨g', hD2⟩ := hD1.step hC1 hg1 hR1 (by rw [giveV_len]; exact hD1.len); exact ⟨g', _, _, rfl, hD2, hR1.but.keeps u1 hDC⟩
        by_cases e3 : d = 3
        · subst e3
          go_wp2_with fail
          refine (cell_write kk v _ hD1.cels kk1 kk2 v2).mono ?_
          rintro e wa ⟨rfl, hC1, hg1⟩
          have hl1 := hD1.refl.cels hD1.cels hg1
          have hr1 := hD1.refc.cels hD1.cels hD1.apart hg1
          have u1 := hg1.keeps x1 hDB
          have u3 := hg1.keeps x3 hDB
          have r0 := hl1.cell0
          have hcall := rwrite_any kk v wa.drew hr1.drew kk1 kk2 v2
          go_wp2_with fail
          refine wp_region_still_tail 8 (by kernel_rfl) (by kernel_rfl) ?_
          simp only [List.take_succ_cons, List.take_zero, List.drop_succ_cons, List.drop_zero]
          change wpStill _ _ wa.drew (fun a' => wpList _ _ _ _ a' wa.drew) _ _
          repeat still_step
          refine wpStill_nil ?_
          go_wp2_with fail
          refine hcall.mono ?_
          rintro e wb ⟨rfl, hR1⟩
          go_wp2_with fail
          go_meet
          case rel => obtain ⟨g', hD2⟩ := hD1.step hC1 hg1 hR1.undrew (by rw [putAt_len]; exact hD1.len); exact ⟨g', _, _, rfl, hD2, hR1.but.keeps u1 hDC⟩
        · go_wp2_with fail
          go_meet
          case rel => exact ⟨g, vs, c, rfl, hD1, x1⟩
      case rest =>
        obtain ⟨g', vs', c', rfl, hD2, x1'⟩ := hcut
        clear hD1 x1 x2 x3 hvl
        have hvl : base + 2 * n ≤ vs'.length := by have := hD2.len; omega
        have r0 := hD2.refl.cell0
        have rN := hD2.refc.cellN
        obtain ⟨x, hx1, hx2⟩ : ∃ x, freeE base n vs' k = x ∧ (inRow n k = true → ((waitE base n vs' k : Int) == 0) = x) := by
          refine ⟨_, rfl, fun h => ?_⟩
          rw [freeE, h, Bool.true_and, ← (beq_nat (waitE base n vs' k) 0).out]; rfl
        have qf := fun m => free_any k (World.drewN wc m) (hD2.lks.drewN m) (hD2.cels.drewN m) hvl
        have qh := fun m => lhas_any k (World.drewN wc m) (hD2.refl.drewN m)
        rw [hx1] at qf
        have qw := fun (i : Int) m => wait_any i (World.drewN wc m) (hD2.lks.drewN m) (hD2.cels.drewN m) hvl
        have qr := fun (i : Int) m => rwait_any i (World.drewN wc m) (hD2.refl.drewN m) (hD2.refc.drewN m) hvl
        have ql := fun m => tlen_any (World.drewN wc m) (hD2.lks.drewN m)
        have qc := fun m => count_any (World.drewN wc m) (hD2.cels.drewN m)
        have w1' : ((waitE base n vs' k : Int) != (waitE base n vs' k : Int)) = false := by simp
        have w2' : ((waitE base n vs' kk : Int) != (waitE base n vs' kk : Int)) = false := by simp
        have w3' : ((n : Int) != (n : Int)) = false := by simp
        have w4' : ((c' : Int) != (c' : Int)) = false := by simp
        have hxx : (x != x) = false := by cases x <;> rfl
        cases hin : inRow n k with
        | true =>
          rw [hin] at qh
          have hx3 := hx2 hin
          clear hx2 hin hx1
          go_wp2_with fail
          go_quiet (first | (go_at_call 12; with_reducible exact Calls.quiet_of (qw _ _)) | (go_at_call 20; with_reducible exact Calls.quiet_of (qr _ _)) | (go_at_call 11; with_reducible exact Calls.quiet_of (qf _)) | (go_at_call 21; with_reducible exact Calls.quiet_of_same (qh _)) | (go_at_call 13; with_reducible exact Calls.quiet_of_same (ql _)) | (go_at_call 22; with_reducible exact Calls.quiet_of_same (qc _)))
          have hD3 := hD2.drewN nq
          clear hD2 qf qh qw qr ql qc w1' w2' w3' w4' hxx hx3 r0 rN x1'
          go_upto_region 33 with fail
          go_loopw [18] (fun mv wr => ∃ m : Nat, m ≤ 20 ∧ mv = .int .i64 (m : Int) ∧ Duel w wr L P Q B V base n R C g' vs' c') (fun mv _ => 20 - (intOf mv).toNat)
          case atStart => exact ⟨0, by omega, rfl, hD3⟩
          case round =>
            clear hD3
            obtain ⟨m, hm, rfl, hD4⟩ := hrel
            by_cases hm2 : m < 20
            · have hm3 : (m : Int) < 20 := by omega
              have p1 := fun q => peek_any (m : Int) (World.drewN wr q) (hD4.cels.drewN q) (by omega) (by omega)
              have p2 := fun q => rpeek_any (m : Int) (World.drewN wr q) (hD4.refc.drewN q) (by omega) (by omega)
              have s0 := hD4.refl.cell0
              have s1 : ((cellAt vs' (m : Int) : Int) != (cellAt vs' (m : Int) : Int)) = false := by simp
              go_wp2_with fail
              go_quiet (first | (go_at_call 23; with_reducible exact Calls.quiet_of_same (p1 _)) | (go_at_call 24; with_reducible exact Calls.quiet_of_same (p2 _)))
              have hD5 := hD4.drewN nq
              clear hD4 p1 p2 s0 s1
              go_wp2_with fail
              go_roundw
              case rel => exact ⟨m + 1, by omega, by go_num, hD5⟩
              case measure => simp [intOf]; omega
            · obtain rfl : m = 20 := by omega
              go_wp2_with fail
              go_roundw
              case rel => exact ⟨j + 1, g', vs', c', by omega, by go_num, hD4⟩
              case measure => simp [intOf]; omega
        | false =>
          rw [hin] at qh
          obtain rfl : x = false := by rw [← hx1, freeE, hin]; rfl
          clear hx2 hin hx1
          go_wp2_with fail
          go_quiet (first | (go_at_call 12; with_reducible exact Calls.quiet_of (qw _ _)) | (go_at_call 20; with_reducible exact Calls.quiet_of (qr _ _)) | (go_at_call 11; with_reducible exact Calls.quiet_of (qf _)) | (go_at_call 21; with_reducible exact Calls.quiet_of_same (qh _)) | (go_at_call 13; with_reducible exact Calls.quiet_of_same (ql _)) | (go_at_call 22; with_reducible exact Calls.quiet_of_same (qc _)))
          have hD3 := hD2.drewN nq
          clear hD2 qf qh qw qr ql qc w1' w2' w3' w4' hxx r0 rN x1'
          go_upto_region 33 with fail
          go_loopw [18] (fun mv wr => ∃ m : Nat, m ≤ 20 ∧ mv = .int .i64 (m : Int) ∧ Duel w wr L P Q B V base n R C g' vs' c') (fun mv _ => 20 - (intOf mv).toNat)
          case atStart => exact ⟨0, by omega, rfl, hD3⟩
          case round =>
            clear hD3
            obtain ⟨m, hm, rfl, hD4⟩ := hrel
            by_cases hm2 : m < 20
            · have hm3 : (m : Int) < 20 := by omega
              have p1 := fun q => peek_any (m : Int) (World.drewN wr q) (hD4.cels.drewN q) (by omega) (by omega)
              have p2 := fun q => rpeek_any (m : Int) (World.drewN wr q) (hD4.refc.drewN q) (by omega) (by omega)
              have s0 := hD4.refl.cell0
              have s1 : ((cellAt vs' (m : Int) : Int) != (cellAt vs' (m : Int) : Int)) = false := by simp
              go_wp2_with fail
              go_quiet (first | (go_at_call 23; with_reducible exact Calls.quiet_of_same (p1 _)) | (go_at_call 24; with_reducible exact Calls.quiet_of_same (p2 _)))
              have hD5 := hD4.drewN nq
              clear hD4 p1 p2 s0 s1
              go_wp2_with fail
              go_roundw
              case rel => exact ⟨m + 1, by omega, by go_num, hD5⟩
              case measure => simp [intOf]; omega
            · obtain rfl : m = 20 := by omega
              go_wp2_with fail
              go_roundw
              case rel => exact ⟨j + 1, g', vs', c', by omega, by go_num, hD4⟩
              case measure => simp [intOf]; omega
    · obtain rfl : j = ss.length := by omega
      have hlt' : ¬ (ss.length : Int) < (ss.length : Int) := by omega
      have hBl := hD.but
      clear hc hD
      go_wp2_with fail
      refine (alive_any _).mono ?_
      rintro e wz ⟨rfl, hbz⟩
      have hB' : Below w.heap.size w wz := (hBl.below (Nat.le_refl _) (by simp)).trans (hbz.mono hBl.size)
      clear hBl hbz
      go_wp2_with fail
      go_ret
      exact ⟨rfl, hB'⟩
end Go.Proofs.Ytednclgfgekgbaa
