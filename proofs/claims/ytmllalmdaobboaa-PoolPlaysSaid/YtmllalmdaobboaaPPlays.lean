/-
  The walk of the law PoolPlays.
-/
import Derived.Deep.CutRange
import Derived.Deep.Light
import Derived.Deep.RegionHeld3
import Derived.Deep.DrawnRows
import Derived.Test.YtmllalmdaobboaaPPlaysM
namespace Go.Proofs.Ytmllalmdaobboaa
open Go.RowKit

set_option maxRecDepth 100000 in
set_option maxHeartbeats 3200000 in
theorem plays_loop (n : Nat) (hn1 : 1 ≤ n) (hn2 : n ≤ 60) (i : Int) (b off cap0 : Nat) (ss : List (Int × Int × Sud)) (w : World) (hl : ss.length ≤ 300) (h0 : 0 < ss.length)
    (hc : ∀ j, j < ss.length → StepAt w b (off + j * 7) (ss[j]?.getD zeroStep)) :
    Calls Try.prog 3 #[.int .i64 (n : Int), .slice (some ⟨b, off, none⟩) ss.length cap0, .int .i64 i] w fun e w' => e = .returned (.bool true) ∧ Below w.heap.size w w' := by
  have hl1 : decide ((300 : Int) < (ss.length : Int)) = false := by simp; omega
  have hl2 : ¬ (300 : Int) < (ss.length : Int) := by omega
  have q1 : decide ((60 : Int) < (n : Int)) = false := by simp; omega
  have q1' : ¬ (60 : Int) < (n : Int) := by omega
  have q2 : decide ((n : Int) < 1) = false := by simp; omega
  have q2' : ¬ (n : Int) < 1 := by omega
  have q3 : decide ((1024 : Int) < (n : Int)) = false := by simp; omega
  have q3' : ¬ (1024 : Int) < (n : Int) := by omega
  go_enter Try.func3, Try.ntmps3
  go_wp2_with fail
  refine (nothing_any _).mono ?_
  rintro e w1 ⟨rfl, hb1⟩
  go_wp2_with fail
  refine (m_new (n := n) (T := List.replicate n none) (F := List.range n) _ (But.of_below hb1 []) hn1 (by omega) rfl rfl rfl).mono ?_
  rintro e w2 ⟨B, V, rfl, hP, -, -, -⟩
  go_wp2_with fail
  refine (rnew_any n hn1 hn2 _).mono ?_
  rintro e w3 ⟨R, g, c, rv, rfl, hR, hRw, hb3⟩
  have hD : Pair w w3 B V n R n (List.replicate n none) (List.range n) := ⟨hP.fresh hb3, ⟨g, c, rv, hR⟩, Nat.le_trans hP.but.size hRw, by simp⟩
  clear hb1 hP hR hRw hb3
  go_wp2_with fail
  go_loopw [7, 10] (fun pv iv wr => ∃ (j B V cap : Nat) (T : List (Option Sud)) (F : List Nat), j ≤ ss.length ∧ iv = .int .i64 (j : Int) ∧ pv = .pointer (some ⟨B, 0, none⟩) ∧ Pair w wr B V cap R n T F) (fun _ iv _ => ss.length - (intOf iv).toNat)
  case atStart => exact ⟨0, B, V, n, _, _, Nat.zero_le _, rfl, rfl, hD⟩
  case round =>
    clear hD
    obtain ⟨j, B, V, cap, T, F, hj, rfl, rfl, hD⟩ := hrel
    by_cases hlt : j < ss.length
    · have hlt' : (j : Int) < (ss.length : Int) := by omega
      have hs := hc j hlt
      clear hc
      obtain ⟨s, hse⟩ : ∃ s, ss[j]?.getD zeroStep = s := ⟨_, rfl⟩
      rw [hse] at hs
      clear hse
      obtain ⟨d, ii, a, bb, c, dd, e⟩ := s
      obtain ⟨y0, y1, y2, y3, y4, y5, y6, ii1, ii2⟩ := hs
      simp only at y0 y1 y2 y3 y4 y5 y6 ii1 ii2
      have z0 := hD.mine.but.cell y0 (by simp)
      have z1 := hD.mine.but.cell y1 (by simp)
      have z2 := hD.mine.but.cell y2 (by simp)
      have z3 := hD.mine.but.cell y3 (by simp)
      have z4 := hD.mine.but.cell y4 (by simp)
      have z5 := hD.mine.but.cell y5 (by simp)
      have z6 := hD.mine.but.cell y6 (by simp)
      clear y0 y1 y2 y3 y4 y5 y6
      go_upto_region 16 with fail
      iterate 10 go_step
      have hD1 : Pair w (wr.alloc (.cells #[.int .i64 d, .int .i64 ii, .int .i64 a, .int .i64 bb, .bool c, .int .i64 dd, .int .u64 e] 34)) B V cap R n T F := hD.fresh ((But.refl [] wr).alloc _)
      obtain ⟨x0, x1, x2, x3, x4, x5, x6⟩ := cell7 (World.alloc_heap_new wr (.cells #[.int .i64 d, .int .i64 ii, .int .i64 a, .int .i64 bb, .bool c, .int .i64 dd, .int .u64 e] 34))
      have hDB : ∀ x ∈ [B, V], x ≠ wr.heap.size := by have := hD.mine.pool.ltB; have := hD.mine.pool.ltV; simp; omega
      have hDR : ∀ x ∈ [R], x ≠ wr.heap.size := by have := hD.ltR; simp; omega
      clear hD z0 z1 z2 z3 z4 z5 z6
      generalize wr.alloc (.cells #[.int .i64 d, .int .i64 ii, .int .i64 a, .int .i64 bb, .bool c, .int .i64 dd, .int .u64 e] 34) = wy at *
      generalize wr.heap.size = D at *
      clear x0
      go_cut [7, 12] from 65 to 174 (fun pv bv wx => ∃ (B V cap : Nat) (T : List (Option Sud)) (F : List Nat), pv = .pointer (some ⟨B, 0, none⟩) ∧ bv = .bool true ∧ Pair w wx B V cap R n T F)
      case first =>
        have htl := hD1.tl
        obtain ⟨g, c', rv, hR⟩ := hD1.ref
        by_cases e0 : d = 0
        · subst e0
          cases F with
          | nil =>
            go_wp2_with fail
            refine (m_full (a, bb, c, dd, e) _ hD1.mine rfl).mono ?_
            rintro e9 wa ⟨rfl, -, hg⟩
            have hD2 := hD1.fresh hg
            have hR2 := hR.fresh hg
            have u2 := hg.keeps x2 (by simp)
            have u3 := hg.keeps x3 (by simp)
            have u4 := hg.keeps x4 (by simp)
            have u5 := hg.keeps x5 (by simp)
            have u6 := hg.keeps x6 (by simp)
            clear hD1 hR hg x1 x2 x3 x4 x5 x6
            go_wp2_with fail
            refine (rtake_none a bb c dd e _ hR2).mono ?_
            rintro e9 wb ⟨rfl, hg2⟩
            have hD3 := hD2.fresh hg2
            clear hD2 hR2 hg2 u2 u3 u4 u5 u6
            go_wp2_with fail
            go_meet
            case rel => exact ⟨B, V, cap, T, [], rfl, rfl, hD3⟩
          | cons k F' =>
            have hkT : k < T.length := hD1.mine.pool.lt k (by simp)
            have kk : ((k : Int) == (k : Int)) = true := by simp
            go_wp2_with fail
            refine (m_take (i := k) (T' := T.set k (some (a, bb, c, dd, e))) (a, bb, c, dd, e) _ hD1.mine rfl rfl).mono ?_
            rintro e9 wa ⟨rfl, hM, hg⟩
            have hcall := rtake_some (a, bb, c, dd, e) wa (hR.pool hD1.mine.pool hg) hkT
            simp only [sudA] at hcall
            have u2 := hg.keeps x2 hDB
            have u3 := hg.keeps x3 hDB
            have u4 := hg.keeps x4 hDB
            have u5 := hg.keeps x5 hDB
            have u6 := hg.keeps x6 hDB
            clear hR x1 x2 x3 x4 x5 x6
            go_wp2_with fail
            refine hcall.mono ?_
            rintro e9 wb ⟨rfl, hN⟩
            have hD3 := hD1.step hM hg hN (by rw [List.length_set]; exact htl)
            clear hD1 hM hg hN hcall u2 u3 u4 u5 u6
            go_wp2_with fail
            go_meet
            case rel => exact ⟨B, V, cap, _, _, rfl, rfl, hD3⟩
        by_cases e1 : d = 1
        · subst e1
          cases hh : heldAt T ii with
          | none =>
            have hX1 : ∀ w1, But [] wy.drew w1 → RefP w1 R g c' rv T F := fun w1 hg => hR.drew.fresh hg
            go_wp2_with fail
            go_region_held3 (fun w' => w'.cell? ⟨D, 1, none⟩ = some (.int .i64 ii)) (first | go_keep | (exact hg1.keeps x1 (by simp)) | (exact hg2.keeps (hg1.keeps x1 (by simp)) (by simp))) ((first | (go_at_call 12; refine (m_give_not ii _ hD1.drew.mine hh).mono ?_; rintro e9 wa ⟨rfl, hg1⟩) | (go_at_call 13; refine (rgive_not ii _ (hX1 _ hg1) hh).mono ?_; rintro e9 wb ⟨rfl, hg2⟩)))
            all_goals go_wp2_with fail
            all_goals go_meet
            all_goals exact ⟨B, V, cap, T, F, rfl, rfl, hD1.drew.fresh (hg1.next hg2)⟩
          | some x =>
            obtain ⟨k, rfl, hk⟩ := held_nat hh
            have hfew : F.length < 60 := by have := few_of hD1.mine.pool hk; have := hR.len; omega
            have hX1 : ∀ w1, But [B, V] wy.drew w1 → RefP w1 R g c' rv T F := fun w1 hg => hR.drew.pool hD1.drew.mine.pool hg
            go_wp2_with fail
            go_region_held3 (fun w' => w'.cell? ⟨D, 1, none⟩ = some (.int .i64 (k : Int))) (first | go_keep | (exact hg1.keeps x1 hDB) | (exact hN.but.keeps (hg1.keeps x1 hDB) hDR)) ((first | (go_at_call 12; refine (m_give (i := k) (T' := T.set k none) _ hD1.drew.mine hk rfl rfl).mono ?_; rintro e9 wa ⟨rfl, hM, hg1⟩) | (go_at_call 13; refine (rgive_there _ (hX1 _ hg1) hk hfew).mono ?_; rintro e9 wb ⟨rfl, hN⟩)))
            all_goals go_wp2_with fail
            all_goals go_meet
            all_goals exact ⟨B, V, cap, _, _, rfl, rfl, hD1.drew.step hM hg1 hN (by rw [List.length_set]; exact htl)⟩
        by_cases e2 : d = 2
        · subst e2
          go_wp2_with fail
          refine (pt_copy _ hD1.mine.pool).mono ?_
          rintro e9 wa ⟨B2, V2, c2, rfl, hP2, hB2, hV2, hg⟩
          have hM2 : Mine w wa B2 V2 c2 T F := ⟨hP2, hD1.mine.but.next hg, Nat.le_trans hD1.mine.but.size hB2, Nat.le_trans hD1.mine.but.size hV2⟩
          have hltB := hD1.mine.pool.ltB
          have hltV := hD1.mine.pool.ltV
          have hD2 := hD1.fresh hg
          have u1 := hg.keeps x1 (by simp)
          clear hD1 hR hg hP2 x1 x2 x3 x4 x5 x6
          go_wp2_with fail
          refine (old_take (99, 0, false, 0, 0) _ hD2.mine rfl).mono ?_
          rintro e9 wb ⟨ra, rb, rfl, ⟨T3, F3, hM3⟩, hg3⟩
          have u2 := hg3.keeps u1 hDB
          clear u1
          go_wp2_with fail
          refine (old_give ii _ hM3).mono ?_
          rintro e9 wd ⟨rc, rfl, hg4⟩
          have hg5 := hg3.next hg4
          have hM5 := hM2.beside hg5 (by simp; omega) (by simp; omega) (by have := hD2.mine.ownB; have := hD2.mine.ownV; simp; omega)
          have hD5 := hD2.other hM5 hg5
          clear hg3 hg4 hg5 hM5 hM3 hM2 hD2 u2
          go_wp2_with fail
          go_meet
          case rel => exact ⟨B2, V2, c2, T, F, rfl, rfl, hD5⟩
        · go_wp2_with fail
          go_meet
          case rel => exact ⟨B, V, cap, T, F, rfl, rfl, hD1⟩
      case rest =>
        obtain ⟨B', V', cap', T', F', rfl, rfl, hD2⟩ := hcut
        clear hD1 x1 x2 x3 x4 x5 x6 hDB hDR
        obtain ⟨g, c', rv, hR⟩ := hD2.ref
        have htl := hD2.tl
        have hsum := hD2.mine.pool.sum
        have hof := pt_of i wc hD2.mine.pool
        have hrof := fun (W : World) (h : RefP W R g c' rv T' F') => rof_any i W h
        obtain ⟨⟨p1, p2, p3, p4, p5⟩, hx⟩ : ∃ x, (heldAt T' i).getD zeroS = x := ⟨_, rfl⟩
        obtain ⟨z, hz⟩ : ∃ z, (heldAt T' i).isSome = z := ⟨_, rfl⟩
        simp only [hx, hz, sudA] at hof hrof
        have hlen := fun (W : World) (h : PoolAt W B' V' cap' T' F') => pt_len W h
        simp only [← idx_len] at hlen hsum
        have hzz : (z != z) = false := by cases z <;> rfl
        clear hx hz
        go_wp2_with fail
        refine hof.mono ?_
        rintro e9 wa ⟨rfl, hg1⟩
        have hba := hg1.alloc (.cells #[.int .i64 p1, .int .i64 p2, .bool p3, .int .i64 p4, .int .u64 p5] 32)
        have hDa := hD2.fresh hba
        have hRa := hR.fresh hba
        have kx := World.alloc_heap_new wa (.cells #[.int .i64 p1, .int .i64 p2, .bool p3, .int .i64 p4, .int .u64 p5] 32)
        clear hD2 hR hof hg1 hba
        go_wp2_with fail
        refine (hrof _ hRa).mono ?_
        rintro e9 wb ⟨rfl, hg2⟩
        have hbb := hg2.alloc (.cells #[.int .i64 p1, .int .i64 p2, .bool p3, .int .i64 p4, .int .u64 p5] 32)
        have hDb := hDa.fresh hbb
        have hRb := hRa.fresh hbb
        have ky := World.alloc_heap_new wb (.cells #[.int .i64 p1, .int .i64 p2, .bool p3, .int .i64 p4, .int .u64 p5] 32)
        have kx2 := (hbb.block wa.heap.size (by simp) (by simp)).trans kx
        have hlw : wa.heap.size < wb.heap.size := by have := hg2.size; simp at this; omega
        clear hDa hRa hrof hg2 hbb kx
        go_wp2_with fail
        refine (rlist_any _ hRb).mono ?_
        rintro e9 wl ⟨va, rfl, hown, hbl⟩
        obtain ⟨pa, pc, rfl⟩ := rest_slice hown
        have hDl := hDb.fresh (But.of_below hbl [])
        obtain ⟨s0, s1, s2, s3, s4⟩ := cell5 ((hbl.block wa.heap.size (by simp; omega)).trans kx2)
        obtain ⟨t0, t1, t2, t3, t4⟩ := cell5 ((hbl.block wb.heap.size (by simp)).trans ky)
        have hl60 : (idx T').length ≤ 60 := by omega
        have hll : (((idx T').length : Int) != ((idx T').length : Int)) = false := by simp
        have hw : IntKind.i64.wrap ((n : Int) - ((idx T').length : Int)) = (F'.length : Int) := by rw [IntKind.wrap_i64]; omega
        have hff : ((F'.length : Int) != (F'.length : Int)) = false := by simp
        clear hDb hRb hbl kx2 ky
        go_wp2_with fail
        refine (hlen _ hDl.mine.pool).mono ?_
        rintro e9 wm ⟨rfl, rfl⟩
        clear s0 s1 s2 s3 s4 t0 t1 t2 t3 t4
        go_wp2_with fail
        refine (pt_free _ hDl.mine.pool).mono ?_
        rintro e9 wn ⟨rfl, m, rfl⟩
        have hDm := hDl.drewN m
        clear hlen hDl
        go_wp2_with fail
        refine (pt_list _ hDm.mine.pool).mono ?_
        rintro e9 wo ⟨vb, rfl, hownb, hbo⟩
        have hDo := hDm.fresh (But.of_below hbo [])
        have hall := (But.of_below hbo []).row (hown : World.ownsRow (World.drewN wm m) _ _ _ _ _ _) (by simp)
        clear hDm hown hbo
        go_wp2_with fail
        refine (same_nat _ hownb hall (by omega)).mono ?_
        rintro e9 wp ⟨rfl, hbp⟩
        have hDp := hDo.fresh (But.of_below hbp [])
        clear hDo hbp hownb hall
        go_wp2_with fail
        go_roundw
        case rel => exact ⟨j + 1, B', V', cap', T', F', by omega, by go_num, rfl, hDp⟩
        case measure => simp [intOf]; omega
    · obtain rfl : j = ss.length := by omega
      have hlt' : ¬ (ss.length : Int) < (ss.length : Int) := by omega
      have hBl := hD.mine.below
      clear hc hD
      go_wp2_with fail
      refine (alive_any _).mono ?_
      rintro e wz ⟨rfl, hbz⟩
      have hB' := below_next hBl hbz
      clear hBl hbz
      go_wp2_with fail
      go_ret
      exact ⟨rfl, hB'⟩
end Go.Proofs.Ytmllalmdaobboaa
