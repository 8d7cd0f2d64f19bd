/-
  The walk of the law PoolKeeps.
-/
import Derived.Deep.CutRange
import Derived.Deep.Light
import Derived.Test.YtmllalmdaobboaaPKeepM
namespace Go.Proofs.Ytmllalmdaobboaa
open Go.RowKit

set_option maxRecDepth 100000 in
set_option maxHeartbeats 3200000 in
theorem keeps_loop (n : Nat) (hn : n < 256) (b off cap : Nat) (ss : List (Int × Int × Sud)) (w : World) (hl : ss.length ≤ 200) (h0 : 0 < ss.length)
    (hc : ∀ j, j < ss.length → StepAt w b (off + j * 7) (ss[j]?.getD zeroStep)) :
    Calls Try.prog 4 #[.int .u8 (n : Int), .slice (some ⟨b, off, none⟩) ss.length cap] w fun e w' => e = .returned (.bool true) ∧ Below w.heap.size w w' := by
  obtain ⟨i0, hi, hz0, hz1, hz2⟩ := info_parts infoBool
  obtain ⟨i1, hj, jz0, jz1, jz2⟩ := info_parts infoSud
  have hl1 : decide ((200 : Int) < (ss.length : Int)) = false := by simp; omega
  have hl2 : ¬ (200 : Int) < (ss.length : Int) := by omega
  obtain ⟨q, hq⟩ : ∃ q, q = n % 40 := ⟨_, rfl⟩
  have hq40 : q < 40 := by omega
  have hq1 : (n : Int) % 40 = (q : Int) := by omega
  have hq2 : (n : Int).tmod 40 = (q : Int) := by rw [Int.tmod_eq_emod_of_nonneg (by omega)]; omega
  have hw : IntKind.i64.wrap (n : Int) = (n : Int) := by rw [IntKind.wrap_i64]; omega
  clear hq
  have hnew := fun w : World => m_new (w0 := w) (n := q + 1) (T := List.replicate (q + 1) none) (F := List.range (q + 1)) (k := 1 + (q : Int)) w (But.refl [] w) (by omega) (by omega) (by omega) rfl rfl
  go_enter Try.func4, Try.ntmps4
  go_wp2_with fail
  refine (hnew _).mono ?_
  rintro e w1 ⟨B, V, rfl, hP, -, -, -⟩
  clear hnew
  go_wp2_with (at_make; first | (refine wpList_make_full _ rfl _ _ 46 rfl w1.heap.size 32 i1 (.agg #[.int .i64 0, .int .i64 0, .bool false, .int .i64 0, .int .u64 0]) 5 Try.underlying46 hj jz0 jz1 .i64 .i64 40 40 40 rfl rfl rfl rfl (by rw [jz2]; omega) (by unfold maxLen; omega) (Nat.le_refl _) ?_; intro w2 hownG hgrowG) | (refine wpList_make_full _ rfl _ _ 47 rfl w2.heap.size 4 i0 (.bool false) 1 Try.underlying47 hi hz0 hz1 .i64 .i64 40 40 40 rfl rfl rfl rfl (by rw [hz2]; omega) (by unfold maxLen; omega) (Nat.le_refl _) ?_; intro w3 hownI hgrowI))
  have hK : Kept w w3 B V (q + 1) w1.heap.size w2.heap.size (q + 1) (List.replicate (q + 1) none) (List.range (q + 1)) (List.replicate 40 zeroS) := by
    have hbG := But.of_none hgrowG []
    have hbI := But.of_none hgrowI []
    refine ⟨(hP.fresh hbG).fresh hbI, (suds_made hownG).but hbI (by simp), by rw [marks40_none]; exact bools_made hownI, hP.but.size, (hP.fresh hbG).but.size, by simp, by simp, by omega, fun k x hx => ?_⟩
    rw [List.getElem?_replicate] at hx
    split at hx
    · cases hx
    · cases hx
  obtain ⟨G, hG⟩ : ∃ G, G = w1.heap.size := ⟨_, rfl⟩
  obtain ⟨I, hI⟩ : ∃ I, I = w2.heap.size := ⟨_, rfl⟩
  rw [← hG, ← hI] at hK ⊢
  clear hownG hgrowG hownI hgrowI hP hG hI
  go_loopw [9, 10] (fun lv iv wr => ∃ (j : Nat) (z : Int) (T : List (Option Sud)) (F : List Nat) (H : List Sud), j ≤ ss.length ∧ iv = .int .i64 (j : Int) ∧ lv = .int .i64 z ∧ Kept w wr B V (q + 1) G I (q + 1) T F H ∧ LastOk z F) (fun _ iv _ => ss.length - (intOf iv).toNat)
  case atStart => exact ⟨0, -1, _, _, _, Nat.zero_le _, rfl, rfl, hK, .inl rfl⟩
  case round =>
    clear hK
    obtain ⟨j, z, T, F, H, hj, rfl, rfl, hK, hZ⟩ := hrel
    by_cases hlt : j < ss.length
    · have hlt' : (j : Int) < (ss.length : Int) := by omega
      have hs := hc j hlt
      clear hc
      obtain ⟨s, hse⟩ : ∃ s, ss[j]?.getD zeroStep = s := ⟨_, rfl⟩
      rw [hse] at hs
      clear hse
      obtain ⟨d, ii, a, bb, c, dd, e⟩ := s
      obtain ⟨y0, y1, y2, y3, y4, y5, y6, ii1, ii2⟩ := hs
      simp only at y0 y1 y2 y3 y4 y5 y6 ii1 ii2
      have z0 := hK.mine.but.cell y0 (by simp)
      have z1 := hK.mine.but.cell y1 (by simp)
      have z2 := hK.mine.but.cell y2 (by simp)
      have z3 := hK.mine.but.cell y3 (by simp)
      have z4 := hK.mine.but.cell y4 (by simp)
      have z5 := hK.mine.but.cell y5 (by simp)
      have z6 := hK.mine.but.cell y6 (by simp)
      clear y0 y1 y2 y3 y4 y5 y6
      go_upto_region 13 with fail
      iterate 10 go_step
      have hK1 : Kept w (wr.alloc (.cells #[.int .i64 d, .int .i64 ii, .int .i64 a, .int .i64 bb, .bool c, .int .i64 dd, .int .u64 e] 34)) B V (q + 1) G I (q + 1) T F H := hK.fresh ((But.refl [] wr).alloc _)
      obtain ⟨x0, x1, x2, x3, x4, x5, x6⟩ := cell7 (World.alloc_heap_new wr (.cells #[.int .i64 d, .int .i64 ii, .int .i64 a, .int .i64 bb, .bool c, .int .i64 dd, .int .u64 e] 34))
      have hDB : ∀ x ∈ [B, V], x ≠ wr.heap.size := by have := hK.mine.pool.ltB; have := hK.mine.pool.ltV; simp; omega
      have hDI : I ≠ wr.heap.size := by have := hK.ltI; omega
      clear hK z0 z1 z2 z3 z4 z5 z6
      generalize wr.alloc (.cells #[.int .i64 d, .int .i64 ii, .int .i64 a, .int .i64 bb, .bool c, .int .i64 dd, .int .u64 e] 34) = wy at *
      generalize wr.heap.size = D at *
      clear x0
      go_cut [9] from 38 to 177 (fun lv wx => ∃ (z : Int) (T : List (Option Sud)) (F : List Nat) (H : List Sud), lv = .int .i64 z ∧ Kept w wx B V (q + 1) G I (q + 1) T F H ∧ LastOk z F)
      case first =>
        have htl := hK1.tl
        by_cases e0 : d = 0
        · subst e0
          cases F with
          | nil =>
            go_wp2_with fail
            refine (m_full (a, bb, c, dd, e) _ hK1.mine rfl).mono ?_
            rintro e9 wa ⟨rfl, hM, hg⟩
            have hK2 := hK1.fresh hg
            clear hg hK1
            go_wp2_with fail
            refine (pt_free _ hM.pool).mono ?_
            rintro e9 wb ⟨rfl, m, rfl⟩
            rw [List.length_nil]
            go_wp2_with fail
            go_meet
            case rel => exact ⟨z, T, [], H, rfl, hK2.drewN m, hZ⟩
          | cons k F' =>
            have hfree := hK1.mine.pool.some k (by simp)
            have hkT : k < T.length := (List.getElem?_eq_some_iff.1 hfree).1
            have hkq : k < q + 1 := by omega
            have k0 : (0 : Int) ≤ (k : Int) := by omega
            have k1 : decide ((k : Int) < 0) = false := by simp
            have k2 : decide ((q : Int) < (k : Int)) = false := by simp; omega
            have k2' : ¬ (q : Int) < (k : Int) := by omega
            have k3 : (k : Int) < 40 := by omega
            obtain ⟨⟨h1, h2, h3, h4, h5⟩, hh⟩ : ∃ h, H[k]? = some h := ⟨_, List.getElem?_eq_getElem (by rw [hK1.hl]; omega)⟩
            go_wp2_with fail
            refine (m_take (i := k) (T' := T.set k (some (a, bb, c, dd, e))) (a, bb, c, dd, e) _ hK1.mine rfl rfl).mono ?_
            rintro e9 wa ⟨rfl, hM, hg⟩
            obtain ⟨g1, g2, i1, i2, gi⟩ := hK1.apart
            have r1 := hK1.is.but hg (by simp [i1, i2])
            have r2 := hK1.has.but hg (by simp [g1, g2])
            have cI := Bools.at r1 (marks40_get T (show k < 40 by omega))
            rw [tk_some hfree] at cI
            have fI := r1.frozen k
            have v0 : World.cell? _ ⟨G, k * 5, none⟩ = _ := r2.cell hh (j := 0) (by omega)
            have v1 := r2.cell hh (j := 1) (by omega)
            have v2 := r2.cell hh (j := 2) (by omega)
            have v3 := r2.cell hh (j := 3) (by omega)
            have v4 := r2.cell hh (j := 4) (by omega)
            simp only [sudV, List.getElem?_cons_zero, List.getElem?_cons_succ, Option.isSome_none] at v0 v1 v2 v3 v4 cI
            have fG0 := r2.frozen (k * 5)
            have fG1 := r2.frozen (k * 5 + 1)
            have fG2 := r2.frozen (k * 5 + 2)
            have fG3 := r2.frozen (k * 5 + 3)
            have fG4 := r2.frozen (k * 5 + 4)
            have u2 := hg.keeps x2 hDB
            have u3 := hg.keeps x3 hDB
            have u4 := hg.keeps x4 hDB
            have u5 := hg.keeps x5 hDB
            have u6 := hg.keeps x6 hDB
            have hK3 := Lib.hid (hK1.took a bb c dd e hM hg)
            clear hK1 hM hg r1 r2 hh hfree x1 x2 x3 x4 x5 x6 g1 g2 i1 i2
            rcases hZ with rfl | ⟨k', F'', rfl, hF⟩
            · go_wp2_with fail
              go_meet
              case rel => exact ⟨-1, _, _, _, rfl, hK3.out, .inl rfl⟩
            · obtain ⟨rfl, rfl⟩ := List.cons.inj hF
              clear hF
              have k4 : decide ((0 : Int) ≤ (k : Int)) = true := by simp
              have k5 : ((k : Int) != (k : Int)) = false := by simp
              go_wp2_with fail
              go_meet
              case rel => exact ⟨-1, _, _, _, rfl, hK3.out, .inl rfl⟩
        by_cases e1 : d = 1
        · subst e1
          cases hh : heldAt T ii with
          | none =>
            go_wp2_with fail
            refine (pt_give_not (i := ii) _ hK1.mine.pool hh).mono ?_
            rintro e9 wa ⟨rfl, rfl⟩
            go_wp2_with fail
            go_meet
            case rel => exact ⟨z, T, F, H, rfl, hK1, hZ⟩
          | some x =>
            obtain ⟨k, rfl, hk⟩ := held_nat hh
            have hkT : k < T.length := (List.getElem?_eq_some_iff.1 hk).1
            have hkq : k < q + 1 := by omega
            have k0 : (0 : Int) ≤ (k : Int) := by omega
            have k1 : decide ((k : Int) < 0) = false := by simp
            have k2 : decide ((q : Int) < (k : Int)) = false := by simp; omega
            have k2' : ¬ (q : Int) < (k : Int) := by omega
            have k3 : (k : Int) < 40 := by omega
            go_wp2_with fail
            refine (m_give (i := k) (T' := T.set k none) _ hK1.mine hk rfl rfl).mono ?_
            rintro e9 wa ⟨rfl, hM, hg⟩
            obtain ⟨g1, g2, i1, i2, gi⟩ := hK1.apart
            have r1 := hK1.is.but hg (by simp [i1, i2])
            have cI := Bools.at r1 (marks40_get T (show k < 40 by omega))
            rw [tk_some hk] at cI
            simp only [Option.isSome_some] at cI
            have fI := r1.frozen k
            have u1 := hg.keeps x1 hDB
            have hK3 := Lib.hid (hK1.gave hkT hM hg)
            clear hK1 hM hg r1 hh hk x1 x2 x3 x4 x5 x6 g1 g2 i1 i2 hZ
            go_wp2_with fail
            go_meet
            case rel => exact ⟨(k : Int), _, _, _, rfl, hK3.out, .inr ⟨k, F, rfl, rfl⟩⟩
        · go_wp2_with fail
          go_meet
          case rel => exact ⟨z, T, F, H, rfl, hK1, hZ⟩
      case rest =>
        obtain ⟨z', T', F', H', rfl, hK2, hZ'⟩ := hcut
        clear hK1 hZ x1 x2 x3 x4 x5 x6 hDB hDI
        obtain ⟨wo, rfl⟩ : ∃ wo : World, wo = wc := ⟨_, rfl⟩
        have htl := hK2.tl
        have hsum := hK2.mine.pool.sum
        go_upto_region 32 with fail
        go_loopw [14, 15] (fun cv kv wr => ∃ k : Nat, k ≤ 40 ∧ cv = .int .i64 (cntTo T' k : Int) ∧ kv = .int .i64 (k : Int) ∧ Kept w wr B V (q + 1) G I (q + 1) T' F' H') (fun _ kv _ => 40 - (intOf kv).toNat)
        case atStart => exact ⟨0, by omega, rfl, rfl, hK2⟩
        case round =>
          clear hK2
          obtain ⟨k, hk, rfl, rfl, hK3⟩ := hrel
          by_cases hk40 : k < 40
          · have hk40' : (k : Int) < 40 := by omega
            have k0 : (0 : Int) ≤ (k : Int) := by omega
            have hof := pt_of (k : Int) wr hK3.mine.pool
            have hcl := cntTo_le T' k
            cases ht : tk T' k with
            | true =>
              obtain ⟨⟨a1, a2, a3, a4, a5⟩, hx⟩ := tk_get ht
              have hr := hK3.rel k _ hx
              have hcn := Lib.hid (cntTo_hit ht)
              rw [held_of hx] at hof
              simp only [Option.getD_some, Option.isSome_some, sudA] at hof
              obtain ⟨cn, hcq⟩ : ∃ cn, cn = cntTo T' k := ⟨_, rfl⟩
              rw [← hcq] at hcl hcn ⊢
              clear hcq hsum
              go_wp2_with fail
              refine hof.mono ?_
              rintro e9 wa ⟨rfl, hg⟩
              have hK4 := (hK3.fresh hg).fresh ((But.refl [] wa).alloc (.cells #[.int .i64 a1, .int .i64 a2, .bool a3, .int .i64 a4, .int .u64 a5] 32))
              have cI := Bools.at hK4.is (marks40_get T' hk40)
              rw [ht] at cI
              have v0 : World.cell? _ ⟨G, k * 5, none⟩ = _ := hK4.has.cell hr (j := 0) (by omega)
              have v1 := hK4.has.cell hr (j := 1) (by omega)
              have v2 := hK4.has.cell hr (j := 2) (by omega)
              have v3 := hK4.has.cell hr (j := 3) (by omega)
              have v4 := hK4.has.cell hr (j := 4) (by omega)
              simp only [sudV, List.getElem?_cons_zero, List.getElem?_cons_succ] at v0 v1 v2 v3 v4
              have H4 := Lib.hid hK4
              clear hK4 hK3 hg hr hof hx ht
              go_wp2_with fail
              go_quiet (fail)
              go_wp2_with fail
              go_roundw
              case rel => exact ⟨k + 1, by omega, by rw [hcn.out]; go_num, by go_num, H4.out.drewN nq⟩
              case measure => simp [intOf]; omega
            | false =>
              have hcn := Lib.hid (cntTo_miss ht)
              have hno : heldAt T' (k : Int) = none := by
                have := held_tk T' k
                rw [ht] at this
                cases hq : heldAt T' (k : Int) with
                | none => rfl
                | some x => rw [hq] at this; cases this
              rw [hno] at hof
              simp only [Option.getD_none, Option.isSome_none, sudA, zeroS] at hof
              obtain ⟨cn, hcq⟩ : ∃ cn, cn = cntTo T' k := ⟨_, rfl⟩
              rw [← hcq] at hcl hcn ⊢
              clear hcq hsum
              go_wp2_with fail
              refine hof.mono ?_
              rintro e9 wa ⟨rfl, hg⟩
              have hK4 := (hK3.fresh hg).fresh ((But.refl [] wa).alloc (.cells #[.int .i64 0, .int .i64 0, .bool false, .int .i64 0, .int .u64 0] 32))
              have cI := Bools.at hK4.is (marks40_get T' hk40)
              rw [ht] at cI
              have H4 := Lib.hid hK4
              clear hK4 hK3 hg hof ht hno
              go_wp2_with fail
              go_quiet (fail)
              go_wp2_with fail
              go_roundw
              case rel => exact ⟨k + 1, by omega, by rw [hcn.out], by go_num, H4.out.drewN nq⟩
              case measure => simp [intOf]; omega
          · obtain rfl : k = 40 := by omega
            have hc40 : cntTo T' 40 = cntTo T' T'.length := by
              have := cntTo_beyond T' (40 - T'.length)
              rwa [show T'.length + (40 - T'.length) = 40 by omega] at this
            have hlen := fun w h => pt_len (B := B) (V := V) (cap := q + 1) (T := T') (F := F') w h
            rw [hc40]
            obtain ⟨cn, hcq⟩ : ∃ cn, cn = cntTo T' T'.length := ⟨_, rfl⟩
            rw [← hcq] at hsum hlen ⊢
            have hc1 : cn ≤ 40 := by omega
            have hc2 : F'.length ≤ 40 := by omega
            have hc3 : ((cn : Int) != (cn : Int)) = false := by simp
            have hc4 : (cn : Int) + (F'.length : Int) = 1 + (q : Int) := by omega
            have hc5 : IntKind.i64.wrap ((cn : Int) + (F'.length : Int)) = 1 + (q : Int) := by rw [IntKind.wrap_i64]; omega
            have hc6 : (1 + (q : Int) != 1 + (q : Int)) = false := by simp
            clear hcq hc40 hsum htl
            go_wp2_with fail
            refine (hlen _ hK3.mine.pool).mono ?_
            rintro e9 wa ⟨rfl, rfl⟩
            go_wp2_with fail
            refine (hlen _ hK3.mine.pool).mono ?_
            rintro e9 wa ⟨rfl, rfl⟩
            go_wp2_with fail
            refine (pt_free _ hK3.mine.pool).mono ?_
            rintro e9 wa ⟨rfl, m, rfl⟩
            have hK5 := hK3.drewN m
            clear hK3 hlen
            go_wp2_with fail
            go_roundw
            case rel => exact ⟨j + 1, z', T', F', H', by omega, by go_num, rfl, hK5, hZ'⟩
            case measure => simp [intOf]; omega
    · obtain rfl : j = ss.length := by omega
      have hlt' : ¬ (ss.length : Int) < (ss.length : Int) := by omega
      have hBl := hK.mine.below
      clear hc hK
      go_wp2_with fail
      refine (alive_any _).mono ?_
      rintro e wz ⟨rfl, hbz⟩
      have hB' := below_next hBl hbz
      clear hBl hbz
      go_wp2_with fail
      go_ret
      exact ⟨rfl, hB'⟩
end Go.Proofs.Ytmllalmdaobboaa
