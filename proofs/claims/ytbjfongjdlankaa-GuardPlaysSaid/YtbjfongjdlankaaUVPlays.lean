/-
  The walk of the law GuardPlays.
-/
import Derived.Deep.CutRange
import Derived.Deep.RegionLaw
import Derived.Deep.Light
import Derived.Test.YtbjfongjdlankaaUVPlaysM
namespace Go.Proofs.Ytbjfongjdlankaa
open Go.RowKit

set_option maxRecDepth 100000 in
set_option maxHeartbeats 3200000 in
theorem plays_law (p : Option Addr) (N cap : Nat) (ss : Nat → Stp) (w : World) (hS : Steps w p N ss) :
    Calls Try.prog 3 #[.slice p N cap] w fun e w' => e = .returned (.bool true) ∧ But [] w w' := by
  obtain ⟨i1, hi1, hu0, hu1, hu2⟩ := info_parts infoU64
  obtain ⟨i2, hi2, hv0, hv1, hv2⟩ := info_parts infoP1
  obtain ⟨i3, hi3, hw0, hw1, hw2⟩ := info_parts infoP2
  have HS := Lib.hid hS
  clear hS
  go_enter Try.func3, Try.ntmps3
  go_wp2_with fail
  go_loop [3, 4] (fun nv iv => ∃ i s : Nat, i ≤ N ∧ i ≤ 400 ∧ iv = .int .i64 (i : Int) ∧ nv = .int .i64 (s : Int) ∧ Hid (s = tot (fun j => (ss j).l.length) i)) (fun _ iv => N - (intOf iv).toNat)
  case atStart => exact ⟨0, 0, Nat.zero_le _, Nat.zero_le _, rfl, rfl, Lib.hid rfl⟩
  case round =>
    obtain ⟨i, s, hiN, hi4, rfl, rfl, hs⟩ := hrel
    have hs2 : s ≤ 17592186044416 * i := by rw [hs.out]; exact rows_le fun j hj => (HS.out j (by omega)).2
    by_cases hlt : i < N ∧ i < 400
    · have hlt' : (i : Int) < (N : Int) := by omega
      have hlt4 : (i : Int) < 400 := by omega
      obtain ⟨⟨b, off, rfl, a, kap, hst⟩, hlen⟩ := HS.out i hlt.1
      have hc := hst.l
      have hsn := Lib.hid (show s + (ss i).l.length = tot (fun j => (ss j).l.length) (i + 1) by rw [hs.out]; rfl)
      obtain ⟨x, hx⟩ : ∃ x, x = (ss i).l.length := ⟨_, rfl⟩
      rw [← hx] at hc hlen hsn
      clear hst hx
      go_wp2_with fail
      go_round
      case rel => exact ⟨i + 1, s + x, by omega, by omega, by go_num, by go_num, hsn⟩
      case measure => simp [intOf]; omega
    · by_cases hN3 : 300 < N
      · have t1 : decide ((300 : Int) < (N : Int)) = true := decide_eq_true (by omega)
        have t1' : (300 : Int) < (N : Int) := by omega
        by_cases hiN2 : i < N
        · have hlt' : (i : Int) < (N : Int) := by omega
          have hlt4 : ¬ (i : Int) < 400 := by omega
          go_wp2_with fail
          refine (alive_any _).mono ?_
          rintro e w1 ⟨rfl, hb⟩
          go_wp2_with fail
          go_ret
          exact ⟨rfl, hb⟩
        · have hlt' : ¬ (i : Int) < (N : Int) := by omega
          go_wp2_with fail
          refine (alive_any _).mono ?_
          rintro e w1 ⟨rfl, hb⟩
          go_wp2_with fail
          go_ret
          exact ⟨rfl, hb⟩
      · have t1 : decide ((300 : Int) < (N : Int)) = false := decide_eq_false (by omega)
        have t1' : ¬ (300 : Int) < (N : Int) := by omega
        obtain rfl : N = i := by omega
        have hlt' : ¬ (N : Int) < (N : Int) := by omega
        by_cases hs20 : 2000 < s
        · have t2 : decide ((2000 : Int) < (s : Int)) = true := decide_eq_true (by omega)
          have t2' : (2000 : Int) < (s : Int) := by omega
          go_wp2_with fail
          refine (alive_any _).mono ?_
          rintro e w1 ⟨rfl, hb⟩
          go_wp2_with fail
          go_ret
          exact ⟨rfl, hb⟩
        · have t2 : decide ((2000 : Int) < (s : Int)) = false := decide_eq_false (by omega)
          have t2' : ¬ (2000 : Int) < (s : Int) := by omega
          have hrow : Hid (∀ j, j < N → (ss j).l.length ≤ 2000) := Lib.hid fun j hj => by have := row_le (ss := ss) hj; rw [← hs.out] at this; omega
          clear hs hs2 hlt
          go_wp2_with fail
          refine (nothing_any _).mono ?_
          rintro e w1 ⟨rfl, hb1⟩
          go_wp2_with fail
          refine (made_any _).mono ?_
          rintro e w2 ⟨B, V, L, P, Q, rfl, hK⟩
          clear t2 t2' hs20
          go_upto_region 13 with (at_make; refine wpList_make_full _ rfl _ _ 32 rfl w2.heap.size 33 i1 (.int .u64 0) 1 Try.underlying32 hi1 hu0 hu1 .i64 .i64 _ _ 20 rfl rfl rfl rfl (by rw [hu2]; omega) (by unfold maxLen; omega) (Nat.le_refl _) ?_; intro w3 hown3 hgrow3)
          obtain ⟨hrc, hrl, hb3⟩ := ref_first hgrow3 hown3
          have hMsz : w2.heap.size ≤ w3.heap.size := hgrow3.size
          have hK5 := (hK.fresh hb3)
          have hgV : w2.heap.size ≠ V := by have := hK.cels.ltV; omega
          have hw12 := hK.but.size
          have hw01 := hb1.size
          have HM := Lib.hid (And.intro hgV (And.intro hMsz (And.intro hw12 hw01)))
          clear hown3 hgrow3 hMsz hgV hw12 hw01 hi1 hu0 hu1 hu2 hK hb3
          generalize (w3.alloc (.cells #[.slice (some ⟨w2.heap.size, 0, none⟩) 20 20, .int .u64 0] 35)).alloc (.cells #[.pointer (some ⟨w3.heap.size, 0, none⟩), .int .i64 4, .int .i64 6] 38) = w5 at hrc hrl hK5 ⊢
          generalize w3.heap.size = M at hrc hrl HM ⊢
          generalize w2.heap.size = g0 at hrc HM
          generalize hY : M + 1 = Y at hrl ⊢
          go_upto_region 14 with (at_make; refine wpList_make_full _ rfl _ _ 39 rfl w5.heap.size 41 i2 (.pointer none) 1 Try.underlying39 hi2 hv0 hv1 .i64 .i64 _ _ 3 rfl rfl rfl rfl (by rw [hv2]; omega) (by unfold maxLen; omega) (Nat.le_refl _) ?_; intro w6 hown6 hgrow6)
          have hb6 := But.of_none hgrow6 []
          have hT6 : ArrF w6 w5.heap.size 41 3 (PtrN 0 fun _ => 0) := by rw [PtrN.zero]; exact ArrF.made rfl hown6
          have hK6 := hK5.fresh hb6
          have hrc6 := hrc.but hb6 (by simp) (by simp)
          have hrl6 := hrl.but hb6 (by simp)
          have HT := Lib.hid hK5.but.size
          clear hown6 hgrow6 hK5 hrc hrl hb6 hi2 hv0 hv1 hv2
          generalize w5.heap.size = T at hT6 HT ⊢
          go_upto_region 15 with (at_make; refine wpList_make_full _ rfl _ _ 40 rfl w6.heap.size 45 i3 (.pointer none) 1 Try.underlying40 hi3 hw0 hw1 .i64 .i64 _ _ 3 rfl rfl rfl rfl (by rw [hw2]; omega) (by unfold maxLen; omega) (Nat.le_refl _) ?_; intro w7 hown7 hgrow7)
          have hb7 := But.of_none hgrow7 []
          have hU7 : ArrF w7 w6.heap.size 45 3 (PtrN 0 fun _ => 0) := by rw [PtrN.zero]; exact ArrF.made rfl hown7
          have hT7 := hT6.but hb7 (by simp)
          have hK7 := hK6.fresh hb7
          have hrc7 := hrc6.but hb7 (by simp) (by simp)
          have hrl7 := hrl6.but hb7 (by simp)
          have HU := Lib.hid hK6.but.size
          clear hown7 hgrow7 hK6 hrc6 hrl6 hT6 hb7 hi3 hw0 hw1 hw2
          generalize w6.heap.size = U at hU7 HU ⊢
          have hD : Duel w1 w7 L P Q B V Y M T U 0 (fun _ => 0) (fun _ => 0) (fun _ => Gs.none) (fun _ => Gs.none) zeros zeros 0 0 :=
            ⟨hK7, hrl7, ⟨g0, hrc7, HM.out.1⟩, rfl, fun i hi => by omega, fun i j hi => by omega, ⟨by have := HM.out; omega, fun i hi => by omega⟩, hT7, hU7, ⟨HT.out, HU.out⟩⟩
          clear hK7 hrl7 hrc7 hT7 hU7 HM HT HU hY
          go_wp2_with fail
          go_loopw [11] (fun iv wr => ∃ (i : Nat) (gs rs : Nat → Nat), i ≤ 3 ∧ iv = .int .i64 (i : Int) ∧ Duel w1 wr L P Q B V Y M T U i gs rs (fun _ => Gs.none) (fun _ => Gs.none) zeros zeros 0 0) (fun iv _ => 3 - (intOf iv).toNat)
          case atStart => exact ⟨0, _, _, Nat.zero_le _, rfl, hD⟩
          case round =>
            clear hD
            obtain ⟨i, gs, rs, hi3, rfl, hD⟩ := hrel
            by_cases hlt3 : i < 3
            · have hlt3' : (i : Int) < 3 := by omega
              go_wp2_with fail
              refine (gnew_any L _).mono ?_
              rintro e wa ⟨G, rfl, hG, hle, hba⟩
              have hDa := hD.fresh hba
              have x1 := hDa.gt.cell hlt3
              have f1 := hDa.gt.frozen i
              have hTU : ¬ U = T := (type_ne hDa.ut hDa.gt (by decide))
              have x2 := hDa.ut.cell hlt3
              have f2 := hDa.ut.frozen i
              have hDm := hD.more hG hba hle
              rw [show upd (fun _ => Gs.none) i Gs.none = fun _ => Gs.none from upd_id _ _] at hDm
              have hsT : T < wa.heap.size := hDa.gt.lt
              have hsU : U < wa.heap.size := hDa.ut.lt
              clear hD hDa hG hba hle
              go_wp2_with fail
              case roundEnd =>
                rw [World.setCell_alloc_past _ _ _ _ (by simpa [World.setCell] using hsU)] at hDm
                refine ⟨⟨i + 1, _, _, by omega, by go_num, hDm⟩, ?_⟩
                simp [intOf]; omega
            · have hlt3' : ¬ (i : Int) < 3 := by omega
              obtain rfl : i = 3 := by omega
              clear hlt3 hi3
              go_wp2_with fail
              obtain ⟨wo, rfl⟩ : ∃ wo : World, wo = wr := ⟨_, rfl⟩
              go_loopw [14] (fun iv wr => ∃ (j : Nat) (gs : Nat → Nat) (qs : Nat → Gs) (vs : List Nat) (c : Nat), j ≤ N ∧ iv = .int .i64 (j : Int) ∧ Duel w1 wr L P Q B V Y M T U 3 gs rs qs qs vs vs c c ∧ Hid (∀ i, i < 3 → Neat (qs i))) (fun iv _ => N - (intOf iv).toNat)
              case atStart => exact ⟨0, _, _, _, _, Nat.zero_le _, rfl, hD, Lib.hid fun i _ => Neat.none⟩
              case round =>
                clear hD gs
                obtain ⟨j, gs, qs, vs, c, hj, rfl, hD, hN⟩ := hrel
                by_cases hlt : j < N
                · have hlt' : (j : Int) < (N : Int) := by omega
                  obtain ⟨⟨b, off, rfl, ad, kap, hst⟩, -⟩ := HS.out j hlt
                  have hB0 := hb1.next hD.ks.but
                  have z0 := hB0.cell hst.d (by simp)
                  have z1 := hB0.cell hst.k (by simp)
                  have z2 := hB0.cell hst.l (by simp)
                  have zr := Lib.hid hst.row
                  have zl := Lib.hid (hrow.out j hlt)
                  clear hst hB0
                  generalize ss j = st at z0 z1 z2 zr zl
                  obtain ⟨d, k, l⟩ := st
                  have z0 : _ = some (Value.int .i64 d) := z0
                  have z1 : _ = some (Value.int .i64 k) := z1
                  have z2 : _ = some (Value.slice ad l.length kap) := z2
                  have zr : Hid (RowA w ad l) := zr
                  have zl : Hid (l.length ≤ 2000) := zl
                  obtain ⟨a, ha3, ha⟩ := mod_row k (m := 3) (by omega) (by omega)
                  replace ha3 : a < 3 := by omega
                  go_upto_region 27 with fail
                  have hb0 : But [] wr (wr.alloc (.cells #[.int .i64 d, .int .i64 k, .slice ad l.length kap] 25)) := (But.refl [] wr).alloc _
                  have hD1 := hD.fresh hb0
                  have hSb := World.alloc_heap_new wr (.cells #[.int .i64 d, .int .i64 k, .slice ad l.length kap] 25)
                  clear hD hb0 z0 z1 z2
                  generalize wr.alloc (.cells #[.int .i64 d, .int .i64 k, .slice ad l.length kap] 25) = wy at hD1 hSb ⊢
                  generalize wr.heap.size = D at hSb ⊢
                  obtain ⟨y0, y1, y2⟩ := step_cells hSb
                  have g1 := hD1.cellG ha3 ha3
                  have r1 := hD1.cellR ha3 ha3
                  have q0 : (0 : Int) ≤ (a : Int) := by omega
                  have q1 : (a : Int) < 3 := by omega
                  go_upto_region 28 with fail
                  rw [ha]
                  clear ha
                  go_quiet (fail)
                  go_upto_region 30 with fail
                  iterate 10 go_step
                  have hD2 := hD1.drewN nq
                  have hSb2 : (wy.drewN nq).heap[D]? = _ := hSb
                  clear hD1 hSb y0 y1 y2 g1 r1
                  generalize wy.drewN nq = wz at hD2 hSb2 ⊢
                  go_cut [19] from 94 to 230 (fun bv wx => ∃ (gs : Nat → Nat) (qs : Nat → Gs) (vs : List Nat) (c : Nat), bv = .bool true ∧ Duel w1 wx L P Q B V Y M T U 3 gs rs qs qs vs vs c c ∧ Hid (∀ i, i < 3 → Neat (qs i)))
                  case first =>
                    by_cases e0 : d = 0
                    · subst e0
                      have hs := d_step hD2 ha3
                      have HNs := Lib.hid (show Neat (stepS 4 6 vs (qs a)) from (hN.out a ha3).step (ks_len hD2.ks ha3).1)
                      obtain ⟨A, hA⟩ : ∃ A, A = stepA 4 6 vs (qs a) := ⟨_, rfl⟩
                      obtain ⟨E, hE⟩ : ∃ E, E = stepE (qs a) := ⟨_, rfl⟩
                      rw [← hA, ← hE] at hs
                      have HA := Lib.hid (And.intro hA hE)
                      have zA : (A == A) = true := by simp
                      have zE : (E == E) = true := by simp
                      clear hA hE hD2 hSb2
                      go_wp2_with fail
                      refine hs.mono ?_
                      rintro e wa ⟨rfl, hDa⟩
                      have hr := d_rstep hDa ha3
                      rw [← HA.out.1, ← HA.out.2] at hr
                      clear hs hDa
                      go_wp2_with fail
                      refine hr.mono ?_
                      rintro e wb ⟨rfl, hDb⟩
                      clear hr
                      go_wp2_with fail
                      go_meet
                      exact ⟨_, _, _, _, rfl, hDb, neat_upd hN HNs⟩
                    by_cases e1 : d = 1
                    · subst e1
                      have HNs := Lib.hid (show Neat (wantS 6 (qs a) l) from (hN.out a ha3).want)
                      have zl2 : l.length ≤ 4096 := by have h2 : l.length ≤ 2000 := zl.out; omega
                      obtain ⟨E, hE⟩ : ∃ E, E = wantE 6 (qs a) l := ⟨_, rfl⟩
                      have HE := Lib.hid hE
                      have zE : (E == E) = true := by simp
                      obtain ⟨ag, capg, hgd⟩ := hD2.ks.gd a ha3
                      obtain ⟨ar, capr, hrd⟩ := hD2.rg a ha3
                      have hDg : D ∉ [gs a] := by simpa using type_ne hSb2 hgd.head (by decide)
                      have hDr : D ∉ [rs a] := by simpa using type_ne hSb2 hrd.head (by decide)
                      have hDz := hD2.drew
                      have x0 : wz.drew.cell? ⟨D, 2, none⟩ = some (.slice ad l.length kap) := (step_cells hSb2).2.2
                      have hR0 := zr.out.but (hb1.next hDz.ks.but)
                      clear hgd hrd hE hD2 hSb2
                      go_wp2_with fail
                      go_region_held3 (fun w' => w'.cell? ⟨D, 2, none⟩ = some (.slice ad l.length kap))
                        (with_reducible first | (exact x0) | (exact xA) | (exact xB) | (exact xC))
                        ((first
                          | (refine step_app_nil _ _ rfl rfl rfl rfl hR0 zl2 ?_; intro b' kap' wA hRA hbA; have hDA := hDz.fresh hbA; have xA := hbA.cell x0 (by simp))
                          | (go_at_call 12; refine (d_want hDA ha3 hRA.any zl2).mono ?_; rintro e wB ⟨rfl, hDB, hbB⟩; have xB := hbB.cell xA hDg; have hRB := zr.out.but (hb1.next hDB.ks.but))
                          | (go_at_call 13; refine (d_rwant hDB ha3 hRB zl2).mono ?_; rintro e wC ⟨rfl, hDC, hbC⟩; have xC := hbC.cell xB hDr)))
                      all_goals go_wp2_with fail
                      all_goals go_meet
                      all_goals exact ⟨_, _, _, _, rfl, hDC, neat_upd hN HNs⟩
                    by_cases e2 : d = 2
                    · subst e2
                      have hs := d_give hD2 ha3
                      have HNs := Lib.hid (show Neat (giveS (qs a)) from (hN.out a ha3).give)
                      obtain ⟨A, hA⟩ : ∃ A, A = giveN (qs a) := ⟨_, rfl⟩
                      obtain ⟨E, hE⟩ : ∃ E, E = giveE (qs a) := ⟨_, rfl⟩
                      rw [← hA, ← hE] at hs
                      have HA := Lib.hid (And.intro hA hE)
                      have zA : ((A : Int) == (A : Int)) = true := by simp
                      have zE : (E == E) = true := by simp
                      clear hA hE hD2 hSb2
                      go_wp2_with fail
                      refine hs.mono ?_
                      rintro e wa ⟨rfl, hDa⟩
                      have hr := d_rgive hDa ha3
                      rw [← HA.out.1, ← HA.out.2] at hr
                      clear hs hDa
                      go_wp2_with fail
                      refine hr.mono ?_
                      rintro e wb ⟨rfl, hDb⟩
                      clear hr
                      go_wp2_with fail
                      go_meet
                      exact ⟨_, _, _, _, rfl, hDb, neat_upd hN HNs⟩
                    by_cases e3 : d = 3
                    · subst e3
                      obtain ⟨ar, capr, hrd⟩ := hD2.rg a ha3
                      have c2 := hrd.c2
                      have c4 := hrd.c4
                      have r1 := hD2.cellR ha3 ha3
                      have g1 := hD2.cellG ha3 ha3
                      clear hrd hSb2
                      by_cases h0 : (qs a).h = 0
                      · have t0 : (((qs a).h : Int) == 0) = true := by rw [h0]; rfl
                        cases hd : (qs a).d with
                        | false =>
                          rw [hd] at c4
                          have hcp := d_copy hD2 ha3
                          have hfz := hD2.gt.frozen a
                          have hlT := hD2.gt.lt
                          clear hd h0 hD2
                          go_wp2_with fail
                          refine hcp.mono ?_
                          rintro e wa ⟨G, rfl, hba, hDa⟩
                          have x1 := hba.cell g1 (by simp)
                          have f1 := hba.frozen hfz hlT (by simp)
                          clear hcp
                          go_wp2_with fail
                          go_meet
                          exact ⟨_, _, _, _, rfl, hDa, hN⟩
                        | true =>
                          rw [hd] at c4
                          clear hd h0
                          go_wp2_with fail
                          go_meet
                          exact ⟨_, _, _, _, rfl, hD2, hN⟩
                      · have t0 : (((qs a).h : Int) == 0) = false := by simp; omega
                        clear h0
                        go_wp2_with fail
                        go_meet
                        exact ⟨_, _, _, _, rfl, hD2, hN⟩
                    have t0 : (d == 0) = false := by simpa using e0
                    have t1 : (d == 1) = false := by simpa using e1
                    have t2 : (d == 2) = false := by simpa using e2
                    have t3 : (d == 3) = false := by simpa using e3
                    clear hSb2
                    go_wp2_with fail
                    go_meet
                    exact ⟨_, _, _, _, rfl, hD2, hN⟩
                  case rest =>
                    obtain ⟨gs', qs', vs', c', rfl, hD3, hN3⟩ := hcut
                    clear hD2 hSb2 hN
                    have g1 := hD3.cellG ha3 ha3
                    have cn := hD3.cellN
                    have cc : ((c' : Int) != (c' : Int)) = false := by simp
                    have p1 := fun m => ks_count (hD3.ks.drewN m)
                    go_wp2_with fail
                    go_quiet (first | (go_at_call 17; with_reducible exact Calls.quiet_of_same (p1 _)))
                    have hD4 := hD3.drewN nq
                    clear hD3 g1 cn cc p1
                    go_wp2_with fail
                    generalize wc.drewN nq = wq at hD4 ⊢
                    obtain ⟨wp, rfl⟩ : ∃ wp : World, wp = wq := ⟨_, rfl⟩
                    go_loopw [28] (fun kv wx => ∃ k : Nat, k ≤ 3 ∧ kv = .int .i64 (k : Int) ∧ Duel w1 wx L P Q B V Y M T U 3 gs' rs qs' qs' vs' vs' c' c') (fun kv _ => 3 - (intOf kv).toNat)
                    case atStart => exact ⟨0, Nat.zero_le _, rfl, hD4⟩
                    case round =>
                      clear hD4
                      obtain ⟨k, hk, rfl, hD⟩ := hrel
                      by_cases hk3 : k < 3
                      · have hk3' : (k : Int) < 3 := by omega
                        have k0 : (0 : Int) ≤ (k : Int) := by omega
                        have g1 := hD.cellG hk3 hk3
                        have r1 := hD.cellR hk3 hk3
                        have hsame := d_same hD.drew hk3 (hN3.out k hk3)
                        go_upto_region 49 with fail
                        refine wp_region_still_tail 8 (by kernel_rfl) (by kernel_rfl) ?_
                        simp only [List.take_succ_cons, List.take_zero, List.drop_succ_cons, List.drop_zero]
                        change wpStill _ _ wr.drew (fun a' => wpList _ _ _ _ a' wr.drew) _ _
                        repeat still_step
                        refine wpStill_nil ?_
                        have hDx := hD.drew
                        clear g1 r1 hD
                        go_wp2_with fail
                        refine hsame.mono ?_
                        rintro e wv ⟨rfl, hbv⟩
                        have hDv := hDx.fresh hbv
                        clear hsame hDx hbv
                        go_wp2_with fail
                        go_roundw
                        case rel => exact ⟨k + 1, by omega, by go_num, hDv⟩
                        case measure => simp [intOf]; omega
                      · have hk3' : ¬ (k : Int) < 3 := by omega
                        go_wp2_with fail
                        go_roundw
                        case rel => exact ⟨j + 1, _, _, _, _, by omega, by go_num, hD, hN3⟩
                        case measure => simp [intOf]; omega
                · have hlt' : ¬ (j : Int) < (N : Int) := by omega
                  have hB := hb1.next hD.ks.but
                  clear hD hN
                  go_wp2_with fail
                  refine (alive_any _).mono ?_
                  rintro e wz ⟨rfl, hbz⟩
                  have hB2 := hB.next hbz
                  clear hB hbz
                  go_wp2_with fail
                  go_ret
                  exact ⟨rfl, hB2⟩
theorem plays_walk (p : Option Addr) (N cap : Nat) (ss : Nat → Stp) (w : World) (hS : Steps w p N ss) :
    Calls Try.prog 3 #[.slice p N cap] w fun e w' => e = .returned (.bool true) ∧ Below w.heap.size w w' :=
  (plays_law p N cap ss w hS).mono fun _ _ h => ⟨h.1, h.2.below (Nat.le_refl _) (by simp)⟩
end Go.Proofs.Ytbjfongjdlankaa
