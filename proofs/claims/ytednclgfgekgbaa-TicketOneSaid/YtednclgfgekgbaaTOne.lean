/-
  The walk of the law TicketOne.
-/
import Derived.Deep.CutRange
import Derived.Deep.Light
import Derived.Test.YtednclgfgekgbaaTOneM
namespace Go.Proofs.Ytednclgfgekgbaa
open Go.RowKit

set_option maxRecDepth 100000 in
set_option maxHeartbeats 2000000 in
theorem one_loop (f b off cap : Nat) (xs : List Nat) (hf : f < 65536) (w : World) (hl : xs.length ≤ 600) (h0 : 0 < xs.length)
    (hc : ∀ j, j < xs.length → w.cell? ⟨b, off + j, none⟩ = some (.int .u8 (xs[j]?.getD 0 : Nat)) ∧ xs[j]?.getD 0 < 256) :
    Calls Try.prog 4 #[.int .u16 (f : Int), .slice (some ⟨b, off, none⟩) xs.length cap] w fun e w' => e = .returned (.bool true) ∧ Below w.heap.size w w' := by
  have hl1 : decide ((600 : Int) < (xs.length : Int)) = false := by simp; omega
  have hl2 : ¬ (600 : Int) < (xs.length : Int) := by omega
  obtain ⟨i0, hi, iz0, iz1, iz2⟩ := info_parts infoI64
  go_enter Try.func4, Try.ntmps4
  go_wp2_with fail
  refine (cell_new_at (n := 4) _ (Lib.hid rfl) (by omega) (by omega)).mono ?_
  rintro e w1 ⟨B, V, rfl, hC, hV, hB, hz⟩
  have hC1 : Cels w1 B V [0, 0, 0, 0] 0 := hC
  clear hC
  go_wp2_with fail
  refine (tnew_at (base := 0) (n := 2) _ hC1 (by omega) (by omega) (by simp) (Lib.hid ⟨rfl, rfl⟩)).mono ?_
  rintro e w2 ⟨L, P, Q, rfl, hL, hg⟩
  have hC2 := hC1.but hg (by simp) (by simp)
  have hz2 := hz.next hg
  clear hC1 hg hz
  go_wp2_with fail
  refine (write_at (y := f) (vs' := [0, 0, f, 0]) (c' := 1) _ hC2 (by omega) (by omega) (by omega) (Lib.hid ⟨rfl, rfl⟩)).mono ?_
  rintro e w3 ⟨rfl, hC3, hg⟩
  have hL3 := hL.cels hC2 hg
  have hz3 := hz2.own hg hB hV
  clear hC2 hg hz2 hL
  go_wp2_with fail
  refine (write_at (y := f) (vs' := [0, 0, f, f]) (c' := 2) _ hC3 (by omega) (by omega) (by omega) (Lib.hid ⟨rfl, rfl⟩)).mono ?_
  rintro e w4 ⟨rfl, hC4, hg⟩
  have hL4 := hL3.cels hC3 hg
  have hz4 := hz3.own hg hB hV
  clear hC3 hg hz3 hL3
  have hD := Lay.first hL4 hC4 hz4 hB hV
  obtain ⟨A, hA⟩ : ∃ A, A = w4.heap.size := ⟨_, rfl⟩
  rw [← hA] at hD
  clear hC4 hL4
  go_wp2_with fail
  rw [← hA]
  clear hA hz4
  go_loopw [10, 11, 12] (fun dv hv iv wr => ∃ (k : Nat) (D T : List Nat) (G H : Nat) (st tk : Nat → Nat) (pa ta : Option Addr) (pc tc : Nat), k ≤ xs.length ∧ D.length ≤ k ∧ iv = .int .i64 (k : Int) ∧ dv = .slice pa D.length pc ∧ hv = .slice ta T.length tc ∧ Lay w wr L P Q B V A (f + D.length) (f + G) (.slice pa D.length pc) (.slice ta T.length tc) st tk D T ∧ Line f st tk D G H ∧ Hid (T = D.take H)) (fun _ _ iv _ => xs.length - (intOf iv).toNat)
  case atStart => exact ⟨0, [], [], 0, 0, _, _, none, none, 0, 0, Nat.zero_le _, Nat.le_refl _, rfl, rfl, rfl, hD, Line.start f, Lib.hid rfl⟩
  case round =>
    clear hD
    obtain ⟨k, D, T, G, H, st, tk, pa, ta, pc, tc, hk, hDk, rfl, rfl, rfl, hM, hLn, HT⟩ := hrel
    by_cases hlt : k < xs.length
    · have hlt' : (k : Int) < (xs.length : Int) := by omega
      obtain ⟨hx, hx2⟩ := hc k hlt
      have hxc : wr.cell? ⟨b, off + k, none⟩ = some (.int .u8 (xs[k]?.getD 0 : Nat)) := hM.but.cell hx (by simp)
      clear hx hc
      obtain ⟨q, hq⟩ : ∃ q, xs[k]?.getD 0 = q := ⟨_, rfl⟩
      rw [hq] at hxc hx2
      clear hq
      obtain ⟨n, hn⟩ : ∃ n, n = q % 7 := ⟨_, rfl⟩
      have hn7 : n < 7 := by omega
      have hm1 : ((q : Int) % 7) = (n : Int) := by omega
      have hm2 : ((q : Int).tmod 7) = (n : Int) := by rw [Int.tmod_eq_emod_of_nonneg (by omega)]; omega
      clear hn
      have hcS := hM.who.cellS hn7
      obtain ⟨s, hs⟩ : ∃ s, st n = s := ⟨_, rfl⟩
      rw [hs] at hcS
      have hs2 : s ≤ 2 := by have := hLn.most n hn7; omega
      have HS := Lib.hid hs
      clear hs
      go_upto_region 15 with fail
      clear hm1 hm2
      iterate 16 go_step
      clear hcS hxc
      go_cut [10, 11] from 54 to 160 (fun dv hv wx => ∃ (D T : List Nat) (G H : Nat) (st tk : Nat → Nat) (pa ta : Option Addr) (pc tc : Nat), D.length ≤ k + 1 ∧ dv = .slice pa D.length pc ∧ hv = .slice ta T.length tc ∧ Lay w wx L P Q B V A (f + D.length) (f + G) (.slice pa D.length pc) (.slice ta T.length tc) st tk D T ∧ Line f st tk D G H ∧ Hid (T = D.take H))
      case first =>
        have hsz := hM.but.size
        have hGD : G ≤ D.length := Nat.le_trans hLn.gh hLn.hd
        have hTl : T.length ≤ D.length := by rw [HT.out]; simp; omega
        obtain ⟨c, hC⟩ := hM.cels
        by_cases e0 : s = 0
        · subst e0
          go_wp2_with fail
          refine (draw4 _ hM.lks hC (by omega)).mono ?_
          rintro e wa ⟨rfl, ⟨c', hC'⟩, hg⟩
          have hM1 := hM.step hC' hg
          have hLn1 := hLn.draw hn7 HS.out
          have hLn1hd := hLn.hd
          have z0 := hM1.who.cellS hn7
          have z1 := hM1.who.cellT hn7
          have z2 := hM1.who.frozen (n * 2)
          have z3 := hM1.who.frozen (n * 2 + 1)
          clear hM hLn hC hC' hg
          have hM2 : Lay w ((wa.setCell ⟨A, n * 2, none⟩ (.int .i64 1)).setCell ⟨A, n * 2 + 1, none⟩ (.int .u16 (tick (f + D.length) : Int))) L P Q B V A (f + D.length + 1) (f + G) (.slice pa D.length pc) (.slice ta T.length tc) (upd st n 1) (upd tk n (tick (f + D.length))) D T := hM1.set hn7 1 (tick (f + D.length))
          clear hM1
          go_wp2_with (at_builtin; refine wpList_append_own_at _ rfl _ _ 56 rfl w.heap.size 3 i0 (.int .i64 0) 1 8 Try.underlying56 hi iz0 iz1 iz2 rfl (by decide) _ D.length (I64N D) rfl (hM2.drew.alloc _) ⟨_, 0, none⟩ 1 1 [.int .i64 (n : Int)] rfl rfl ?c1 ?c2 ?c3 ?c4 ?c5 ?_)
          case c1 => exact cell_new2 _ _ _ _ _ _ _
          case c2 => first | rfl | (intro y hy; simp at hy; subst hy; rfl)
          case c3 => unfold maxLen; omega
          case c4 => omega
          try (case c5 => first | exact Nat.le_refl _ | omega | (have := hM2.but.size; simp; simp at this; omega))
          intro v' wb hown' hgrow _ hat
          obtain ⟨g', cap', rfl⟩ := ownsRow_succ hown'
          have hM3 := hM2.putD hown' hgrow (by rw [size_set2]; exact hat)
          clear hown' hgrow hat hM2 z0 z1 z2 z3
          go_wp2_with fail
          go_meet
          case rel => exact ⟨D ++ [n], T, G, H, _, _, some ⟨g', 0, none⟩, ta, cap', tc, by simp; omega, by simp, rfl, by simpa [Nat.add_assoc] using hM3, hLn1, Lib.hid (by rw [HT.out, List.take_append_of_le_length hLn1hd])⟩
        by_cases e1 : s = 1
        · subst e1
          have z1 := hM.who.cellT hn7
          by_cases ht : tick (f + G) = tk n
          · obtain ⟨hH, hGn, hLn1⟩ := hLn.mine hn7 HS.out (by omega) ht
            have HX : Hid (decide (tick (f + G) = tk n) = true) := Lib.hid (decide_eq_true ht)
            have HG := Lib.hid hGn
            clear ht hGn
            go_wp2_with fail
            refine (mine4 (tk n) _ hM.lks hC HX).mono ?_
            rintro e wa ⟨rfl, ⟨c', hC'⟩, hg⟩
            have hM1 := hM.step hC' hg
            have y0 := hM1.who.cellS hn7
            have y1 := hM1.who.cellT hn7
            have y2 := hM1.who.frozen (n * 2)
            have y3 := hM1.who.frozen (n * 2 + 1)
            clear hM hLn hC hC' hg HX z1
            have hM2 : Lay w ((wa.setCell ⟨A, n * 2, none⟩ (.int .i64 2)).setCell ⟨A, n * 2 + 1, none⟩ (.int .u16 (tk n : Int))) L P Q B V A (f + D.length) (f + G) (.slice pa D.length pc) (.slice ta T.length tc) (upd st n 2) (upd tk n (tk n)) D T := hM1.set hn7 2 (tk n)
            clear hM1
            go_wp2_with (at_builtin; refine wpList_append_own_at _ rfl _ _ 56 rfl w.heap.size 3 i0 (.int .i64 0) 1 8 Try.underlying56 hi iz0 iz1 iz2 rfl (by decide) _ T.length (I64N T) rfl (hM2.had.alloc _) ⟨_, 0, none⟩ 1 1 [.int .i64 (n : Int)] rfl rfl ?c1 ?c2 ?c3 ?c4 ?c5 ?_)
            case c1 => exact cell_new2 _ _ _ _ _ _ _
            case c2 => first | rfl | (intro y hy; simp at hy; subst hy; rfl)
            case c3 => unfold maxLen; omega
            case c4 => omega
            try (case c5 => first | exact Nat.le_refl _ | omega | (have := hM2.but.size; simp; simp at this; omega))
            intro v' wb hown' hgrow _ hat
            obtain ⟨g', cap', rfl⟩ := ownsRow_succ hown'
            have hM3 := hM2.putH hown' hgrow (by rw [size_set2]; exact hat)
            clear hown' hgrow hat hM2 y0 y1 y2 y3
            go_wp2_with fail
            go_meet
            case rel => exact ⟨D, T ++ [n], G, G + 1, _, _, pa, some ⟨g', 0, none⟩, pc, cap', by omega, rfl, by simp, by simpa using hM3, by rw [upd_id]; exact hLn1, Lib.hid (by rw [HT.out, hH]; exact take_snoc_of HG.out)⟩
          · have HX : Hid (decide (tick (f + G) = tk n) = false) := Lib.hid (decide_eq_false ht)
            clear ht
            go_wp2_with fail
            refine (mine4 (tk n) _ hM.lks hC HX).mono ?_
            rintro e wa ⟨rfl, ⟨c', hC'⟩, hg⟩
            have hM1 := hM.step hC' hg
            clear hM hC hC' hg HX z1
            go_wp2_with fail
            go_meet
            case rel => exact ⟨D, T, G, H, st, tk, pa, ta, pc, tc, by omega, rfl, rfl, hM1, hLn, HT⟩
        · obtain rfl : s = 2 := by omega
          obtain ⟨hH, hLn1⟩ := hLn.give hn7 HS.out
          have HH := Lib.hid hH
          clear hH
          go_wp2_with fail
          refine (give4 _ hM.lks hC (by omega)).mono ?_
          rintro e wa ⟨rfl, ⟨c', hC'⟩, hg⟩
          have hM1 := hM.step hC' hg
          have y0 := hM1.who.cellS hn7
          have y1 := hM1.who.cellT hn7
          have y2 := hM1.who.frozen (n * 2)
          have y3 := hM1.who.frozen (n * 2 + 1)
          clear hM hLn hC hC' hg
          have hM2 : Lay w ((wa.setCell ⟨A, n * 2, none⟩ (.int .i64 0)).setCell ⟨A, n * 2 + 1, none⟩ (.int .u16 0)) L P Q B V A (f + D.length) (f + G + 1) (.slice pa D.length pc) (.slice ta T.length tc) (upd st n 0) (upd tk n 0) D T := hM1.set hn7 0 0
          clear hM1
          go_wp2_with fail
          go_meet
          case rel => exact ⟨D, T, G + 1, H, _, _, pa, ta, pc, tc, by omega, rfl, rfl, by simpa [Nat.add_assoc] using hM2, hLn1, HT⟩
      case rest =>
        obtain ⟨D', T', G', H', st', tk', pa', ta', pc', tc', hD', rfl, rfl, hM', hLn', HT'⟩ := hcut
        clear hM hLn HT HS
        obtain ⟨wo, rfl⟩ : ∃ wo : World, wo = wc := ⟨_, rfl⟩
        have hGD := Nat.le_trans hLn'.gh hLn'.hd
        have hout := hLn'.out
        have hhold := hLn'.holders
        have hTl : T'.length = H' := by rw [HT'.out, List.length_take]; have := hLn'.hd; omega
        have hHD := hLn'.hd
        have hHG := hLn'.hg
        have hHG' := hLn'.gh
        go_upto_region 28 with fail
        go_loop [15, 16, 17] (fun hv ov jv => ∃ j : Nat, j ≤ 7 ∧ hv = .int .i64 (cnt (fun n => decide (st' n = 2)) j : Int) ∧ ov = .int .i64 (cnt (fun n => decide (st' n ≠ 0)) j : Int) ∧ jv = .int .i64 (j : Int)) (fun _ _ jv => 7 - (intOf jv).toNat)
        case atStart => exact ⟨0, by omega, rfl, rfl, rfl⟩
        case round =>
          obtain ⟨j, hj, rfl, rfl, rfl⟩ := hrel
          by_cases hj7 : j < 7
          · have hj7' : (j : Int) < 7 := by omega
            have hcS := hM'.who.cellS hj7
            have l1 := cnt_le (fun n => decide (st' n = 2)) j
            have l2 := cnt_le (fun n => decide (st' n ≠ 0)) j
            obtain ⟨s, hs⟩ : ∃ s, st' j = s := ⟨_, rfl⟩
            have hs2 : s ≤ 2 := by have := hLn'.most j hj7; omega
            have c1 : cnt (fun n => decide (st' n = 2)) (j + 1) = cnt (fun n => decide (st' n = 2)) j + (if s = 2 then 1 else 0) := by
              by_cases h : s = 2
              · rw [if_pos h]; exact cnt_hit (decide_eq_true (hs.trans h))
              · rw [if_neg h]; exact cnt_miss (decide_eq_false (fun e => h (hs.symm.trans e)))
            have c2 : cnt (fun n => decide (st' n ≠ 0)) (j + 1) = cnt (fun n => decide (st' n ≠ 0)) j + (if s = 0 then 0 else 1) := by
              by_cases h : s = 0
              · rw [if_pos h]; exact cnt_miss (decide_eq_false (fun e => e (hs.trans h)))
              · rw [if_neg h]; exact cnt_hit (decide_eq_true (fun e => h (hs.symm.trans e)))
            rw [hs] at hcS
            obtain ⟨h1, e1⟩ : ∃ x, x = cnt (fun n => decide (st' n = 2)) j := ⟨_, rfl⟩
            obtain ⟨h2, e2⟩ : ∃ x, x = cnt (fun n => decide (st' n ≠ 0)) j := ⟨_, rfl⟩
            rw [← e1] at c1 l1 ⊢
            rw [← e2] at c2 l2 ⊢
            have C1 := Lib.hid c1
            have C2 := Lib.hid c2
            clear hs e1 e2 c1 c2 hout hhold
            by_cases s0 : s = 0
            · subst s0
              go_wp2_with fail
              go_round
              case rel => exact ⟨j + 1, by omega, by rw [C1.out]; rfl, by rw [C2.out]; rfl, by go_num⟩
              case measure => simp [intOf]; omega
            by_cases s1 : s = 1
            · subst s1
              go_wp2_with fail
              go_round
              case rel => exact ⟨j + 1, by omega, by rw [C1.out]; rfl, by rw [C2.out]; go_num, by go_num⟩
              case measure => simp [intOf]; omega
            · obtain rfl : s = 2 := by omega
              go_wp2_with fail
              go_round
              case rel => exact ⟨j + 1, by omega, by rw [C1.out]; go_num, by rw [C2.out]; go_num, by go_num⟩
              case measure => simp [intOf]; omega
          · obtain rfl : j = 7 := by omega
            rw [hout, hhold]
            obtain ⟨o, ho⟩ : ∃ o, o = D'.length - G' := ⟨_, rfl⟩
            obtain ⟨h1, e1⟩ : ∃ x, x = H' - G' := ⟨_, rfl⟩
            rw [← ho, ← e1]
            have h1le : h1 ≤ 1 := by omega
            have HW : Hid (tick (minus (f + D'.length) (f + G')) = o) := Lib.hid (by unfold tick minus; omega)
            obtain ⟨x, hx1, hx2⟩ : ∃ x, decide (tick (minus (f + D'.length) (f + G')) = 0) = x ∧ ((o : Int) == 0) = x := by
              rw [HW.out]
              by_cases h : o = 0
              · exact ⟨true, decide_eq_true h, by simp [h]⟩
              · exact ⟨false, decide_eq_false h, by simp [h]⟩
            have HX := Lib.hid hx1
            have HTl := Lib.hid hTl
            have hTle : T'.length ≤ D'.length := by omega
            have hoo : ((o : Int) != (o : Int)) = false := by simp
            have hxx : (x != x) = false := by cases x <;> rfl
            clear hx1 ho e1 hout hhold hTl
            obtain ⟨c, hC⟩ := hM'.cels
            go_wp2_with fail
            refine (wait4 _ hM'.lks hC HW).mono ?_
            rintro e wa ⟨rfl, m, rfl⟩
            go_wp2_with fail
            refine (free4 _ (hM'.lks.drewN m) (hC.drewN m) HX).mono ?_
            rintro e wa ⟨rfl, m2, rfl⟩
            have hM2 := hM'.later (m + m2)
            clear hM' hC HW HX
            go_upto_region 37 with fail
            clear hxx hoo hx2
            go_loopw [18] (fun jv wr => ∃ j : Nat, j ≤ T'.length ∧ jv = .int .i64 (j : Int) ∧ Lay w wr L P Q B V A (f + D'.length) (f + G') (.slice pa' D'.length pc') (.slice ta' T'.length tc') st' tk' D' T') (fun jv _ => T'.length - (intOf jv).toNat)
            case atStart => exact ⟨0, Nat.zero_le _, rfl, hM2⟩
            case round =>
              clear hM2
              obtain ⟨j, hj, rfl, hM3⟩ := hrel
              by_cases hjt : j < T'.length
              · have hjt' : (j : Int) < (T'.length : Int) := by omega
                have hjd' : (j : Int) < (D'.length : Int) := by omega
                have hj0 : (0 : Int) ≤ (j : Int) := by omega
                obtain ⟨g1, rfl⟩ := row_some hM3.had (by omega)
                obtain ⟨g2, rfl⟩ := row_some hM3.drew (by omega)
                have y1 := row_cell hM3.had hjt
                have y2 := row_cell hM3.drew (show j < D'.length by omega)
                have hyy : nth T' j = nth D' j := by
                  unfold nth
                  rw [HT'.out, List.getElem?_take_of_lt (by have := HTl.out; omega)]
                rw [hyy] at y1
                have hyx : ((nth D' j : Int) != (nth D' j : Int)) = false := by simp
                have HY := Lib.hid hyy
                clear hyy
                go_wp2_with fail
                go_quiet (fail)
                have hM4 := hM3.later nq
                clear hM3 y1 y2 HY
                go_wp2_with fail
                go_roundw
                case rel => exact ⟨j + 1, by omega, by go_num, hM4⟩
                case measure => simp [intOf]; omega
              · obtain rfl : j = T'.length := by omega
                have hjt' : ¬ (T'.length : Int) < (T'.length : Int) := by omega
                go_wp2_with fail
                go_roundw
                case rel => exact ⟨k + 1, D', T', G', H', st', tk', pa', ta', pc', tc', by omega, hD', by go_num, rfl, rfl, hM3, hLn', HT'⟩
                case measure => simp [intOf]; omega
    · obtain rfl : k = xs.length := by omega
      have hlt' : ¬ (xs.length : Int) < (xs.length : Int) := by omega
      have hBl := hM.but
      clear hc hM hLn HT
      go_wp2_with fail
      refine (alive_any _).mono ?_
      rintro e wz ⟨rfl, hbz⟩
      have hB' : Below w.heap.size w wz := (hBl.below (Nat.le_refl _) (by simp)).trans (hbz.mono hBl.size)
      clear hBl hbz
      go_wp2_with fail
      go_ret
      exact ⟨rfl, hB'⟩
end Go.Proofs.Ytednclgfgekgbaa
