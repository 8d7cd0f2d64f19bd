/-
  The walk of the law SchedTurns.
-/
import Derived.Test.YtfdinodcbeipcaaZTurnsM
namespace Go.Proofs.Ytfdinodcbeipcaa
open Go.RowKit

set_option maxRecDepth 100000 in
set_option maxHeartbeats 400000 in
theorem turns_big (q : Int) (a : Option Addr) (n cap : Nat) (w : World) (hn : 200 < n) :
    Calls Try.prog 4 #[.int .u8 q, .slice a n cap] w fun e w' => e = .returned (.bool true) ∧ Below w.heap.size w w' := by
  have hl2 : (200 : Int) < (n : Int) := by omega
  have hl3 : decide ((200 : Int) < (n : Int)) = true := by simpa using hl2
  go_enter Try.func4, Try.ntmps4
  go_wp2_with fail
  refine (alive_any _).mono ?_
  rintro e w1 ⟨rfl, hb⟩
  go_wp2_with fail
  go_ret
  exact ⟨rfl, hb⟩

/-- What max answers of three: no number below zero. -/
theorem max_three (x y : Int) (hx : x ≤ 9223372036854775807) (hy : y ≤ 9223372036854775807) : ∃ m : Nat, (if (0 : Int) > (if y > x then y else x) then 0 else (if y > x then y else x)) = (m : Int) ∧ m ≤ 9223372036854775807 := by
  refine ⟨((if (0 : Int) > (if y > x then y else x) then 0 else (if y > x then y else x))).toNat, ?_, ?_⟩
  · split <;> split <;> omega
  · split <;> split <;> omega
theorem at_place {l : List Int} {k : Nat} (h : k < l.length) : ∃ p n q, l = p ++ n :: q ∧ p.length = k := by
  refine ⟨l.take k, l[k], l.drop (k + 1), ?_, by simp; omega⟩
  rw [List.getElem_cons_drop, List.take_append_drop]

set_option maxRecDepth 100000 in
set_option maxHeartbeats 12800000 in
theorem turns_loop (q : Int) (hq0 : 0 ≤ q) (hq1 : q < 256) (a : Option Addr) (cap : Nat) (ss : List (Int × Int)) (w : World) (hl : ss.length ≤ 200) (hs : Steps w (.slice a ss.length cap) ss) :
    Calls Try.prog 4 #[.int .u8 q, .slice a ss.length cap] w fun e w' => e = .returned (.bool true) ∧ Below w.heap.size w w' := by
  have hl2 : ¬ (200 : Int) < (ss.length : Int) := by omega
  have hl3 : decide ((200 : Int) < (ss.length : Int)) = false := by simpa using hl2
  obtain ⟨m, hm⟩ : ∃ m : Nat, 1 + q % 32 = (m : Int) := ⟨(1 + q % 32).toNat, by omega⟩
  have hm0 : 1 ≤ m := by omega
  have hm1 : m ≤ 32 := by omega
  have hwq : IntKind.i64.wrap q = q := by rw [IntKind.wrap_i64]; omega
  have hwm : IntKind.i64.wrap (1 + q % 32) = (m : Int) := by rw [IntKind.wrap_i64]; omega
  have hnew := w_new (w0 := w) m w hm0 hm1 (But.refl [] w)
  go_enter Try.func4, Try.ntmps4
  go_wp2_with fail
  refine hnew.mono ?_
  rintro e w1 ⟨S, F, rfl, H⟩
  have hB := Sea.start H
  clear hnew hwq hwm hm hl2 hl3 H
  go_wp2_with fail
  go_loopw [7, 8, 9, 10, 11] (fun v1 v2 v3 ev iv wr => ∃ (j : Nat) (s : Ss) (work away : List Int) (ended : Nat) (p1 p2 p3 : Option Addr) (c1 c2 c3 : Nat), j ≤ ss.length ∧ iv = .int .i64 (j : Int) ∧ ev = .int .i64 (ended : Int) ∧ v1 = .slice p1 s.l.length c1 ∧ v2 = .slice p2 work.length c2 ∧ v3 = .slice p3 away.length c3 ∧
    Sea w wr S F s (.slice p1 s.l.length c1) (.slice p2 work.length c2) (.slice p3 away.length c3) s.l work away ∧ Inv s work away ended) (fun _ _ _ _ iv _ => ss.length - (intOf iv).toNat)
  case atStart => exact ⟨0, Ss.new m, [], [], 0, none, none, none, 0, 0, 0, Nat.zero_le _, rfl, rfl, rfl, rfl, rfl, hB, inv_new m⟩
  case round =>
    clear hB
    obtain ⟨j, s, work, away, ended, p1, p2, p3, c1, c2, c3, hj, rfl, rfl, rfl, rfl, rfl, hB, hI⟩ := hrel
    by_cases hlt : j < ss.length
    · have hlt' : (j : Int) < (ss.length : Int) := by omega
      have j0 : (0 : Int) ≤ (j : Int) := by omega
      obtain ⟨b, off, d, v, rfl, hd, hv, hdb, hvb⟩ := hs.at hlt
      clear hs
      have hsm := hI.small hB.mine.scd.good
      have x0 := hd wr hB.mine.below
      have x1 := hv wr hB.mine.below
      go_upto_if 45 with fail
      go_cut [12] from 43 to 60 (fun kv wx => ∃ kk n : Nat, kv = .int .i64 (kk : Int) ∧ wx = wr.drewN n ∧ (0 < work.length → kk < work.length))
      case first =>
        clear x0 hd hI
        by_cases hw : 0 < work.length
        · have w1 : (0 : Int) < (work.length : Int) := by omega
          have w2 : decide ((0 : Int) < (work.length : Int)) = true := decide_eq_true w1
          have w3 : ((work.length : Int) == 0) = false := by rw [beq_eq_false_iff_ne]; omega
          have w4 : ¬ (work.length : Int) = 0 := by omega
          obtain ⟨nv, hnv⟩ : ∃ nv, IntKind.i64.wrap (-v) = nv := ⟨_, rfl⟩
          obtain ⟨hv1, hv2⟩ : -9223372036854775808 ≤ v ∧ v ≤ 9223372036854775807 := hvb
          have hnb : nv ≤ 9223372036854775807 := by rw [← hnv, IntKind.wrap_i64]; omega
          obtain ⟨mx, hmx, hmb⟩ := max_three v nv hv2 hnb
          have hrun : ∀ (ts : Array TypeId) (t : TypeId) (W : World), (Builtin.max_ ts t #[.int .i64 v, .int .i64 nv, .int .i64 0]).run Try.prog W = .ok (.int .i64 (mx : Int)) W := fun ts t W => by
            rw [run_max_int3, hmx]
          have hx : (mx : Int) % (work.length : Int) = ((mx % work.length : Nat) : Int) := (Int.natCast_emod mx work.length).symm
          have hxl := Nat.mod_lt mx hw
          obtain ⟨kk, hkk⟩ : ∃ kk, kk = mx % work.length := ⟨_, rfl⟩
          rw [← hkk] at hx hxl
          clear hmx hkk hB hsm hnb
          go_wp2_with fail
          go_quiet (fail)
          go_wp2_with fail
          go_meet
          case rel => exact ⟨kk, nq, by rw [← hx], rfl, fun _ => hxl⟩
        · have w1 : ¬ (0 : Int) < (work.length : Int) := by omega
          have w2 : decide ((0 : Int) < (work.length : Int)) = false := decide_eq_false w1
          clear hB
          go_wp2_with fail
          go_meet
          case rel => exact ⟨0, 0, rfl, rfl, fun h => absurd h hw⟩
      case rest =>
        obtain ⟨kk, nn, rfl, rfl, hkk⟩ := hcut
        have hB := hB.drewN nn
        have x0 := hd _ hB.mine.below
        clear x1 hv
        generalize wr.drewN nn = wk at hB x0 ⊢
        go_upto_region 14 with fail
        iterate 19 go_step
        go_cut [7, 8, 9, 10] from 66 to 170 (fun v1 v2 v3 ev wx => ∃ (s : Ss) (work away : List Int) (ended : Nat) (p1 p2 p3 : Option Addr) (c1 c2 c3 : Nat), ev = .int .i64 (ended : Int) ∧ v1 = .slice p1 s.l.length c1 ∧ v2 = .slice p2 work.length c2 ∧ v3 = .slice p3 away.length c3 ∧
          Sea w wx S F s (.slice p1 s.l.length c1) (.slice p2 work.length c2) (.slice p3 away.length c3) s.l work away ∧ Inv s work away ended)
        case first =>
          by_cases e0 : d = 0
          · subst e0
            by_cases hm : s.made = s.m
            · obtain ⟨z1, z2⟩ := not_make hm
              have h1 := y_make hB rfl z1
              rw [z2] at h1
              clear hB z1 z2 hm
              go_wp2_with fail
              refine h1.mono ?_
              rintro e wa ⟨rfl, hE⟩
              clear h1
              go_wp2_with fail
              go_meet
              case rel => exact ⟨s, work, away, ended, p1, p2, p3, c1, c2, c3, rfl, rfl, rfl, rfl, hE, hI⟩
            · obtain ⟨z1, z2, z3, hJ⟩ := inv_make hI hB.mine.scd.good hm
              have h1 := y_make hB z1 z2
              obtain ⟨t, ht⟩ : ∃ t, t = s.make := ⟨_, rfl⟩
              rw [← ht] at h1 z3 hJ
              have Z3 := Lib.hid z3
              clear hB z1 z2 z3 ht
              go_wp2_with fail
              refine h1.mono ?_
              rintro e wa ⟨rfl, hE⟩
              clear h1
              go_wp2_with (at_builtin; refine wpList_onto rfl _ _ rfl w.heap.size _ s.l (s.made : Int) rfl (hE.o1.fresh ((But.refl [] wa).alloc _)) ⟨wa.heap.size, 0, none⟩ 1 rfl (cell_one_new _ _ _) ?c1 ?c2 ?_)
              case c1 => omega
              case c2 => have := hE.mine.but.size; first | omega | (simp; omega)
              intro v' w5 hO5 hb5 hn5
              have hE := (hE.fresh ((But.refl [] wa).alloc (.cells #[.int .i64 (s.made : Int)] 3))).turn1 hO5 hb5 (by simpa using hn5)
              obtain ⟨p', c', rfl⟩ := hO5.slice
              clear hO5 hb5 hn5
              go_wp2_with fail
              go_meet
              case rel => exact ⟨t, work, away, ended, p', p2, p3, c', c2, c3, rfl, by rw [Z3.out], rfl, rfl, by rw [Z3.out]; exact hE, hJ⟩
          by_cases e1 : d = 1
          · subst e1
            have hbu : s.busy < 1000000000 := by have := hI.busy; omega
            have hlk := fun W (h : Sea w W S F s.next (.slice p1 s.l.length c1) (.slice p2 work.length c2) (.slice p3 away.length c3) s.l work away) => looked_any (c1 := c1) (a2 := p2) (c2 := c2) (a3 := p3) (c3 := c3) W hI h.o1.rowA
            cases hsl : s.l with
            | nil =>
              obtain ⟨z1, z2, z3⟩ := not_next hsl
              have h1 := y_next hB hbu z1 rfl
              rw [z2] at h1 hlk
              rw [z1] at hlk
              have z4 : (s.what == 1) = false := by rw [beq_eq_false_iff_ne]; exact z3
              generalize s.what = z at h1 hlk z4
              have HS := Lib.hid hsl
              rw [hsl] at h1 hlk
              clear hB z1 z2 z3 hsl
              go_wp2_with fail
              refine h1.mono ?_
              rintro e wa ⟨rfl, hE⟩
              have h2 := hlk wa hE
              clear h1 hlk
              go_wp2_with fail
              refine h2.mono ?_
              rintro e wb ⟨rfl, rfl⟩
              clear h2
              go_wp2_with fail
              go_meet
              case rel => exact ⟨s, work, away, ended, p1, p2, p3, c1, c2, c3, rfl, by rw [HS.out]; rfl, rfl, rfl, by rw [HS.out]; exact hE, hI⟩
            | cons x t =>
              obtain ⟨z1, z2, z3, hJ⟩ := inv_next hI hB.mine.scd.good (fun y hy => (hB.mine.scd.row.rng y hy).1) hsl
              have h1 := y_next hB hbu z1 z2
              rw [z1, z2] at hlk
              obtain ⟨u, hu⟩ : ∃ u, u = s.next := ⟨_, rfl⟩
              rw [← hu] at h1 z3 hJ hlk
              have HU := Lib.hid z3
              rw [hsl] at h1 hlk
              clear hB z1 z2 z3 hu hsl
              have hwl : work.length ≤ 32 := by omega
              go_wp2_with fail
              refine h1.mono ?_
              rintro e wa ⟨rfl, hE⟩
              have h2 := hlk wa hE
              clear h1 hlk
              go_wp2_with fail
              refine h2.mono ?_
              rintro e wb ⟨rfl, rfl⟩
              clear h2
              obtain ⟨g, off', cc, h3, h4, h5, h6⟩ := hE.o1.tail
              simp only [List.length_cons, Value.slice.injEq] at h3
              obtain ⟨rfl, -, rfl⟩ := h3
              have q3 : (1 : Int) ≤ (t.length : Int) + 1 := by omega
              have q4 : (t.length : Int) + 1 ≤ (c1 : Int) := by omega
              simp only [List.length_cons] at hE ⊢
              rcases h6 with ⟨h7, h8, h9⟩ | ⟨h7, h9⟩
              · subst h7 h8
                have hE := hE.turn1 h9 ((But.refl [] wb).mono (by simp)) (fun g hg => .inl (by simpa [blks_some] using hg))
                clear h4 h5 h9
                go_wp2_with (at_builtin; refine wpList_onto rfl _ _ rfl w.heap.size _ work x rfl (hE.o2.fresh ((But.refl [] wb).alloc _)) ⟨wb.heap.size, 0, none⟩ 1 rfl (cell_one_new _ _ _) ?c1 ?c2 ?_)
                case c1 => omega
                case c2 => have := hE.mine.but.size; first | omega | (simp; omega)
                intro v' w5 hO5 hb5 hn5
                have hE := (hE.fresh ((But.refl [] wb).alloc (.cells #[.int .i64 x] 3))).turn2 hO5 hb5 (by simpa using hn5)
                obtain ⟨p', c', rfl⟩ := hO5.slice
                clear hO5 hb5 hn5
                go_wp2_with fail
                go_meet
                case rel => exact ⟨u, _, away, ended, _, p', p3, _, c', c3, rfl, by rw [HU.out]; rfl, rfl, rfl, by rw [HU.out]; exact hE, hJ⟩
              · have h6 : ¬ c1 = 1 := h7
                have h7 : ¬ (c1 : Int) = 1 := by omega
                have hE := hE.turn1 h9 ((But.refl [] wb).mono (by simp)) (fun g hg => .inl (by simpa [blks_some] using hg))
                clear h4 h5 h9
                go_wp2_with (at_builtin; refine wpList_onto rfl _ _ rfl w.heap.size _ work x rfl (hE.o2.fresh ((But.refl [] wb).alloc _)) ⟨wb.heap.size, 0, none⟩ 1 rfl (cell_one_new _ _ _) ?c1 ?c2 ?_)
                case c1 => omega
                case c2 => have := hE.mine.but.size; first | omega | (simp; omega)
                intro v' w5 hO5 hb5 hn5
                have hE := (hE.fresh ((But.refl [] wb).alloc (.cells #[.int .i64 x] 3))).turn2 hO5 hb5 (by simpa using hn5)
                obtain ⟨p', c', rfl⟩ := hO5.slice
                clear hO5 hb5 hn5
                go_wp2_with fail
                go_meet
                case rel => exact ⟨u, _, away, ended, _, p', p3, _, c', c3, rfl, by rw [HU.out], rfl, rfl, by rw [HU.out]; exact hE, hJ⟩
          by_cases e3 : d = 3
          · subst e3
            by_cases hw : 0 < work.length
            · obtain ⟨p, n, q, rfl, rfl⟩ := at_place (hkk hw)
              have HI := Lib.hid hI
              obtain ⟨g, off', rfl, hcap, hcn, hrp, hrq⟩ := hB.o2.mid
              clear hkk hw hI
              simp only [List.length_append, List.length_cons] at hB hsm ⊢
              have k0 : ((p.length : Int) + ((q.length : Int) + 1) == 0) = false := by rw [beq_eq_false_iff_ne]; omega
              have kx : ¬ (p.length : Int) + ((q.length : Int) + 1) = 0 := by omega
              have k1 : (0 : Int) ≤ (p.length : Int) := by omega
              have k2 : (p.length : Int) ≤ (p.length : Int) + ((q.length : Int) + 1) := by omega
              have k22 : (p.length : Int) < (p.length : Int) + ((q.length : Int) + 1) := by omega
              have k3 : (p.length : Int) ≤ (c2 : Int) := by omega
              have k4 : (0 : Int) ≤ (p.length : Int) + 1 := by omega
              have k5 : (p.length : Int) + 1 ≤ (p.length : Int) + ((q.length : Int) + 1) := by omega
              have k6 : (p.length : Int) + 1 ≤ (c2 : Int) := by omega
              have k7 : (p.length : Int) + ((q.length : Int) + 1) ≤ (c2 : Int) := by omega
              have kw : IntKind.i64.wrap ((p.length : Int) + 1) = (p.length : Int) + 1 := by rw [IntKind.wrap_i64]; omega
              have HP : RowA wk.drew (some ⟨g, off', none⟩) p := fun _ => ⟨g, off', rfl, hrp⟩
              have hQ : RowA wk.drew (some ⟨g, off' + (p.length + 1), none⟩) q := fun _ => ⟨g, _, rfl, hrq⟩
              go_upto_region 31 with fail
              go_cut [8] from 112 to 120 (fun v2 wx => ∃ (p2 : Option Addr) (c2 : Nat), v2 = .slice p2 (p ++ q).length c2 ∧ Sea w wx S F s (.slice p1 s.l.length c1) (.slice p2 (p ++ q).length c2) (.slice p3 away.length c3) s.l (p ++ q) away)
              case first =>
                by_cases hc : c2 = p.length + 1
                · obtain rfl : q = [] := List.length_eq_zero_iff.mp (by omega)
                  subst hc
                  have j2 : (p.length : Int) ≤ (p.length : Int) + 1 := by omega
                  clear k0 kx k2 k22 k3 k5 k6 k7
                  simp only [List.length_nil, Nat.zero_add] at hB ⊢
                  have HN : RowA wk.drew (some ⟨g, off', none⟩) ([] : List Int) := fun h => by cases h
                  go_region_held3 (fun w' => But [] wk.drew w')
                    (with_reducible first | exact But.refl _ _ | exact hb5 | exact hb6)
                    ((first
                      | (refine step_app_nil (.const (.slice none 0 0)) (.tmp 114) rfl rfl rfl rfl rfl HP (by omega) ?_
                         intro v5 w5 hown5 hb5
                         have hN5 := HN.but hb5)
                      | (refine step_app_own (w0 := wk.drew) (.tmp 115) (.tmp 119) rfl rfl rfl hown5 hb5 rfl (by simp) rfl hN5 (by simp) (by omega) ?_
                         intro v6 w6 hO6 hb6
                         obtain ⟨p', c', rfl⟩ := hO6.slice
                         have hE := hB.drew.new2 hO6 hb6)))
                  all_goals go_wp2_with fail
                  all_goals go_meet
                  all_goals exact ⟨p', c', by simp, hE⟩
                · have k8 : ¬ c2 = p.length + 1 := hc
                  have k9 : ¬ (c2 : Int) = (p.length : Int) + 1 := by omega
                  go_region_held3 (fun w' => But [] wk.drew w')
                    (with_reducible first | exact But.refl _ _ | exact hb5 | exact hb6)
                    ((first
                      | (refine step_app_nil (.const (.slice none 0 0)) (.tmp 114) rfl rfl rfl rfl rfl HP (by omega) ?_
                         intro v5 w5 hown5 hb5
                         have hQ5 := hQ.but hb5)
                      | (refine step_app_own (w0 := wk.drew) (.tmp 115) (.tmp 119) rfl rfl rfl hown5 hb5 rfl (by omega) rfl hQ5 (by omega) (by omega) ?_
                         intro v6 w6 hO6 hb6
                         obtain ⟨p', c', rfl⟩ := hO6.slice
                         have hE := hB.drew.new2 hO6 hb6)))
                  all_goals go_wp2_with fail
                  all_goals go_meet
                  all_goals exact ⟨_, _, by rw [List.length_append], hE⟩
              case rest =>
                obtain ⟨p2', c2', rfl, hE⟩ := hcut
                clear hB k0 kx k1 k2 k22 k3 k4 k5 k6 k7 kw HP hQ hrp hrq hcn x0
                have x0 := hd _ hE.mine.below
                obtain ⟨z1, z2, hJ⟩ := inv_back HI.out
                have h1 := y_back n hE z1
                obtain ⟨t, ht⟩ : ∃ t, t = s.back n := ⟨_, rfl⟩
                rw [← ht] at h1 z2 hJ
                have Z2 := Lib.hid z2
                clear hE z1 z2 ht HI
                go_wp2_with fail
                refine h1.mono ?_
                rintro e wa ⟨rfl, hE⟩
                clear h1
                have hra := hE.o1.rowA
                go_wp2_with (at_builtin; first
                  | (refine wpList_app_nil rfl _ _ rfl rfl rfl rfl hra (by omega) ?_; intro v5 w5 hown5 hb5)
                  | (refine wpList_app_own (w0 := wa) (xs := s.l) (l := [n]) rfl _ _ rfl rfl (hown5.alloc _) (hb5.alloc _) rfl (by rfl) rfl (rowA_one _ n) (by simp) (by omega) ?_; intro v6 w6 hO6 hb6; obtain ⟨p', c', rfl⟩ := hO6.slice; have hE := hE.new1 hO6 hb6))
                clear hown5 hb5 hO6 hb6 hra
                go_meet
                case rel => exact ⟨t, p ++ q, away, ended, p', p2', p3, c', c2', c3, rfl, by rw [Z2.out]; simp, by simp, rfl, by rw [Z2.out]; exact hE, hJ⟩
            · have k0 : work.length = 0 := by omega
              rw [k0] at hB ⊢
              go_wp2_with fail
              go_meet
              case rel => exact ⟨s, work, away, ended, p1, p2, p3, c1, c2, c3, rfl, rfl, by rw [k0], rfl, by rw [k0]; exact hB, hI⟩
          by_cases e4 : d = 4
          · subst e4
            by_cases hw : 0 < work.length
            · obtain ⟨p, n, q, rfl, rfl⟩ := at_place (hkk hw)
              have HI := Lib.hid hI
              obtain ⟨g, off', rfl, hcap, hcn, hrp, hrq⟩ := hB.o2.mid
              clear hkk hw hI
              simp only [List.length_append, List.length_cons] at hB hsm ⊢
              have k0 : ((p.length : Int) + ((q.length : Int) + 1) == 0) = false := by rw [beq_eq_false_iff_ne]; omega
              have kx : ¬ (p.length : Int) + ((q.length : Int) + 1) = 0 := by omega
              have k1 : (0 : Int) ≤ (p.length : Int) := by omega
              have k2 : (p.length : Int) ≤ (p.length : Int) + ((q.length : Int) + 1) := by omega
              have k22 : (p.length : Int) < (p.length : Int) + ((q.length : Int) + 1) := by omega
              have k3 : (p.length : Int) ≤ (c2 : Int) := by omega
              have k4 : (0 : Int) ≤ (p.length : Int) + 1 := by omega
              have k5 : (p.length : Int) + 1 ≤ (p.length : Int) + ((q.length : Int) + 1) := by omega
              have k6 : (p.length : Int) + 1 ≤ (c2 : Int) := by omega
              have k7 : (p.length : Int) + ((q.length : Int) + 1) ≤ (c2 : Int) := by omega
              have kw : IntKind.i64.wrap ((p.length : Int) + 1) = (p.length : Int) + 1 := by rw [IntKind.wrap_i64]; omega
              have HP : RowA wk.drew (some ⟨g, off', none⟩) p := fun _ => ⟨g, off', rfl, hrp⟩
              have hQ : RowA wk.drew (some ⟨g, off' + (p.length + 1), none⟩) q := fun _ => ⟨g, _, rfl, hrq⟩
              go_upto_region 31 with fail
              go_cut [8] from 112 to 120 (fun v2 wx => ∃ (p2 : Option Addr) (c2 : Nat), v2 = .slice p2 (p ++ q).length c2 ∧ Sea w wx S F s (.slice p1 s.l.length c1) (.slice p2 (p ++ q).length c2) (.slice p3 away.length c3) s.l (p ++ q) away)
              case first =>
                by_cases hc : c2 = p.length + 1
                · obtain rfl : q = [] := List.length_eq_zero_iff.mp (by omega)
                  subst hc
                  have j2 : (p.length : Int) ≤ (p.length : Int) + 1 := by omega
                  clear k0 kx k2 k22 k3 k5 k6 k7
                  simp only [List.length_nil, Nat.zero_add] at hB ⊢
                  have HN : RowA wk.drew (some ⟨g, off', none⟩) ([] : List Int) := fun h => by cases h
                  go_region_held3 (fun w' => But [] wk.drew w')
                    (with_reducible first | exact But.refl _ _ | exact hb5 | exact hb6)
                    ((first
                      | (refine step_app_nil (.const (.slice none 0 0)) (.tmp 114) rfl rfl rfl rfl rfl HP (by omega) ?_
                         intro v5 w5 hown5 hb5
                         have hN5 := HN.but hb5)
                      | (refine step_app_own (w0 := wk.drew) (.tmp 115) (.tmp 119) rfl rfl rfl hown5 hb5 rfl (by simp) rfl hN5 (by simp) (by omega) ?_
                         intro v6 w6 hO6 hb6
                         obtain ⟨p', c', rfl⟩ := hO6.slice
                         have hE := hB.drew.new2 hO6 hb6)))
                  all_goals go_wp2_with fail
                  all_goals go_meet
                  all_goals exact ⟨p', c', by simp, hE⟩
                · have k8 : ¬ c2 = p.length + 1 := hc
                  have k9 : ¬ (c2 : Int) = (p.length : Int) + 1 := by omega
                  go_region_held3 (fun w' => But [] wk.drew w')
                    (with_reducible first | exact But.refl _ _ | exact hb5 | exact hb6)
                    ((first
                      | (refine step_app_nil (.const (.slice none 0 0)) (.tmp 114) rfl rfl rfl rfl rfl HP (by omega) ?_
                         intro v5 w5 hown5 hb5
                         have hQ5 := hQ.but hb5)
                      | (refine step_app_own (w0 := wk.drew) (.tmp 115) (.tmp 119) rfl rfl rfl hown5 hb5 rfl (by omega) rfl hQ5 (by omega) (by omega) ?_
                         intro v6 w6 hO6 hb6
                         obtain ⟨p', c', rfl⟩ := hO6.slice
                         have hE := hB.drew.new2 hO6 hb6)))
                  all_goals go_wp2_with fail
                  all_goals go_meet
                  all_goals exact ⟨_, _, by rw [List.length_append], hE⟩
              case rest =>
                obtain ⟨p2', c2', rfl, hE⟩ := hcut
                clear hB k0 kx k1 k2 k22 k3 k4 k5 k6 k7 kw HP hQ hrp hrq hcn x0
                have x0 := hd _ hE.mine.below
                obtain ⟨z1, z2, hJ⟩ := inv_leave HI.out
                have h1 := y_leave hE z1
                obtain ⟨t, ht⟩ : ∃ t, t = s.leave := ⟨_, rfl⟩
                rw [← ht] at h1 z2 hJ
                have Z2 := Lib.hid z2
                clear hE z1 z2 ht HI
                go_wp2_with fail
                refine h1.mono ?_
                rintro e wa ⟨rfl, hE⟩
                clear h1
                have hra := hE.o3.rowA
                go_wp2_with (at_builtin; first
                  | (refine wpList_app_nil rfl _ _ rfl rfl rfl rfl hra (by omega) ?_; intro v5 w5 hown5 hb5)
                  | (refine wpList_app_own (w0 := wa) (xs := away) (l := [n]) rfl _ _ rfl rfl (hown5.alloc _) (hb5.alloc _) rfl (by rfl) rfl (rowA_one _ n) (by simp) (by omega) ?_; intro v6 w6 hO6 hb6; obtain ⟨p', c', rfl⟩ := hO6.slice; have hE := hE.new3 hO6 hb6))
                clear hown5 hb5 hO6 hb6 hra
                go_meet
                case rel => exact ⟨t, p ++ q, away ++ [n], ended, p1, p2', p', c1, c2', c', rfl, by rw [Z2.out], by simp, by simp, by rw [Z2.out]; exact hE, hJ⟩
            · have k0 : work.length = 0 := by omega
              rw [k0] at hB ⊢
              go_wp2_with fail
              go_meet
              case rel => exact ⟨s, work, away, ended, p1, p2, p3, c1, c2, c3, rfl, rfl, by rw [k0], rfl, by rw [k0]; exact hB, hI⟩
          by_cases e5 : d = 5
          · subst e5
            by_cases hw : 0 < work.length
            · obtain ⟨p, n, q, rfl, rfl⟩ := at_place (hkk hw)
              have HI := Lib.hid hI
              obtain ⟨g, off', rfl, hcap, hcn, hrp, hrq⟩ := hB.o2.mid
              clear hkk hw hI
              simp only [List.length_append, List.length_cons] at hB hsm ⊢
              have k0 : ((p.length : Int) + ((q.length : Int) + 1) == 0) = false := by rw [beq_eq_false_iff_ne]; omega
              have kx : ¬ (p.length : Int) + ((q.length : Int) + 1) = 0 := by omega
              have k1 : (0 : Int) ≤ (p.length : Int) := by omega
              have k2 : (p.length : Int) ≤ (p.length : Int) + ((q.length : Int) + 1) := by omega
              have k22 : (p.length : Int) < (p.length : Int) + ((q.length : Int) + 1) := by omega
              have k3 : (p.length : Int) ≤ (c2 : Int) := by omega
              have k4 : (0 : Int) ≤ (p.length : Int) + 1 := by omega
              have k5 : (p.length : Int) + 1 ≤ (p.length : Int) + ((q.length : Int) + 1) := by omega
              have k6 : (p.length : Int) + 1 ≤ (c2 : Int) := by omega
              have k7 : (p.length : Int) + ((q.length : Int) + 1) ≤ (c2 : Int) := by omega
              have kw : IntKind.i64.wrap ((p.length : Int) + 1) = (p.length : Int) + 1 := by rw [IntKind.wrap_i64]; omega
              have HP : RowA wk.drew (some ⟨g, off', none⟩) p := fun _ => ⟨g, off', rfl, hrp⟩
              have hQ : RowA wk.drew (some ⟨g, off' + (p.length + 1), none⟩) q := fun _ => ⟨g, _, rfl, hrq⟩
              go_upto_region 31 with fail
              go_cut [8] from 112 to 120 (fun v2 wx => ∃ (p2 : Option Addr) (c2 : Nat), v2 = .slice p2 (p ++ q).length c2 ∧ Sea w wx S F s (.slice p1 s.l.length c1) (.slice p2 (p ++ q).length c2) (.slice p3 away.length c3) s.l (p ++ q) away)
              case first =>
                by_cases hc : c2 = p.length + 1
                · obtain rfl : q = [] := List.length_eq_zero_iff.mp (by omega)
                  subst hc
                  have j2 : (p.length : Int) ≤ (p.length : Int) + 1 := by omega
                  clear k0 kx k2 k22 k3 k5 k6 k7
                  simp only [List.length_nil, Nat.zero_add] at hB ⊢
                  have HN : RowA wk.drew (some ⟨g, off', none⟩) ([] : List Int) := fun h => by cases h
                  go_region_held3 (fun w' => But [] wk.drew w')
                    (with_reducible first | exact But.refl _ _ | exact hb5 | exact hb6)
                    ((first
                      | (refine step_app_nil (.const (.slice none 0 0)) (.tmp 114) rfl rfl rfl rfl rfl HP (by omega) ?_
                         intro v5 w5 hown5 hb5
                         have hN5 := HN.but hb5)
                      | (refine step_app_own (w0 := wk.drew) (.tmp 115) (.tmp 119) rfl rfl rfl hown5 hb5 rfl (by simp) rfl hN5 (by simp) (by omega) ?_
                         intro v6 w6 hO6 hb6
                         obtain ⟨p', c', rfl⟩ := hO6.slice
                         have hE := hB.drew.new2 hO6 hb6)))
                  all_goals go_wp2_with fail
                  all_goals go_meet
                  all_goals exact ⟨p', c', by simp, hE⟩
                · have k8 : ¬ c2 = p.length + 1 := hc
                  have k9 : ¬ (c2 : Int) = (p.length : Int) + 1 := by omega
                  go_region_held3 (fun w' => But [] wk.drew w')
                    (with_reducible first | exact But.refl _ _ | exact hb5 | exact hb6)
                    ((first
                      | (refine step_app_nil (.const (.slice none 0 0)) (.tmp 114) rfl rfl rfl rfl rfl HP (by omega) ?_
                         intro v5 w5 hown5 hb5
                         have hQ5 := hQ.but hb5)
                      | (refine step_app_own (w0 := wk.drew) (.tmp 115) (.tmp 119) rfl rfl rfl hown5 hb5 rfl (by omega) rfl hQ5 (by omega) (by omega) ?_
                         intro v6 w6 hO6 hb6
                         obtain ⟨p', c', rfl⟩ := hO6.slice
                         have hE := hB.drew.new2 hO6 hb6)))
                  all_goals go_wp2_with fail
                  all_goals go_meet
                  all_goals exact ⟨_, _, by rw [List.length_append], hE⟩
              case rest =>
                obtain ⟨p2', c2', rfl, hE⟩ := hcut
                clear hB k0 kx k1 k2 k22 k3 k4 k5 k6 k7 kw HP hQ hrp hrq hcn x0
                have x0 := hd _ hE.mine.below
                obtain ⟨z1, z2, hJ⟩ := inv_end HI.out
                have h1 := y_end hE z1
                obtain ⟨t, ht⟩ : ∃ t, t = s.fin := ⟨_, rfl⟩
                rw [← ht] at h1 z2 hJ
                have Z2 := Lib.hid z2
                clear hE z1 z2 ht HI
                go_wp2_with fail
                refine h1.mono ?_
                rintro e wa ⟨rfl, hE⟩
                clear h1
                go_wp2_with fail
                go_meet
                case rel => exact ⟨t, p ++ q, away, ended + 1, p1, p2', p3, c1, c2', c3, by go_num, by rw [Z2.out], by simp, rfl, by rw [Z2.out]; exact hE, hJ⟩
            · have k0 : work.length = 0 := by omega
              rw [k0] at hB ⊢
              go_wp2_with fail
              go_meet
              case rel => exact ⟨s, work, away, ended, p1, p2, p3, c1, c2, c3, rfl, rfl, by rw [k0], rfl, by rw [k0]; exact hB, hI⟩
          by_cases e2 : d = 2
          · subst e2
            cases away with
            | nil =>
              go_wp2_with fail
              go_meet
              case rel => exact ⟨s, work, [], ended, p1, p2, p3, c1, c2, c3, rfl, rfl, rfl, rfl, hB, hI⟩
            | cons y t =>
              obtain ⟨z1, z2, hJ⟩ := inv_push hI
              have h1 := y_push y hB z1
              obtain ⟨u, hu⟩ : ∃ u, u = s.push y := ⟨_, rfl⟩
              rw [← hu] at h1 z2 hJ
              have Z2 := Lib.hid z2
              obtain ⟨g, off', cc, h3, h4, h5, h6⟩ := hB.o3.tail
              simp only [List.length_cons, Value.slice.injEq] at h3
              obtain ⟨rfl, -, rfl⟩ := h3
              simp only [List.length_cons] at hB hsm h1 ⊢
              have q1 : (0 : Int) < (t.length : Int) + 1 := by omega
              have q2 : decide ((0 : Int) < (t.length : Int) + 1) = true := decide_eq_true q1
              have q3 : (1 : Int) ≤ (t.length : Int) + 1 := by omega
              have q4 : (t.length : Int) + 1 ≤ (c3 : Int) := by omega
              clear hB z1 z2 hu h6
              go_wp2_with fail
              refine h1.mono ?_
              rintro e wa ⟨rfl, hE⟩
              clear h1
              obtain ⟨g', off'', cc', h3, -, h5a, -⟩ := hE.o3.tail
              simp only [Value.slice.injEq, Option.some.injEq, Addr.mk.injEq] at h3
              obtain ⟨⟨rfl, rfl, -⟩, -, rfl⟩ := h3
              have HA := hE.drew.o1.rowA
              have hD := hE.drew
              have h5e := h5a
              have h5a : wa.drew.cell? ⟨g, off', none⟩ = some (.int .i64 y) := h5a
              go_upto_region 48 with fail
              go_cut [7] from 162 to 168 (fun v1 wx => ∃ (p1 : Option Addr) (c1 : Nat), v1 = .slice p1 (s.l ++ [y]).length c1 ∧ Sea w wx S F u (.slice p1 (s.l ++ [y]).length c1) (.slice p2 work.length c2) (.slice (some ⟨g, off', none⟩) (t.length + 1) c3) (s.l ++ [y]) work (y :: t))
              case first =>
                have hb0 : But [] wa (wa.alloc (.cells #[.int .i64 y] 3)).drew := ((But.refl [] wa).alloc _).drew
                have hD2 := hE.fresh hb0
                have HA2 := hD2.o1.rowA
                have hy2 : RowA (wa.alloc (.cells #[.int .i64 y] 3)).drew (some ⟨wa.heap.size, 0, none⟩) [y] := (rowA_one wa y).but (But.refl [] _).drew
                have h5d := hb0.cell h5e (by simp)
                clear hb0
                go_region_held3 (fun w' => w'.cell? ⟨g, off', none⟩ = some (.int .i64 y))
                  (first | exact h5a | exact h5b | exact ((But.refl [] _).alloc _).cell h5b (by simp) | exact h5c | exact h5d | exact h7b | exact h7c)
                  ((first
                    | (refine step_app_nil (.const (.slice none 0 0)) (.tmp 162) rfl rfl rfl rfl rfl HA (by omega) ?_
                       intro v5 w5 hown5 hb5
                       have h5b := hb5.cell h5a (by simp))
                    | (refine step_app_nil (.const (.slice none 0 0)) (.tmp 162) rfl rfl rfl rfl rfl HA2 (by omega) ?_
                       intro v7 w7 hown7 hb7
                       have h7b := hb7.cell h5d (by simp)
                       have hy7 := hy2.but hb7)
                    | (have hzz := hown5
                       refine step_app_own (w0 := wa.drew) (xs := s.l) (l := [y]) (.tmp 163) (.tmp 167) rfl rfl rfl (hown5.alloc _) (hb5.alloc _) rfl (by rfl) rfl (rowA_one _ y) (by simp) (by omega) ?_
                       intro v6 w6 hO6 hb6
                       obtain ⟨p', c', rfl⟩ := hO6.slice
                       have h5c := hb6.cell h5a (by simp)
                       have hE2 := hD.new1 hO6 hb6)
                    | (have hzz := hown7
                       refine step_app_own (w0 := (wa.alloc (.cells #[.int .i64 y] 3)).drew) (xs := s.l) (l := [y]) (.tmp 163) (.tmp 167) rfl rfl rfl hown7 hb7 rfl (by rfl) rfl hy7 (by simp) (by omega) ?_
                       intro v6 w6 hO6 hb6
                       obtain ⟨p', c', rfl⟩ := hO6.slice
                       have h7c := hb6.cell h5d (by simp)
                       have hE2 := hD2.new1 hO6 hb6)))
                all_goals go_wp2_with fail
                all_goals go_meet
                all_goals exact ⟨p', c', by simp, hE2⟩
              case rest =>
                obtain ⟨p1', c1', rfl, hE⟩ := hcut
                clear hD HA h5a h5
                obtain ⟨g', off'', cc', h3, -, -, h6⟩ := hE.o3.tail
                simp only [Value.slice.injEq, Option.some.injEq, Addr.mk.injEq] at h3
                obtain ⟨⟨rfl, rfl, -⟩, -, rfl⟩ := h3
                rcases h6 with ⟨h7, h8, h9⟩ | ⟨h7, h9⟩
                · subst h7 h8
                  have hE := hE.turn3 h9 ((But.refl [] _).mono (by simp)) (fun g hg => .inl (by simpa [blks_some] using hg))
                  clear h9
                  go_wp2_with fail
                  go_meet
                  case rel => exact ⟨u, work, _, ended, _, p2, _, _, c2, _, rfl, by rw [Z2.out], rfl, rfl, by rw [Z2.out]; exact hE, hJ⟩
                · have h6 : ¬ c3 = 1 := h7
                  have h7 : ¬ (c3 : Int) = 1 := by omega
                  have hE := hE.turn3 h9 ((But.refl [] _).mono (by simp)) (fun g hg => .inl (by simpa [blks_some] using hg))
                  clear h9
                  go_wp2_with fail
                  go_meet
                  case rel => exact ⟨u, work, _, ended, _, p2, _, _, c2, _, rfl, by rw [Z2.out], rfl, rfl, by rw [Z2.out]; exact hE, hJ⟩
          have n0 : (d == 0) = false := by simpa using e0
          have n1 : (d == 1) = false := by simpa using e1
          have n2 : (d == 2) = false := by simpa using e2
          have n3 : (d == 3) = false := by simpa using e3
          have n4 : (d == 4) = false := by simpa using e4
          have n5 : (d == 5) = false := by simpa using e5
          go_wp2_with fail
          go_meet
          case rel => exact ⟨s, work, away, ended, p1, p2, p3, c1, c2, c3, rfl, rfl, rfl, rfl, hB, hI⟩
        case rest =>
          obtain ⟨s', work', away', ended', q1, q2, q3, d1, d2, d3, rfl, rfl, rfl, rfl, hE, hJ⟩ := hcut
          clear hB hI hsm hkk x0 hd
          have hsm := hJ.small hE.mine.scd.good
          have r1 : ((work'.length : Int) != (work'.length : Int)) = false := by simp
          have r2 : ((s'.live : Int) != (s'.l.length : Int) + (work'.length : Int) + (away'.length : Int)) = false := by have := hJ.live; simp; omega
          have r3 : ((s'.made : Int) != (s'.live : Int) + (ended' : Int)) = false := by have := hJ.made; simp; omega
          have hlv : s'.live ≤ 32 := by have := hJ.live; omega
          have hbu := hJ.busy
          have h1 := y_busy hE hbu
          clear hE
          go_wp2_with fail
          refine h1.mono ?_
          rintro e wa ⟨rfl, hE⟩
          clear h1
          have h1 := y_live hE
          clear hE
          go_wp2_with fail
          refine h1.mono ?_
          rintro e wb ⟨rfl, hE⟩
          clear h1
          have h1 := y_made hE
          clear hE
          go_wp2_with fail
          refine h1.mono ?_
          rintro e we ⟨rfl, hE⟩
          clear h1
          have h1 := y_live hE
          clear hE
          go_wp2_with fail
          refine h1.mono ?_
          rintro e wf ⟨rfl, hE⟩
          clear h1
          have h1 := y_list hE
          clear hE
          go_wp2_with fail
          refine h1.mono ?_
          rintro e wg ⟨lv, rfl, hR, hE⟩
          clear h1
          have h1 := y_same hE (by omega) hR
          clear hE hR
          go_wp2_with fail
          refine h1.mono ?_
          rintro e wh ⟨rfl, hE⟩
          clear h1 r1 r2 r3
          go_wp2_with fail
          go_roundw
          case rel => exact ⟨j + 1, s', work', away', ended', q1, q2, q3, d1, d2, d3, by omega, by go_num, rfl, rfl, rfl, rfl, hE, hJ⟩
          case measure => simp [intOf]; omega
    · obtain rfl : j = ss.length := by omega
      have hlt' : ¬ (ss.length : Int) < (ss.length : Int) := by omega
      have hBl := hB.mine.below
      clear hs hB hI
      go_wp2_with fail
      refine (alive_any _).mono ?_
      rintro e wz ⟨rfl, hbz⟩
      have hB' := hBl.trans (hbz.mono hBl.size)
      clear hBl hbz
      go_wp2_with fail
      go_ret
      exact ⟨rfl, hB'⟩
theorem turns_any (q : Int) (hq0 : 0 ≤ q) (hq1 : q < 256) (v : Value) (ss : List (Int × Int)) (w : World) (hs : Steps w v ss) :
    Calls Try.prog 4 #[.int .u8 q, v] w fun e w' => e = .returned (.bool true) ∧ Below w.heap.size w w' := by
  obtain ⟨a, c, rfl⟩ := hs.slice
  by_cases hn : 200 < ss.length
  · exact turns_big q a _ c w hn
  · exact turns_loop q hq0 hq1 a c ss w (by omega) hs
end Go.Proofs.Ytfdinodcbeipcaa
