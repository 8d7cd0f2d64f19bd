/-
  The walk of the law TaskPasses.
-/
import Derived.Deep.Light
import Derived.Test.YtamkmmpockmpfaaTkPassM
namespace Go.Proofs.Ytamkmmpockmpfaa
open Go.RowKit

theorem RowS.next {W W' : World} {v : Value} {xs : List Nat} (h : RowS W v xs) (hb : But [] W W') : RowS W' v xs := by
  refine ⟨h.1, ?_⟩
  rcases h.2 with q | ⟨b, off, cap, h1, h2, h3, h4⟩
  · exact .inl q
  · exact .inr ⟨b, off, cap, h1, h2, Nat.lt_of_lt_of_le h3 hb.size, fun j hj => hb.cell (h4 j hj) (by simp)⟩
set_option maxRecDepth 100000 in
set_option maxHeartbeats 3200000 in
theorem passes_any {v1 v2 v3 : Value} {p : Prg} (sb wb : Int) (hs0 : 0 ≤ sb) (hs1 : sb < 256) (hq0 : 0 ≤ wb) (hq1 : wb < 256) (a : Option Addr) (c : Nat) (ls : List Nat) (w : World)
    (h : PrgAt 0 w.heap.size w v1 v2 v3 p) (hls : RowS w (.slice a ls.length c) ls) :
    Calls Try.prog 3 #[.agg #[v1, v2, v3], .int .u8 sb, .int .u8 wb, .slice a ls.length c] w fun e w' => e = .returned (.bool true) ∧ Below w.heap.size w w' := by
  obtain ⟨sa, sc, rfl⟩ := h.sites.slice
  obtain ⟨w0, hw0⟩ : ∃ w0, w0 = w.alloc (.cells #[v1, v2, .slice sa p.sites.length sc] 26) := ⟨_, rfl⟩
  have hb0 : But [] w w0 := by rw [hw0]; exact (But.refl [] w).alloc _
  have hB0 : Blk w0 w.heap.size 26 #[v1, v2, .slice sa p.sites.length sc] := by rw [hw0]; exact blk_new w _ _
  have hP : ∀ W, But [] w W → PrgAt 0 w.heap.size W v1 v2 (.slice sa p.sites.length sc) p := fun W hb => h.later (hb.below (Nat.le_refl _) (by simp))
  have hlg := long_any w0 (hP w0 hb0)
  have hal := fun W => alive_any W
  have hwb : IntKind.i64.wrap wb = wb := by rw [IntKind.wrap_i64]; omega
  have hsb : IntKind.i64.wrap sb = sb := by rw [IntKind.wrap_i64]; omega
  have HP := Lib.hid hP
  have HL := Lib.hid hls
  clear h hP hls
  go_enter Try.func3, Try.ntmps3
  go_wp2_with fail
  rw [← hw0]
  clear hw0
  refine hlg.mono ?_
  rintro e w1 ⟨b, rfl, hT, hb1⟩
  have hB1 : Blk w1 w.heap.size 26 #[v1, v2, .slice sa p.sites.length sc] := hB0.later hb1 hB0.lt
  have hb01 : But [] w w1 := hb0.next (But.of_below hb1 [])
  have c0 : w1.cell? ⟨w.heap.size, 0, none⟩ = some v1 := hB1.cell rfl
  have c1 : w1.cell? ⟨w.heap.size, 1, none⟩ = some v2 := hB1.cell rfl
  have c2 : w1.cell? ⟨w.heap.size, 2, none⟩ = some (.slice sa p.sites.length sc) := hB1.cell rfl
  clear hlg hB0 hb0 hb1
  cases b with
  | true =>
    go_wp2_with fail
    refine (hal _).mono ?_
    rintro e w2 ⟨rfl, hb⟩
    go_wp2_with fail
    go_ret
    exact ⟨rfl, (hb01.next (But.of_below hb [])).below (Nat.le_refl _) (by simp)⟩
  | false =>
    have hTm := hT rfl
    clear hT
    by_cases hbig : 200 < ls.length
    · have q1 : (200 : Int) < (ls.length : Int) := by omega
      have q2 : decide ((200 : Int) < (ls.length : Int)) = true := by simpa using q1
      go_wp2_with fail
      refine (hal _).mono ?_
      rintro e w2 ⟨rfl, hb⟩
      go_wp2_with fail
      go_ret
      exact ⟨rfl, (hb01.next (But.of_below hb [])).below (Nat.le_refl _) (by simp)⟩
    have q1 : ¬ (200 : Int) < (ls.length : Int) := by omega
    have q2 : decide ((200 : Int) < (ls.length : Int)) = false := by simpa using q1
    by_cases hm : checkW p = none
    · have hnew := y_new (w0 := w1) w1 (HP.out w1 hb01) hTm.small hm (But.refl [] w1)
      have hPW : ∀ W, But [] w1 W → PrgAt 0 w.heap.size W v1 v2 (.slice sa p.sites.length sc) p := fun W hb => HP.out W (hb01.next hb)
      have hRW : ∀ W, But [] w1 W → RowS W (.slice a ls.length c) ls := fun W hb => HL.out.next (hb01.next hb)
      have hbox : ∀ W, But [] w1 W → W.cell? ⟨w.heap.size, 2, none⟩ = some (.slice sa p.sites.length sc) := fun W hb => hb.cell c2 (by simp)
      have HM := Lib.hid hm
      have HPW := Lib.hid hPW
      have HRW := Lib.hid hRW
      have HBX := Lib.hid hbox
      have HB := Lib.hid hb01
      clear hm hTm hPW hRW hbox hb01
      go_wp2_with fail
      refine hnew.mono ?_
      rintro e w2 ⟨T, rfl, hQ⟩
      have x2 := HBX.out w2 hQ.but
      clear hnew c0 c1 c2 hB1
      by_cases hz : p.sites.length = 0
      · have z1 : ((p.sites.length : Int) == 0) = true := by rw [beq_iff_eq]; omega
        have z2 : (p.sites.length : Int) = 0 := by omega
        go_wp2_with fail
        refine (hal _).mono ?_
        rintro e w3 ⟨rfl, hb⟩
        have hbe := (HB.out.next hQ.but).next (But.of_below hb [])
        clear hQ hb
        go_wp2_with fail
        go_ret
        exact ⟨rfl, hbe.below (Nat.le_refl _) (by simp)⟩
      have z1 : ((p.sites.length : Int) == 0) = false := by rw [beq_eq_false_iff_ne]; omega
      have z2 : ¬ (p.sites.length : Int) = 0 := by omega
      have hadd := y_add (n := 0) Fra.zero w2 hQ (at_first HM.out) (by simp) rfl
      clear hQ
      go_wp2_with fail
      refine hadd.mono ?_
      rintro e w3 ⟨rfl, hQ⟩
      have x3 := HBX.out w3 hQ.but
      obtain ⟨m, hm, hml⟩ : ∃ m : Nat, sb.tmod (p.sites.length : Int) = (m : Int) ∧ m < p.sites.length := by
        have h1 := Int.emod_nonneg sb (b := (p.sites.length : Int)) z2
        have h2 := Int.emod_lt_of_pos sb (b := (p.sites.length : Int)) (by omega)
        exact ⟨(sb % (p.sites.length : Int)).toNat, by rw [Int.tmod_eq_emod_of_nonneg hs0]; omega, by omega⟩
      have hml' : (m : Int) < (p.sites.length : Int) := by omega
      have m0 : (0 : Int) ≤ (m : Int) := by omega
      have hwm : IntKind.i64.wrap (m : Int) = (m : Int) := by rw [IntKind.wrap_i64]; have := (may_sites HM.out).1; omega
      obtain ⟨rb, ro, ra, rc, y, hsa, -, -, hy, hcell, -, -⟩ := (HPW.out w3 hQ.but).sites.at hml
      subst hsa
      have hnl := (may_sites HM.out).2 m y hy
      have hQ1 : Mine w1 w3 T (tkOf p m (Od.rise y.cs.length)) := by
        have : ([] : List Tk) ++ [newTk p Fra.zero] = [⟨1, Fra.zero, 0, [], osOf p m (Od.rise y.cs.length)⟩] := by rw [osOf_start hy]; rfl
        have h1 : Mine w1 w3 T ⟨p, [] ++ [newTk p Fra.zero]⟩ := hQ
        rw [this] at h1
        exact h1
      obtain ⟨n, hn⟩ : ∃ n, n = y.cs.length := ⟨_, rfl⟩
      rw [← hn] at hcell hnl hQ1
      have n1 : ((n : Int) == 0) = false := by rw [beq_eq_false_iff_ne]; omega
      have n2 : ¬ (n : Int) = 0 := by omega
      obtain ⟨k, hk, hkl⟩ : ∃ k : Nat, wb.tmod (n : Int) = (k : Int) ∧ k < n := by
        have h1 := Int.emod_nonneg wb (b := (n : Int)) n2
        have h2 := Int.emod_lt_of_pos wb (b := (n : Int)) (by omega)
        exact ⟨(wb % (n : Int)).toNat, by rw [Int.tmod_eq_emod_of_nonneg hq0]; omega, by omega⟩
      have hwk : IntKind.i64.wrap (k : Int) = (k : Int) := by rw [IntKind.wrap_i64]; omega
      have HN := Lib.hid hnl
      have HK := Lib.hid hkl
      have HML := Lib.hid hml
      clear hadd hQ hn hy hnl hkl hml
      go_wp2_with fail
      have hp0 : Od.Perm n (Od.rise n) := Od.rise_perm n
      have hps : Pas n (Od.rise n) (k : Int) 0 := Pas.start hp0 ((hp0.mem _).2 (by have := HK.out; omega))
      have HPM := Lib.hid hp0
      have HPS := Lib.hid hps
      clear hp0 hps hcell x2 x3 hm hk hwm hwk z1 z2 n1 n2
      go_loopw [16, 17] (fun pv iv wr => ∃ (i q : Nat) (l : List Int), i ≤ ls.length ∧ pv = .int .i64 (q : Int) ∧ iv = .int .i64 (i : Int) ∧ Hid (Od.Perm n l ∧ Pas n l (k : Int) q) ∧ Mine w1 wr T (tkOf p m l)) (fun _ iv _ => ls.length - (intOf iv).toNat)
      case atStart => exact ⟨0, 0, _, Nat.zero_le _, rfl, rfl, Lib.hid ⟨HPM.out, HPS.out⟩, hQ1⟩
      case round =>
        clear hQ1 HPM HPS
        obtain ⟨i, q, l, hi, rfl, rfl, HI, hQ⟩ := hrel
        by_cases hlt : i < ls.length
        · have hlt' : (i : Int) < (ls.length : Int) := by omega
          have i0 : (0 : Int) ≤ (i : Int) := by omega
          obtain ⟨rb2, ro2, r, hra, hrc, hr64⟩ := (HRW.out w1 (But.refl [] w1)).at (W := w1) (Below.refl _ _) hlt
          subst hra
          have hrd : ∀ W, But [] w1 W → W.cell? ⟨rb2, ro2 + i, none⟩ = some (.int .u64 (r : Int)) := fun W hb => hb.cell hrc (by simp)
          have hlm : (osOf p m l)[m]? = some l := osOf_at HML.out
          have hm12 := (may_sites HM.out).1
          have hmk : m < 1000 := by have := HML.out; omega
          obtain ⟨b, hb⟩ : ∃ b, b = Od.pickB r l := ⟨_, rfl⟩
          obtain ⟨x, hx⟩ : ∃ x, x = Od.pickV r l := ⟨_, rfl⟩
          have hpick := y_pick (i := 0) (j := m) (ti := 0) (z := (r : Int)) (x := x) (b := b) r wr hQ rfl hlm hmk hr64 rfl rfl rfl hx hb
          have HBQ := Lib.hid hb
          have HXQ := Lib.hid hx
          have HRD := Lib.hid hrd
          have hcr := hrd wr hQ.but
          have hwn : IntKind.i64.wrap ((n : Int) - 1) = (n : Int) - 1 := by rw [IntKind.wrap_i64]; have := HN.out; omega
          have hqn : q + 1 ≤ n := HI.out.2.le
          clear hQ hb hx hrd hrc
          cases b with
          | false =>
            have hno := Lib.hid (fun (j : Nat) (hj : j < n) => pick_none HI.out.1 HBQ.out.symm hj)
            clear hwn
            go_wp2_with fail
            refine hpick.mono ?_
            rintro e w5 ⟨rfl, hQ⟩
            have hc5 := HRD.out w5 hQ.but
            clear hpick hcr
            go_wp2_with fail
            go_loop [20] (fun jv => ∃ j : Nat, j ≤ n ∧ jv = .int .i64 (j : Int)) (fun jv => n - (intOf jv).toNat)
            case atStart => exact ⟨0, Nat.zero_le _, rfl⟩
            case round =>
              obtain ⟨j, hj, rfl⟩ := hrel
              by_cases hjn : j < n
              · have hjn' : (j : Int) < (n : Int) := by omega
                have hwj : IntKind.i64.wrap ((j : Int) + 1) = (j : Int) + 1 := by rw [IntKind.wrap_i64]; have := HN.out; omega
                have hh := Od.has_any r (j : Int) hr64 (by omega) (by have := HN.out; omega) w5
                rw [hno.out j hjn] at hh
                go_wp2_with fail
                refine hh.mono ?_
                rintro e w6 ⟨rfl, rfl⟩
                clear hh
                go_wp2_with fail
                go_round
                case rel => exact ⟨j + 1, by omega, by go_num⟩
                case measure => simp [intOf]; omega
              · obtain rfl : j = n := by omega
                have hjn' : ¬ ((j : Int) < (j : Int)) := by omega
                go_wp2_with fail
                go_roundw
                case rel => exact ⟨i + 1, q, l, by omega, rfl, by go_num, HI, hQ⟩
                case measure => simp [intOf]; omega
          | true =>
            have hst := HI.out.2.step HI.out.1 HBQ.out.symm HXQ.out
            have HST := Lib.hid hst
            have hxr := (HI.out.1.mem x).1 hst.1
            have hxh := hst.2.1
            have hte : Od.tookE l x = 0 := by rw [Od.tookE, if_pos hst.1]
            have h1 := fun W => Od.has_any r x hr64 (by omega) (by have := HN.out; omega) W
            rw [hxh] at h1
            have h2 := fun W => Od.has_any r (k : Int) hr64 (by omega) (by have := HK.out; have := HN.out; omega) W
            have hx0 := hxr.1
            have hxn := hxr.2
            clear hst hxr hxh
            go_wp2_with fail
            refine hpick.mono ?_
            rintro e w5 ⟨rfl, hQ⟩
            have hc5 := HRD.out w5 hQ.but
            have htook := y_took (i := 0) (j := m) (ti := 0) (x := 0) x w5 hQ rfl hlm hmk rfl rfl hte.symm
            clear hpick hcr hQ
            go_wp2_with fail
            refine (h1 _).mono ?_
            rintro e w6 ⟨rfl, rfl⟩
            clear h1
            go_wp2_with fail
            refine htook.mono ?_
            rintro e w7 ⟨rfl, hQ⟩
            have hQ7 : Mine w1 w7 T (tkOf p m (Od.tookX l x)) := by
              have : tkOf p m (Od.tookX l x) = { tkOf p m l with ts := (tkOf p m l).ts.set 0 { (⟨1, Fra.zero, 0, [], osOf p m l⟩ : Tk) with os := (osOf p m l).set m (Od.tookX l x) } } := by rw [osOf_set]; rfl
              rw [this]; exact hQ
            have hc7 := HRD.out w7 hQ7.but
            clear htook hQ hc5 hlm
            by_cases hxk : x = (k : Int)
            · have t1 : (x == (k : Int)) = true := by rw [beq_iff_eq]; exact hxk
              have t2 : ¬ ((n : Int) - 1 < 0) := by have := HN.out; omega
              have HI2 := Lib.hid (And.intro HST.out.2.2.1 (HST.out.2.2.2.2 hxk))
              have HXK := Lib.hid hxk
              clear hxk h2
              go_wp2_with fail
              go_roundw
              case rel => exact ⟨i + 1, 0, _, by omega, rfl, by go_num, HI2, hQ7⟩
              case measure => simp [intOf]; omega
            · have t1 : (x == (k : Int)) = false := by rw [beq_eq_false_iff_ne]; exact hxk
              have hI3 := HST.out.2.2.2.1 hxk
              obtain ⟨b2, hb2⟩ : ∃ b2, b2 = Od.has r (k : Int) := ⟨_, rfl⟩
              rw [← hb2] at hI3 h2
              clear hb2
              cases b2 with
              | true =>
                have hI4 : Pas n (Od.tookX l x) (k : Int) (q + 1) := hI3
                have hq1 := hI4.le
                have HI2 := Lib.hid (And.intro HST.out.2.2.1 hI4)
                have hwq : IntKind.i64.wrap ((q : Int) + 1) = (q : Int) + 1 := by rw [IntKind.wrap_i64]; have := HN.out; omega
                have t2 : ¬ ((n : Int) - 1 < (q : Int) + 1) := by omega
                clear hI3 hI4 hxk
                go_wp2_with fail
                refine (h2 _).mono ?_
                rintro e w8 ⟨rfl, rfl⟩
                clear h2
                go_wp2_with fail
                go_roundw
                case rel => exact ⟨i + 1, q + 1, _, by omega, by go_num, by go_num, HI2, hQ7⟩
                case measure => simp [intOf]; omega
              | false =>
                have hI4 : Pas n (Od.tookX l x) (k : Int) q := hI3
                have HI2 := Lib.hid (And.intro HST.out.2.2.1 hI4)
                have t2 : ¬ ((n : Int) - 1 < (q : Int)) := by omega
                clear hI3 hI4 hxk
                go_wp2_with fail
                refine (h2 _).mono ?_
                rintro e w8 ⟨rfl, rfl⟩
                clear h2
                go_wp2_with fail
                go_roundw
                case rel => exact ⟨i + 1, q, _, by omega, rfl, by go_num, HI2, hQ7⟩
                case measure => simp [intOf]; omega
        · obtain rfl : i = ls.length := by omega
          have hlt' : ¬ ((ls.length : Int) < (ls.length : Int)) := by omega
          go_wp2_with fail
          refine (hal _).mono ?_
          rintro e w5 ⟨rfl, hb⟩
          have hbe := (HB.out.next hQ.but).next (But.of_below hb [])
          clear hQ hb
          go_wp2_with fail
          go_ret
          exact ⟨rfl, hbe.below (Nat.le_refl _) (by simp)⟩
    · have hnew := new_bad w1 (HP.out w1 hb01) hTm.small hm
      clear hm hTm
      go_wp2_with fail
      refine hnew.mono ?_
      rintro e w2 ⟨rfl, hb⟩
      have hb2 := hb01.next hb
      clear hnew hb c0 c1 c2 hB1 hb01
      go_wp2_with fail
      refine (hal _).mono ?_
      rintro e w3 ⟨rfl, hb⟩
      go_wp2_with fail
      go_ret
      exact ⟨rfl, (hb2.next (But.of_below hb [])).below (Nat.le_refl _) (by simp)⟩
end Go.Proofs.Ytamkmmpockmpfaa
