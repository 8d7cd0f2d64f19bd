/-
  The law PlanTells.
-/
import Derived.Test.YtkpnkhakjgfgfaaPKAlive
import Derived.Test.YtkpnkhakjgfgfaaPLPair
namespace Go.Proofs.Ytkpnkhakjgfgfaa
open Go.RowKit
open Lq (But I64b)

theorem ktells_big (q : Nat) (ad : Option Addr) (len cap : Nat) (send : Bool) (w : World) (hl : 200 < len) :
    Calls Try.prog 3 #[.int .u8 (q : Int), .slice ad len cap, .bool send] w fun e w' => e = .returned (.bool true) ∧ Below w.heap.size w w' := by
  have hl1 : decide ((200 : Int) < (len : Int)) = true := by simp; omega
  have hl2 : (200 : Int) < (len : Int) := by omega
  have ha := alive_any w
  go_enter Try.func3, Try.ntmps3
  go_wp2_with fail
  refine ha.mono ?_
  rintro e w2 ⟨rfl, hb⟩
  go_wp2_with fail
  go_ret
  exact ⟨rfl, hb⟩
set_option maxRecDepth 100000 in
set_option maxHeartbeats 2000000 in
theorem ktells_true (q : Nat) (hq : q ≤ 255) (ad : Option Addr) (ss : List St) (cap : Nat) (w : World) (hl : ss.length ≤ 200) (hs : Steps w (.slice ad ss.length cap) ss) :
    Calls Try.prog 3 #[.int .u8 (q : Int), .slice ad ss.length cap, .bool true] w fun e w' => e = .returned (.bool true) ∧ Below w.heap.size w w' := by
  have hl1 : decide ((200 : Int) < (ss.length : Int)) = false := by simp; omega
  have hl2 : ¬ (200 : Int) < (ss.length : Int) := by omega
  obtain ⟨m, hm⟩ : ∃ m, m = q % 9 := ⟨_, rfl⟩
  have hm9 : m ≤ 8 := by omega
  have hm1 : ((q : Int) % 9) = (m : Int) := by omega
  have hm2 : ((q : Int).tmod 9) = (m : Int) := by rw [Int.tmod_eq_emod_of_nonneg (by omega)]; omega
  have hw : IntKind.i64.wrap (q : Int) = (q : Int) := by rw [IntKind.wrap_i64]; omega
  clear hm
  have hpair := pair_any m hm9 ad cap ss w (by omega) hs
  go_enter Try.func3, Try.ntmps3
  go_wp2_with fail
  refine hpair.mono ?_
  rintro e w1 ⟨p, r, rfl, h, T, hmm⟩
  clear hpair hl1 hl2 hm1 hm2 hw hs
  have hk := wake_any w1 T.ch
  have hkr := fun W (hb : But [] w1 W) => rwake_any (q := r) (h := h) W (T.ref.fresh hb)
  obtain ⟨x, hx⟩ : ∃ x, x = (wakeP h).1 := ⟨_, rfl⟩
  obtain ⟨y, hy⟩ : ∃ y, y = (wakeP h).2.1 := ⟨_, rfl⟩
  obtain ⟨z, hz⟩ : ∃ z, z = (wakeP h).2.2 := ⟨_, rfl⟩
  obtain ⟨u, hu⟩ : ∃ u, u = quietP h := ⟨_, rfl⟩
  obtain ⟨d, hd⟩ : ∃ d : Int, d = ((lookP h true).1 : Int) := ⟨_, rfl⟩
  obtain ⟨v, hv⟩ : ∃ v, v = (lookP h true).2 := ⟨_, rfl⟩
  rw [← hx, ← hy, ← hz] at hk
  simp only [← hx, ← hy, ← hz] at hkr
  have hq1 := fun W (hb : But [] w1 W) => quiet_any W (T.ch.fresh hb)
  have hq2 := fun W (hb : But [] w1 W) => rquiet_any W (T.ref.fresh hb)
  have hl1 := fun W (hb : But [] w1 W) => look_any true W (T.ch.fresh hb)
  have hl2 := fun W (hb : But [] w1 W) => rlook_any true W (T.ref.fresh hb)
  have hsw := fun W (hb : But [] w1 W) => swaps_any true W (T.ch.fresh hb)
  simp only [← hu] at hq1 hq2
  simp only [← hd, ← hv] at hl1 hl2
  simp only [hmm] at hsw
  clear hx hy hz hu hd hv hmm
  have hbT : Below w.heap.size w w1 := T.but.below (Nat.le_refl _) (by simp)
  clear T
  go_wp2_with fail
  refine hk.mono ?_
  rintro e w2 ⟨rfl, hb2⟩
  clear hk
  go_wp2_with fail
  refine (hkr w2 hb2).mono ?_
  rintro e w3 ⟨rfl, rfl⟩
  clear hkr
  go_wp2_with fail
  refine (wake_nil w3).mono ?_
  rintro e w4 ⟨rfl, hb4⟩
  go_wp2_with fail
  refine (quiet_nil w4).mono ?_
  rintro e w5 ⟨rfl, hb5⟩
  go_wp2_with fail
  refine (swaps_nil true w5).mono ?_
  rintro e w6 ⟨rfl, hb6⟩
  go_wp2_with fail
  refine (look_nil true w6).mono ?_
  rintro e w7 ⟨rfl, hb7⟩
  have hb8 := ((hb2.next hb4).next hb5).next (hb6.next hb7)
  clear hb2 hb4 hb5 hb6 hb7
  go_wp2_with fail
  refine (hl1 w7 hb8).mono ?_
  rintro e w8 ⟨rfl, hb⟩
  have hb9 := hb8.next hb
  clear hb hb8 hl1
  go_wp2_with fail
  refine (hl2 w8 hb9).mono ?_
  rintro e w9 ⟨rfl, hb⟩
  have hb10 := hb9.next hb
  clear hb hb9 hl2
  simp only [Bool.not_true, Bool.false_and] at hsw
  go_wp2_with fail
  refine (hsw w9 hb10).mono ?_
  rintro e wa ⟨rfl, hb⟩
  have hb11 := hb10.next hb
  clear hb hb10 hsw
  go_wp2_with fail
  refine (hq1 wa hb11).mono ?_
  rintro e wb ⟨rfl, hb⟩
  have hb12 := hb11.next hb
  clear hb hb11 hq1
  go_wp2_with fail
  refine (hq2 wb hb12).mono ?_
  rintro e wc ⟨rfl, nn, hwc⟩
  have hb13 : But [] w1 wc := by rw [hwc]; exact hb12.drewN nn
  clear hwc hb12 hq2
  go_wp2_with fail
  refine (alive_any wc).mono ?_
  rintro e wd ⟨rfl, hbd⟩
  go_wp2_with fail
  go_ret
  exact ⟨rfl, (hbT.trans (hb13.below hbT.size (by simp))).trans (hbd.mono (hbT.trans (hb13.below hbT.size (by simp))).size)⟩
set_option maxRecDepth 100000 in
set_option maxHeartbeats 2000000 in
theorem ktells_false (q : Nat) (hq : q ≤ 255) (ad : Option Addr) (ss : List St) (cap : Nat) (w : World) (hl : ss.length ≤ 200) (hs : Steps w (.slice ad ss.length cap) ss) :
    Calls Try.prog 3 #[.int .u8 (q : Int), .slice ad ss.length cap, .bool false] w fun e w' => e = .returned (.bool true) ∧ Below w.heap.size w w' := by
  have hl1 : decide ((200 : Int) < (ss.length : Int)) = false := by simp; omega
  have hl2 : ¬ (200 : Int) < (ss.length : Int) := by omega
  obtain ⟨m, hm⟩ : ∃ m, m = q % 9 := ⟨_, rfl⟩
  have hm9 : m ≤ 8 := by omega
  have hm1 : ((q : Int) % 9) = (m : Int) := by omega
  have hm2 : ((q : Int).tmod 9) = (m : Int) := by rw [Int.tmod_eq_emod_of_nonneg (by omega)]; omega
  have hw : IntKind.i64.wrap (q : Int) = (q : Int) := by rw [IntKind.wrap_i64]; omega
  clear hm
  have hpair := pair_any m hm9 ad cap ss w (by omega) hs
  go_enter Try.func3, Try.ntmps3
  go_wp2_with fail
  refine hpair.mono ?_
  rintro e w1 ⟨p, r, rfl, h, T, hmm⟩
  clear hpair hl1 hl2 hm1 hm2 hw hs
  have hk := wake_any w1 T.ch
  have hkr := fun W (hb : But [] w1 W) => rwake_any (q := r) (h := h) W (T.ref.fresh hb)
  obtain ⟨x, hx⟩ : ∃ x, x = (wakeP h).1 := ⟨_, rfl⟩
  obtain ⟨y, hy⟩ : ∃ y, y = (wakeP h).2.1 := ⟨_, rfl⟩
  obtain ⟨z, hz⟩ : ∃ z, z = (wakeP h).2.2 := ⟨_, rfl⟩
  obtain ⟨u, hu⟩ : ∃ u, u = quietP h := ⟨_, rfl⟩
  obtain ⟨d, hd⟩ : ∃ d : Int, d = ((lookP h false).1 : Int) := ⟨_, rfl⟩
  obtain ⟨v, hv⟩ : ∃ v, v = (lookP h false).2 := ⟨_, rfl⟩
  rw [← hx, ← hy, ← hz] at hk
  simp only [← hx, ← hy, ← hz] at hkr
  have hq1 := fun W (hb : But [] w1 W) => quiet_any W (T.ch.fresh hb)
  have hq2 := fun W (hb : But [] w1 W) => rquiet_any W (T.ref.fresh hb)
  have hl1 := fun W (hb : But [] w1 W) => look_any false W (T.ch.fresh hb)
  have hl2 := fun W (hb : But [] w1 W) => rlook_any false W (T.ref.fresh hb)
  have hsw := fun W (hb : But [] w1 W) => swaps_any false W (T.ch.fresh hb)
  simp only [← hu] at hq1 hq2
  simp only [← hd, ← hv] at hl1 hl2
  simp only [hmm] at hsw
  clear hx hy hz hu hd hv hmm
  have hbT : Below w.heap.size w w1 := T.but.below (Nat.le_refl _) (by simp)
  clear T
  go_wp2_with fail
  refine hk.mono ?_
  rintro e w2 ⟨rfl, hb2⟩
  clear hk
  go_wp2_with fail
  refine (hkr w2 hb2).mono ?_
  rintro e w3 ⟨rfl, rfl⟩
  clear hkr
  go_wp2_with fail
  refine (wake_nil w3).mono ?_
  rintro e w4 ⟨rfl, hb4⟩
  go_wp2_with fail
  refine (quiet_nil w4).mono ?_
  rintro e w5 ⟨rfl, hb5⟩
  go_wp2_with fail
  refine (swaps_nil false w5).mono ?_
  rintro e w6 ⟨rfl, hb6⟩
  go_wp2_with fail
  refine (look_nil false w6).mono ?_
  rintro e w7 ⟨rfl, hb7⟩
  have hb8 := ((hb2.next hb4).next hb5).next (hb6.next hb7)
  clear hb2 hb4 hb5 hb6 hb7
  go_wp2_with fail
  refine (hl1 w7 hb8).mono ?_
  rintro e w8 ⟨rfl, hb⟩
  have hb9 := hb8.next hb
  clear hb hb8 hl1
  go_wp2_with fail
  refine (hl2 w8 hb9).mono ?_
  rintro e w9 ⟨rfl, hb⟩
  have hb10 := hb9.next hb
  clear hb hb9 hl2
  simp only [Bool.not_false, Bool.true_and] at hsw
  by_cases h0 : 0 < m
  · have h1 : (0 : Int) < (m : Int) := by omega
    rw [show decide (0 < m) = true by simp [h0]] at hsw
    go_wp2_with fail
    refine (hsw w9 hb10).mono ?_
    rintro e wa ⟨rfl, hb⟩
    have hb11 := hb10.next hb
    clear hb hb10 hsw
    go_wp2_with fail
    refine (hq1 wa hb11).mono ?_
    rintro e wb ⟨rfl, hb⟩
    have hb12 := hb11.next hb
    clear hb hb11 hq1
    go_wp2_with fail
    refine (hq2 wb hb12).mono ?_
    rintro e wc ⟨rfl, nn, hwc⟩
    have hb13 : But [] w1 wc := by rw [hwc]; exact hb12.drewN nn
    clear hwc hb12 hq2
    go_wp2_with fail
    refine (alive_any wc).mono ?_
    rintro e wd ⟨rfl, hbd⟩
    go_wp2_with fail
    go_ret
    exact ⟨rfl, (hbT.trans (hb13.below hbT.size (by simp))).trans (hbd.mono (hbT.trans (hb13.below hbT.size (by simp))).size)⟩
  · have h1 : ¬ (0 : Int) < (m : Int) := by omega
    rw [show decide (0 < m) = false by simp [h0]] at hsw
    go_wp2_with fail
    refine (hsw w9 hb10).mono ?_
    rintro e wa ⟨rfl, hb⟩
    have hb11 := hb10.next hb
    clear hb hb10 hsw
    go_wp2_with fail
    refine (hq1 wa hb11).mono ?_
    rintro e wb ⟨rfl, hb⟩
    have hb12 := hb11.next hb
    clear hb hb11 hq1
    go_wp2_with fail
    refine (hq2 wb hb12).mono ?_
    rintro e wc ⟨rfl, nn, hwc⟩
    have hb13 : But [] w1 wc := by rw [hwc]; exact hb12.drewN nn
    clear hwc hb12 hq2
    go_wp2_with fail
    refine (alive_any wc).mono ?_
    rintro e wd ⟨rfl, hbd⟩
    go_wp2_with fail
    go_ret
    exact ⟨rfl, (hbT.trans (hb13.below hbT.size (by simp))).trans (hbd.mono (hbT.trans (hb13.below hbT.size (by simp))).size)⟩
theorem ktells_any (q : Nat) (hq : q ≤ 255) (ad : Option Addr) (ss : List St) (cap : Nat) (send : Bool) (w : World) (hl : ss.length ≤ 200) (hs : Steps w (.slice ad ss.length cap) ss) :
    Calls Try.prog 3 #[.int .u8 (q : Int), .slice ad ss.length cap, .bool send] w fun e w' => e = .returned (.bool true) ∧ Below w.heap.size w w' := by
  cases send
  · exact ktells_false q hq ad ss cap w hl hs
  · exact ktells_true q hq ad ss cap w hl hs
end Go.Proofs.Ytkpnkhakjgfgfaa
