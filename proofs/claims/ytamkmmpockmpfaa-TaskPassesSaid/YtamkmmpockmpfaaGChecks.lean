/-
  The walks of channels, sites, codes, falls: each ends by a panic at the first thing that is wrong, or returns.
-/
import Derived.Deep.CutRange
import Derived.Test.YtamkmmpockmpfaaGNeed
namespace Go.Proofs.Ytamkmmpockmpfaa
open Go.RowKit

/-- The block B is just these cells. -/
def Blk (W : World) (B : Nat) (t : TypeId) (cs : Array Value) : Prop := W.heap[B]? = some (.cells cs t (0, 0))
theorem Blk.lt {W : World} {B : Nat} {t : TypeId} {cs : Array Value} (h : Blk W B t cs) : B < W.heap.size := (Array.getElem?_eq_some_iff.1 h).1
theorem Blk.cell {W : World} {B : Nat} {t : TypeId} {cs : Array Value} (h : Blk W B t cs) {k : Nat} {v : Value} (hv : cs[k]? = some v) : W.cell? ⟨B, k, none⟩ = some v := by
  simp [World.cell?, show W.heap[B]? = _ from h, hv]
theorem Blk.later {W W' : World} {B n : Nat} {t : TypeId} {cs : Array Value} (h : Blk W B t cs) (hb : Below n W W') (hn : B < n) : Blk W' B t cs := (hb.block B hn).trans h
set_option maxRecDepth 100000 in
theorem blk_new (W : World) (t : TypeId) (cs : Array Value) : Blk (W.alloc (.cells cs t)) W.heap.size t cs := World.alloc_heap_new W _

set_option maxRecDepth 100000 in
theorem need_ok (x y z : Int) (w : World) :
    Calls Try.prog 45 #[.bool true, .agg #[.int .i64 x, .int .i64 y, .int .i64 z]] w fun e w' => e = .returned (.tuple #[]) ∧ Below w.heap.size w w' := need_any true x y z w
set_option maxRecDepth 100000 in
theorem need_no (x y z : Int) (w : World) :
    Calls Try.prog 45 #[.bool false, .agg #[.int .i64 x, .int .i64 y, .int .i64 z]] w fun e w' => e = .panicked [{ v := .iface 82 (.agg #[.int .i64 x, .int .i64 y, .int .i64 z]), recovered := false }] ∧ Below w.heap.size w w' := need_any false x y z w

set_option maxRecDepth 100000 in
set_option maxHeartbeats 800000 in
theorem channels_any {lo hi : Nat} {v1 v2 v3 : Value} {p : Prg} (w : World) (h : PrgAt lo hi w v1 v2 v3 p) (hn : p.caps.length ≤ 1000000) :
    Calls Try.prog 30 #[.agg #[v1, v2, v3]] w fun e w' => e = endW (chansW p.caps) ∧ Below w.heap.size w w' := by
  obtain ⟨a, c, rfl⟩ := h.caps.slice
  have hb0 : Below w.heap.size w (w.alloc (.cells #[.slice a p.caps.length c, v2, v3] 85)) := (Below.refl _ w).alloc (Nat.le_refl _) _
  go_enter Try.func30, Try.ntmps30
  by_cases h6 : p.caps.length ≤ 6
  · have h6' : (p.caps.length : Int) ≤ 6 := by omega
    have HE : Hid (chansW p.caps = firstI (fun k c => wrongIf (withinB c 0 8) ((k : Int), 0, 110)) 0 p.caps) := Lib.hid (by simp [chansW, wrongIf, h6])
    go_wp2_with fail
    refine (need_ok _ _ _ _).mono ?_
    rintro e w1 ⟨rfl, hb1⟩
    have hB1 := below_next hb0 hb1 (Nat.le_refl _)
    have hk0 := (blk_new w 85 #[.slice a p.caps.length c, v2, v3]).later hb1 (by simp)
    have k0 : w1.cell? ⟨w.heap.size, 0, none⟩ = some (.slice a p.caps.length c) := hk0.cell rfl
    clear hb0 hb1 hk0 h6'
    go_wp2_with fail
    go_loopw [15] (fun iv wr => ∃ k : Nat, k ≤ p.caps.length ∧ iv = .int .i64 (k : Int) ∧ Below w.heap.size w wr ∧ Hid (∀ j y, j < k → p.caps[j]? = some y → wrongIf (withinB y 0 8) (((0 + j : Nat) : Int), 0, 110) = none)) (fun iv _ => p.caps.length - (intOf iv).toNat)
    case atStart => exact ⟨0, Nat.zero_le _, rfl, hB1, Lib.hid (fun j y hj => by omega)⟩
    case round =>
      clear hB1 k0
      obtain ⟨k, hk, rfl, hB, HN⟩ := hrel
      by_cases hlt : k < p.caps.length
      · have hlt' : (k : Int) < (p.caps.length : Int) := by omega
        have k0 : (0 : Int) ≤ (k : Int) := by omega
        have hw1 : IntKind.i64.wrap ((k : Int) + 1) = (k : Int) + 1 := by rw [IntKind.wrap_i64]; omega
        obtain ⟨b, off, x, rfl, hl, hh, hx, hx64, hc⟩ := (h.later hB).caps.at hlt
        have hwi := fun w => within_any x 0 8 w
        cases hv : withinB x 0 8 with
        | true =>
          rw [hv] at hwi
          have HX := Lib.hid (And.intro hx hv)
          clear hx hv
          go_wp2_with (first | (go_at_call 46; refine (hwi _).mono ?_; rintro e w' ⟨rfl, rfl⟩) | (go_at_call 45; refine (need_ok _ _ _ _).mono ?_; rintro e w2 ⟨rfl, hb2⟩))
          go_round
          case rel =>
            refine ⟨k + 1, by omega, by go_num, below_next hB hb2 (Nat.le_refl _), Lib.hid (fun j y hj hy => ?_)⟩
            by_cases e : j = k
            · subst e
              rw [HX.out.1] at hy
              cases hy
              rw [HX.out.2]; rfl
            · exact HN.out j y (by omega) hy
          case measure => simp [intOf]; omega
        | false =>
          rw [hv] at hwi
          have HX : Hid (chansW p.caps = some ((k : Int), 0, 110)) := Lib.hid (by
            rw [HE.out]
            refine firstI_some (k := k) HN.out hx ?_
            simp only [hv, Nat.zero_add]; rfl)
          clear hx hv
          go_wp2_with (first | (go_at_call 46; refine (hwi _).mono ?_; rintro e w' ⟨rfl, rfl⟩) | (go_at_call 45; refine (need_no _ _ _ _).mono ?_; rintro e w2 ⟨rfl, hb2⟩))
          exact ⟨rfl, by rw [HX.out]; rfl, below_next hB hb2 (Nat.le_refl _)⟩
      · have hlt' : ¬ (k : Int) < (p.caps.length : Int) := by omega
        have HX : Hid (chansW p.caps = none) := Lib.hid (by
          rw [HE.out, firstI_none]
          intro j x hx
          exact HN.out j x (by have := (List.getElem?_eq_some_iff.1 hx).1; omega) hx)
        go_wp2_with fail
        go_end0
        exact ⟨by rw [HX.out]; rfl, hB⟩
  · have h6' : ¬ (p.caps.length : Int) ≤ 6 := by omega
    have HE : Hid (chansW p.caps = some (0, 0, 110)) := Lib.hid (by simp [chansW, wrongIf, h6])
    go_wp2_with (go_at_call 45; refine (need_no _ _ _ _).mono ?_; rintro e w1 ⟨rfl, hb1⟩)
    exact ⟨rfl, by rw [HE.out]; rfl, below_next hb0 hb1 (Nat.le_refl _)⟩

set_option maxRecDepth 100000 in
theorem insCheck_any (x : In) (hx : x.ok) (a b c d : Int) (w : World) :
    Calls Try.prog 48 #[.agg #[.int .u8 (x.o : Int), .int .i64 x.a, .int .i64 x.b, .int .i64 x.c, .int .i64 x.k], .int .i64 a, .int .i64 b, .int .i64 c, .int .i64 d] w fun e w' => e = .returned (.int .i64 (checkE x a b c d)) ∧ Below w.heap.size w w' := check_any x hx a b c d w

set_option maxRecDepth 100000 in
set_option maxHeartbeats 800000 in
theorem falls_any {lo hi : Nat} {v1 v2 v3 : Value} {p : Prg} (w : World) (h : PrgAt lo hi w v1 v2 v3 p) (hn : p.codes.length ≤ 1000000) (hne : ∀ x ∈ p.codes, 0 < x.length ∧ x.length ≤ 1000000) :
    Calls Try.prog 33 #[.agg #[v1, v2, v3]] w fun e w' => e = endW (fallsW p.codes) ∧ Below w.heap.size w w' := by
  obtain ⟨a, c, rfl⟩ := h.codes.slice
  have hb0 : Below w.heap.size w (w.alloc (.cells #[v1, .slice a p.codes.length c, v3] 85)) := (Below.refl _ w).alloc (Nat.le_refl _) _
  go_enter Try.func33, Try.ntmps33
  go_wp2_with fail
  go_loopw [9] (fun iv wr => ∃ k : Nat, k ≤ p.codes.length ∧ iv = .int .i64 (k : Int) ∧ Below w.heap.size w wr ∧ Hid (∀ j y, j < k → p.codes[j]? = some y → fallW (0 + j) y = none)) (fun iv _ => p.codes.length - (intOf iv).toNat)
  case atStart => exact ⟨0, Nat.zero_le _, rfl, hb0, Lib.hid (fun j y hj => by omega)⟩
  case round =>
    clear hb0
    obtain ⟨k, hk, rfl, hB, HN⟩ := hrel
    by_cases hlt : k < p.codes.length
    · have hlt' : (k : Int) < (p.codes.length : Int) := by omega
      have k0 : (0 : Int) ≤ (k : Int) := by omega
      have hw1 : IntKind.i64.wrap ((k : Int) + 1) = (k : Int) + 1 := by rw [IntKind.wrap_i64]; omega
      obtain ⟨b, off, ra, rc, x, rfl, -, -, hx, hc, hr⟩ := (h.later hB).codes.at hlt
      obtain ⟨hx0, hx1⟩ := hne x (List.mem_of_getElem? hx)
      obtain ⟨m, hm⟩ : ∃ m, x.length = m + 1 := ⟨x.length - 1, by omega⟩
      obtain ⟨b2, off2, y, rfl, -, -, hy, -, c0, -, -, -, -⟩ := hr.at (k := m) (by omega)
      rw [hm] at hc
      have HL : Hid (fallW k x = wrongIf (y.o == 10 || y.o == 3) ((k : Int), 0, 113)) := Lib.hid (by rw [fallW, lastOp, show x.length - 1 = m by omega, hy]; rfl)
      have hwm : IntKind.i64.wrap (m : Int) = (m : Int) := by rw [IntKind.wrap_i64]; omega
      have m0 : (0 : Int) ≤ (m : Int) := by omega
      have m1 : (m : Int) < (m : Int) + 1 := by omega
      have HX := Lib.hid hx
      clear hx hy hr hx0
      obtain ⟨o, ho⟩ : ∃ o, o = y.o := ⟨_, rfl⟩
      rw [← ho] at HL c0
      clear ho
      by_cases h10 : o = 10
      · subst h10
        go_wp2_with (go_at_call 45; refine (need_ok _ _ _ _).mono ?_; rintro e w2 ⟨rfl, hb2⟩)
        go_round
        case rel =>
          refine ⟨k + 1, by omega, by go_num, below_next hB hb2 (Nat.le_refl _), Lib.hid (fun j z hj hz => ?_)⟩
          by_cases e : j = k
          · subst e
            rw [HX.out] at hz
            cases hz
            rw [Nat.zero_add, HL.out]; rfl
          · exact HN.out j z (by omega) hz
        case measure => simp [intOf]; omega
      · have e10 : ((o : Int) == 10) = false := by rw [beq_eq_false_iff_ne]; omega
        by_cases h3 : o = 3
        · subst h3
          go_wp2_with (go_at_call 45; refine (need_ok _ _ _ _).mono ?_; rintro e w2 ⟨rfl, hb2⟩)
          go_round
          case rel =>
            refine ⟨k + 1, by omega, by go_num, below_next hB hb2 (Nat.le_refl _), Lib.hid (fun j z hj hz => ?_)⟩
            by_cases e : j = k
            · subst e
              rw [HX.out] at hz
              cases hz
              rw [Nat.zero_add, HL.out]; rfl
            · exact HN.out j z (by omega) hz
          case measure => simp [intOf]; omega
        · have e3 : ((o : Int) == 3) = false := by rw [beq_eq_false_iff_ne]; omega
          have HY : Hid (fallsW p.codes = some ((k : Int), 0, 113)) := Lib.hid (by
            refine firstI_some (k := k) HN.out HX.out ?_
            rw [Nat.zero_add, HL.out]
            simp [wrongIf, h10, h3])
          go_wp2_with (go_at_call 45; refine (need_no _ _ _ _).mono ?_; rintro e w2 ⟨rfl, hb2⟩)
          exact ⟨rfl, by rw [HY.out]; rfl, below_next hB hb2 (Nat.le_refl _)⟩
    · have hlt' : ¬ (k : Int) < (p.codes.length : Int) := by omega
      have HX : Hid (fallsW p.codes = none) := Lib.hid (by
        rw [fallsW, firstI_none]
        intro j x hx
        exact HN.out j x (by have := (List.getElem?_eq_some_iff.1 hx).1; omega) hx)
      go_wp2_with fail
      go_end0
      exact ⟨by rw [HX.out]; rfl, hB⟩

set_option maxRecDepth 100000 in
set_option maxHeartbeats 1600000 in
theorem codes_any {lo hi : Nat} {v1 v2 v3 : Value} {p : Prg} (w : World) (h : PrgAt lo hi w v1 v2 v3 p) (hn : p.codes.length ≤ 1000000) (hne : ∀ x ∈ p.codes, x.length ≤ 1000000) :
    Calls Try.prog 32 #[.agg #[v1, v2, v3]] w fun e w' => e = endW (codesW p.caps.length p.sites.length p.codes) ∧ Below w.heap.size w w' := by
  obtain ⟨a1, n1, rfl⟩ := h.caps.slice
  obtain ⟨a, c, rfl⟩ := h.codes.slice
  obtain ⟨a3, n3, rfl⟩ := h.sites.slice
  have hb0 : Below w.heap.size w (w.alloc (.cells #[.slice a1 p.caps.length n1, .slice a p.codes.length c, .slice a3 p.sites.length n3] 85)) := (Below.refl _ w).alloc (Nat.le_refl _) _
  have hwi := fun w => within_any (p.codes.length : Int) 1 8 w
  go_enter Try.func32, Try.ntmps32
  cases hv : withinB (p.codes.length : Int) 1 8 with
  | false =>
    rw [hv] at hwi
    have HE : Hid (codesW p.caps.length p.sites.length p.codes = some (0, 0, 112)) := Lib.hid (by simp [codesW, wrongIf, hv])
    clear hv
    go_wp2_with (first | (go_at_call 46; refine (hwi _).mono ?_; rintro e w' ⟨rfl, rfl⟩) | (go_at_call 45; refine (need_no _ _ _ _).mono ?_; rintro e w1 ⟨rfl, hb1⟩))
    exact ⟨rfl, by rw [HE.out]; rfl, below_next hb0 hb1 (Nat.le_refl _)⟩
  | true =>
    rw [hv] at hwi
    have HE : Hid (codesW p.caps.length p.sites.length p.codes = firstI (codeW p.caps.length p.sites.length p.codes.length) 0 p.codes) := Lib.hid (by simp [codesW, wrongIf, hv])
    clear hv
    go_wp2_with (go_at_call 46; refine (hwi _).mono ?_; rintro e w' ⟨rfl, rfl⟩)
    refine (need_ok _ _ _ _).mono ?_
    rintro e w1 ⟨rfl, hb1⟩
    have hB1 := below_next hb0 hb1 (Nat.le_refl _)
    have hk1 := (blk_new w 85 #[.slice a1 p.caps.length n1, .slice a p.codes.length c, .slice a3 p.sites.length n3]).later hb1 (by simp)
    have k1 : w1.cell? ⟨w.heap.size, 1, none⟩ = some (.slice a p.codes.length c) := hk1.cell rfl
    clear hb0 hb1 hwi
    go_wp2_with fail
    clear k1
    go_loopw [18] (fun iv wr => ∃ k : Nat, k ≤ p.codes.length ∧ iv = .int .i64 (k : Int) ∧ Below w.heap.size w wr ∧ Blk wr w.heap.size 85 #[.slice a1 p.caps.length n1, .slice a p.codes.length c, .slice a3 p.sites.length n3] ∧
      Hid (∀ j y, j < k → p.codes[j]? = some y → codeW p.caps.length p.sites.length p.codes.length (0 + j) y = none)) (fun iv _ => p.codes.length - (intOf iv).toNat)
    case atStart => exact ⟨0, Nat.zero_le _, rfl, hB1, hk1, Lib.hid (fun j y hj => by omega)⟩
    case round =>
      clear hB1 hk1
      obtain ⟨k, hk, rfl, hB, hK, HN⟩ := hrel
      by_cases hlt : k < p.codes.length
      · have hlt' : (k : Int) < (p.codes.length : Int) := by omega
        have k0 : (0 : Int) ≤ (k : Int) := by omega
        have hw1 : IntKind.i64.wrap ((k : Int) + 1) = (k : Int) + 1 := by rw [IntKind.wrap_i64]; omega
        obtain ⟨b, off, ra, rc, x, rfl, -, hbh, hx, hcw, hr⟩ := h.codes.at hlt
        have hc := cell_stay hcw (hB.block b (Nat.lt_of_lt_of_le hbh h.top))
        clear hcw
        have hxl := hne x (List.mem_of_getElem? hx)
        have hwx := fun w => within_any (x.length : Int) 1 40 w
        cases hv : withinB (x.length : Int) 1 40 with
        | false =>
          rw [hv] at hwx
          have HX : Hid (codesW p.caps.length p.sites.length p.codes = some ((k : Int), 0, 112)) := Lib.hid (by
            rw [HE.out]
            refine firstI_some (k := k) HN.out hx ?_
            simp [codeW, wrongIf, hv])
          clear hx hv
          go_wp2_with (first | (go_at_call 46; refine (hwx _).mono ?_; rintro e w' ⟨rfl, rfl⟩) | (go_at_call 45; refine (need_no _ _ _ _).mono ?_; rintro e w2 ⟨rfl, hb2⟩))
          exact ⟨rfl, by rw [HX.out]; rfl, below_next hB hb2 (Nat.le_refl _)⟩
        | true =>
          rw [hv] at hwx
          have HX := Lib.hid hx
          have HV : Hid (codeW p.caps.length p.sites.length p.codes.length k x = firstI (fun pc y => wrongIf (checkB y p.caps.length p.sites.length p.codes.length x.length) ((k : Int), (pc : Int), 112)) 0 x) := Lib.hid (by simp [codeW, wrongIf, hv])
          clear hx hv
          go_wp2_with (first | (go_at_call 46; refine (hwx _).mono ?_; rintro e w' ⟨rfl, rfl⟩) | (go_at_call 45; refine (need_ok _ _ _ _).mono ?_; rintro e w2 ⟨rfl, hb2⟩))
          have hB2 := below_next hB hb2 (Nat.le_refl _)
          have hK2 := hK.later hb2 hK.lt
          clear hb2 hc hwx hB hK
          go_loopw [31] (fun iv wr => ∃ m : Nat, m ≤ x.length ∧ iv = .int .i64 (m : Int) ∧ Below w.heap.size w wr ∧ Blk wr w.heap.size 85 #[.slice a1 p.caps.length n1, .slice (some ⟨b, off, none⟩) p.codes.length c, .slice a3 p.sites.length n3] ∧
            Hid (∀ j y, j < m → x[j]? = some y → wrongIf (checkB y p.caps.length p.sites.length p.codes.length x.length) ((k : Int), ((0 + j : Nat) : Int), 112) = none)) (fun iv _ => x.length - (intOf iv).toNat)
          case atStart => exact ⟨0, Nat.zero_le _, rfl, hB2, hK2, Lib.hid (fun j y hj => by omega)⟩
          case round =>
            clear hB2 hK2
            obtain ⟨m, hm, rfl, hB, hK, HM⟩ := hrel
            by_cases hltm : m < x.length
            · have hltm' : (m : Int) < (x.length : Int) := by omega
              have m0 : (0 : Int) ≤ (m : Int) := by omega
              have hwm : IntKind.i64.wrap ((m : Int) + 1) = (m : Int) + 1 := by rw [IntKind.wrap_i64]; omega
              obtain ⟨b2, off2, y, rfl, -, -, hy, hyo, c0, c1, c2, c3, c4⟩ := (hr.stay (stay_below' hB h.top)).at hltm
              have HY := Lib.hid hy
              have k0 : wr.cell? ⟨w.heap.size, 0, none⟩ = some (.slice a1 p.caps.length n1) := hK.cell rfl
              have k1 : wr.cell? ⟨w.heap.size, 1, none⟩ = some (.slice (some ⟨b, off, none⟩) p.codes.length c) := hK.cell rfl
              have k2 : wr.cell? ⟨w.heap.size, 2, none⟩ = some (.slice a3 p.sites.length n3) := hK.cell rfl
              have hlt3 := hK.lt
              clear hy hr
              cases hcb : checkB y p.caps.length p.sites.length p.codes.length x.length with
              | true =>
                have hchk := fun w => insCheck_any y hyo p.caps.length p.sites.length p.codes.length x.length w
                rw [show checkE y p.caps.length p.sites.length p.codes.length x.length = 0 by unfold checkE; rw [hcb]; rfl] at hchk
                have HC := Lib.hid hcb
                clear hcb
                go_wp2_with fail
                refine (hchk _).mono ?_
                rintro e w3 ⟨rfl, hb3⟩
                have hbb : Below wr.heap.size wr w3 := ((Below.refl _ wr).alloc (Nat.le_refl _) _).trans (hb3.mono (by simp))
                have hB3 := below_next hB hbb (Nat.le_refl _)
                have hK3 := hK.later hbb hlt3
                clear hb3 hbb hchk k0 k1 k2 c0 c1 c2 c3 c4 hB hK
                go_wp2_with (go_at_call 45; refine (need_ok _ _ _ _).mono ?_; rintro e w4 ⟨rfl, hb4⟩)
                go_round
                case rel =>
                  refine ⟨m + 1, by omega, by go_num, below_next hB3 hb4 (Nat.le_refl _), hK3.later hb4 hK3.lt, Lib.hid (fun j z hj hz => ?_)⟩
                  by_cases e : j = m
                  · subst e
                    rw [HY.out] at hz
                    cases hz
                    rw [HC.out]; rfl
                  · exact HM.out j z (by omega) hz
                case measure => simp [intOf]; omega
              | false =>
                have hchk := fun w => insCheck_any y hyo p.caps.length p.sites.length p.codes.length x.length w
                rw [show checkE y p.caps.length p.sites.length p.codes.length x.length = 2 by unfold checkE; rw [hcb]; rfl] at hchk
                have HC := Lib.hid hcb
                clear hcb
                go_wp2_with fail
                refine (hchk _).mono ?_
                rintro e w3 ⟨rfl, hb3⟩
                have hbb : Below wr.heap.size wr w3 := ((Below.refl _ wr).alloc (Nat.le_refl _) _).trans (hb3.mono (by simp))
                have hB3 := below_next hB hbb (Nat.le_refl _)
                have hK3 := hK.later hbb hlt3
                clear hb3 hbb hchk k0 k1 k2 c0 c1 c2 c3 c4 hB hK
                have HZ : Hid (codesW p.caps.length p.sites.length p.codes = some ((k : Int), (m : Int), 112)) := Lib.hid (by
                  rw [HE.out]
                  refine firstI_some (k := k) HN.out HX.out ?_
                  rw [Nat.zero_add, HV.out]
                  refine firstI_some (k := m) HM.out HY.out ?_
                  rw [HC.out, Nat.zero_add]; rfl)
                go_wp2_with (go_at_call 45; refine (need_no _ _ _ _).mono ?_; rintro e w4 ⟨rfl, hb4⟩)
                exact ⟨rfl, by rw [HZ.out]; rfl, below_next hB3 hb4 (Nat.le_refl _)⟩
            · have hltm' : ¬ (m : Int) < (x.length : Int) := by omega
              have HY : Hid (codeW p.caps.length p.sites.length p.codes.length k x = none) := Lib.hid (by
                rw [HV.out, firstI_none]
                intro j y hy
                exact HM.out j y (by have := (List.getElem?_eq_some_iff.1 hy).1; omega) hy)
              clear HV HM
              go_wp2_with fail
              go_round
              case rel =>
                refine ⟨k + 1, by omega, by go_num, hB, hK, Lib.hid (fun j z hj hz => ?_)⟩
                by_cases e : j = k
                · subst e
                  rw [HX.out] at hz
                  cases hz
                  rw [Nat.zero_add, HY.out]
                · exact HN.out j z (by omega) hz
              case measure => simp [intOf]; omega
      · have hlt' : ¬ (k : Int) < (p.codes.length : Int) := by omega
        have HX : Hid (codesW p.caps.length p.sites.length p.codes = none) := Lib.hid (by
          rw [HE.out, firstI_none]
          intro j x hx
          exact HN.out j x (by have := (List.getElem?_eq_some_iff.1 hx).1; omega) hx)
        go_wp2_with fail
        go_end0
        exact ⟨by rw [HX.out]; rfl, hB⟩
end Go.Proofs.Ytamkmmpockmpfaa
