/-
  The walk of tollbarref11.Same.
-/
import Derived.BigQuiet
import Derived.Test.YtakgcienodigpaaGreatGNext
namespace Go.Proofs.YtakgcienodigpaaGreat
open Go.RowKit

theorem ne_run (y x : In) (W : World) : (binOp .neq 42 (.agg #[.int .u8 (y.o : Int), .int .i64 y.a, .int .i64 y.b, .int .i64 y.c, .int .i64 y.k]) (.agg #[.int .u8 (x.o : Int), .int .i64 x.a, .int .i64 x.b, .int .i64 x.c, .int .i64 x.k])).run Tryz.prog W = .ok (.bool (!In.eq y x)) W := by
  have u := Tryz.underlying42
  simp [go_sem]
  cases h : In.eq y x with
  | true =>
    obtain rfl := In.eq_iff.1 h
    simp
  | false =>
    have hne : y ≠ x := fun e => by rw [In.eq_iff.2 e] at h; cases h
    repeat' split
    all_goals first
      | rfl
      | exact absurd (by cases y; cases x; simp only at *; simp only [In.mk.injEq]; omega) hne
theorem ne_runC (y x : Cas) (W : World) : (binOp .neq 52 (.agg #[.bool y.s, .int .i64 y.c, .int .i64 y.v, .int .i64 y.o]) (.agg #[.bool x.s, .int .i64 x.c, .int .i64 x.v, .int .i64 x.o])).run Tryz.prog W = .ok (.bool (!Cas.eq y x)) W := by
  have u := Tryz.underlying52
  simp [go_sem]
  cases h : Cas.eq y x with
  | true =>
    obtain rfl := Cas.eq_iff.1 h
    simp
  | false =>
    have hne : y ≠ x := fun e => by rw [Cas.eq_iff.2 e] at h; cases h
    repeat' split
    all_goals first
      | rfl
      | exact absurd (by cases y; cases x; simp only at *; simp only [Cas.mk.injEq]; refine ⟨?_, ?_, ?_, ?_⟩ <;> assumption) hne
theorem Blk.drewN {W : World} {B : Nat} {t : TypeId} {cs : Array Value} (h : Blk W B t cs) (n : Nat) : Blk (W.drewN n) B t cs := h
theorem not_caps {p q : Prg} (h : sameL (fun a b : Int => a == b) p.caps q.caps = false) : samePrg p q = false := by simp [samePrg, h]
theorem not_codes {p q : Prg} (h : sameL (sameL In.eq) p.codes q.codes = false) : samePrg p q = false := by simp [samePrg, h]
theorem not_sites {p q : Prg} (h : sameL Sit.eq p.sites q.sites = false) : samePrg p q = false := by simp [samePrg, h]

set_option maxRecDepth 100000 in
set_option maxHeartbeats 6400000 in
theorem rsame_any {lo hi lo' hi' : Nat} {v1 v2 v3 u1 u2 u3 : Value} {p q : Prg} (w : World) (h1 : PrgAt lo hi w v1 v2 v3 p) (h2 : PrgAt lo' hi' w u1 u2 u3 q) (hs : Small p) :
    Calls Tryz.prog 11 #[.agg #[v1, v2, v3], .agg #[u1, u2, u3]] w fun e w' => e = .returned (.bool (samePrg p q)) ∧ Below w.heap.size w w' := by
  obtain ⟨a1, c1, rfl⟩ := h1.caps.slice
  obtain ⟨a2, c2, rfl⟩ := h1.codes.slice
  obtain ⟨a3, c3, rfl⟩ := h1.sites.slice
  obtain ⟨b1, d1, rfl⟩ := h2.caps.slice
  obtain ⟨b2, d2, rfl⟩ := h2.codes.slice
  obtain ⟨b3, d3, rfl⟩ := h2.sites.slice
  have hb := below2 w (.cells #[.slice a1 p.caps.length c1, .slice a2 p.codes.length c2, .slice a3 p.sites.length c3] 26) (.cells #[.slice b1 q.caps.length d1, .slice b2 q.codes.length d2, .slice b3 q.sites.length d3] 26)
  obtain ⟨W, hW⟩ : ∃ W, W = (w.alloc (.cells #[.slice a1 p.caps.length c1, .slice a2 p.codes.length c2, .slice a3 p.sites.length c3] 26)).alloc (.cells #[.slice b1 q.caps.length d1, .slice b2 q.codes.length d2, .slice b3 q.sites.length d3] 26) := ⟨_, rfl⟩
  have z0 : Blk W w.heap.size 26 #[.slice a1 p.caps.length c1, .slice a2 p.codes.length c2, .slice a3 p.sites.length c3] := by rw [hW]; exact (blk_new w _ _).alloc _
  have z1 : Blk W (w.heap.size + 1) 26 #[.slice b1 q.caps.length d1, .slice b2 q.codes.length d2, .slice b3 q.sites.length d3] := by have := blk_new (w.alloc (.cells #[.slice a1 p.caps.length c1, .slice a2 p.codes.length c2, .slice a3 p.sites.length c3] 26)) 26 #[.slice b1 q.caps.length d1, .slice b2 q.codes.length d2, .slice b3 q.sites.length d3]; rw [World.size_alloc] at this; rw [hW]; exact this
  rw [← hW] at hb
  have lz := z1.lt
  have s0 : W.cell? ⟨w.heap.size, 0, none⟩ = some (.slice a1 p.caps.length c1) := z0.cell rfl
  have s1 : W.cell? ⟨w.heap.size, 1, none⟩ = some (.slice a2 p.codes.length c2) := z0.cell rfl
  have s2 : W.cell? ⟨w.heap.size, 2, none⟩ = some (.slice a3 p.sites.length c3) := z0.cell rfl
  have t0 : W.cell? ⟨w.heap.size + 1, 0, none⟩ = some (.slice b1 q.caps.length d1) := z1.cell rfl
  have t1 : W.cell? ⟨w.heap.size + 1, 1, none⟩ = some (.slice b2 q.codes.length d2) := z1.cell rfl
  have t2 : W.cell? ⟨w.heap.size + 1, 2, none⟩ = some (.slice b3 q.sites.length d3) := z1.cell rfl
  rw [hW] at s0 s1 s2 t0 t1 t2
  go_enter Tryz.func11, Tryz.ntmps11
  by_cases l1 : p.caps.length = q.caps.length
  rotate_left 1
  · have l1' : ((p.caps.length : Int) != (q.caps.length : Int)) = true := by simp; omega
    have HE := Lib.hid (not_caps (same_len (f := fun a b : Int => a == b) l1))
    go_wp2_with fail
    rw [← hW]
    go_ret
    exact ⟨ret_v (congrArg Value.bool HE.out.symm), hb⟩
  have l1' : ((p.caps.length : Int) != (q.caps.length : Int)) = false := by simp; omega
  have L1 := Lib.hid l1
  clear l1
  by_cases l2 : p.codes.length = q.codes.length
  rotate_left 1
  · have l2' : ((p.codes.length : Int) != (q.codes.length : Int)) = true := by simp; omega
    have HE := Lib.hid (not_codes (same_len (f := sameL In.eq) l2))
    go_wp2_with fail
    rw [← hW]
    go_ret
    exact ⟨ret_v (congrArg Value.bool HE.out.symm), hb⟩
  have l2' : ((p.codes.length : Int) != (q.codes.length : Int)) = false := by simp; omega
  have L2 := Lib.hid l2
  clear l2
  by_cases l3 : p.sites.length = q.sites.length
  rotate_left 1
  · have l3' : ((p.sites.length : Int) != (q.sites.length : Int)) = true := by simp; omega
    have HE := Lib.hid (not_sites (same_len (f := Sit.eq) l3))
    go_wp2_with fail
    rw [← hW]
    go_ret
    exact ⟨ret_v (congrArg Value.bool HE.out.symm), hb⟩
  have l3' : ((p.sites.length : Int) != (q.sites.length : Int)) = false := by simp; omega
  have L3 := Lib.hid l3
  clear l3
  go_wp2_with fail
  rw [← hW]
  clear hW l1' l2' l3' s0 s1 s2 t0 t1 t2
  go_loopw [5] (fun iv wr => ∃ k : Nat, k ≤ p.caps.length ∧ iv = .int .i64 (k : Int) ∧ Below w.heap.size w wr ∧ Blk wr w.heap.size 26 #[.slice a1 p.caps.length c1, .slice a2 p.codes.length c2, .slice a3 p.sites.length c3] ∧ Blk wr (w.heap.size + 1) 26 #[.slice b1 q.caps.length d1, .slice b2 q.codes.length d2, .slice b3 q.sites.length d3] ∧
    Hid (∀ j x y, j < k → p.caps[j]? = some x → q.caps[j]? = some y → (x == y) = true)) (fun iv _ => p.caps.length - (intOf iv).toNat)
  case atStart => exact ⟨0, Nat.zero_le _, rfl, hb, z0, z1, Lib.hid (fun j x y hj => by omega)⟩
  case round =>
    clear hb z0 z1
    obtain ⟨k, hk, rfl, hB, z0, z1, HN⟩ := hrel
    have s0 : wr.cell? ⟨w.heap.size, 0, none⟩ = some (.slice a1 p.caps.length c1) := z0.cell rfl
    have s1 : wr.cell? ⟨w.heap.size, 1, none⟩ = some (.slice a2 p.codes.length c2) := z0.cell rfl
    have s2 : wr.cell? ⟨w.heap.size, 2, none⟩ = some (.slice a3 p.sites.length c3) := z0.cell rfl
    have t0 : wr.cell? ⟨w.heap.size + 1, 0, none⟩ = some (.slice b1 q.caps.length d1) := z1.cell rfl
    have t1 : wr.cell? ⟨w.heap.size + 1, 1, none⟩ = some (.slice b2 q.codes.length d2) := z1.cell rfl
    have t2 : wr.cell? ⟨w.heap.size + 1, 2, none⟩ = some (.slice b3 q.sites.length d3) := z1.cell rfl
    by_cases hlt : k < p.caps.length
    · have hlt' : (k : Int) < (p.caps.length : Int) := by omega
      have hlt2 : (k : Int) < (q.caps.length : Int) := by have := L1.out; omega
      have k0 : (0 : Int) ≤ (k : Int) := by omega
      have hcl := hs.caps
      have hw1 : IntKind.i64.wrap ((k : Int) + 1) = (k : Int) + 1 := by rw [IntKind.wrap_i64]; omega
      obtain ⟨b, off, x, rfl, -, -, hx, -, g0⟩ := (h1.later hB).caps.at hlt
      obtain ⟨b', off', y, rfl, -, -, hy, -, g1⟩ := (h2.later hB).caps.at (show k < q.caps.length by have := L1.out; omega)
      have HX := Lib.hid (And.intro hx hy)
      clear hx hy
      by_cases hxy : x = y
      · subst hxy
        have hne : (x != x) = false := by simp
        go_wp2_with fail
        go_quiet (fail)
        go_wp2_with fail
        go_round
        case rel =>
          refine ⟨k + 1, by omega, by go_num, below_drewN hB _, z0.drewN _, z1.drewN _, Lib.hid (fun j x' y' hj hx' hy' => ?_)⟩
          by_cases e : j = k
          · subst e
            rw [HX.out.1] at hx'
            rw [HX.out.2] at hy'
            cases hx'
            cases hy'
            simp
          · exact HN.out j x' y' (by omega) hx' hy'
        case measure => simp [intOf]; omega
      · have hne : (x != y) = true := by simpa using hxy
        have HE := Lib.hid (not_caps (same_at (f := fun a b : Int => a == b) HX.out.1 HX.out.2 (by simpa using hxy)))
        go_wp2_with fail
        go_quiet (fail)
        go_wp2_with fail
        go_ret
        exact ⟨ret_v (congrArg Value.bool HE.out.symm), below_drewN hB _⟩
    · have hlt' : ¬ (k : Int) < (p.caps.length : Int) := by omega
      have HA := Lib.hid (same_all (f := fun a b : Int => a == b) L1.out (fun j x y hj hx hy => HN.out j x y (by omega) hx hy))
      clear HN
      go_wp2_with fail
      clear s0 s1 s2 t0 t1 t2
      go_loopw [6] (fun iv wr => ∃ k : Nat, k ≤ p.codes.length ∧ iv = .int .i64 (k : Int) ∧ Below w.heap.size w wr ∧ Blk wr w.heap.size 26 #[.slice a1 p.caps.length c1, .slice a2 p.codes.length c2, .slice a3 p.sites.length c3] ∧ Blk wr (w.heap.size + 1) 26 #[.slice b1 q.caps.length d1, .slice b2 q.codes.length d2, .slice b3 q.sites.length d3] ∧
        Hid (∀ j x y, j < k → p.codes[j]? = some x → q.codes[j]? = some y → sameL In.eq x y = true)) (fun iv _ => p.codes.length - (intOf iv).toNat)
      case atStart => exact ⟨0, Nat.zero_le _, rfl, hB, z0, z1, Lib.hid (fun j x y hj => by omega)⟩
      case round =>
        clear hB z0 z1 hk hlt hlt'
        obtain ⟨k, hk, rfl, hB, z0, z1, HN⟩ := hrel
        have s0 : wr.cell? ⟨w.heap.size, 0, none⟩ = some (.slice a1 p.caps.length c1) := z0.cell rfl
        have s1 : wr.cell? ⟨w.heap.size, 1, none⟩ = some (.slice a2 p.codes.length c2) := z0.cell rfl
        have s2 : wr.cell? ⟨w.heap.size, 2, none⟩ = some (.slice a3 p.sites.length c3) := z0.cell rfl
        have t0 : wr.cell? ⟨w.heap.size + 1, 0, none⟩ = some (.slice b1 q.caps.length d1) := z1.cell rfl
        have t1 : wr.cell? ⟨w.heap.size + 1, 1, none⟩ = some (.slice b2 q.codes.length d2) := z1.cell rfl
        have t2 : wr.cell? ⟨w.heap.size + 1, 2, none⟩ = some (.slice b3 q.sites.length d3) := z1.cell rfl
        by_cases hlt : k < p.codes.length
        · have hlt' : (k : Int) < (p.codes.length : Int) := by omega
          have hlt2 : (k : Int) < (q.codes.length : Int) := by have := L2.out; omega
          have k0 : (0 : Int) ≤ (k : Int) := by omega
          have hcl := hs.codes
          have hw1 : IntKind.i64.wrap ((k : Int) + 1) = (k : Int) + 1 := by rw [IntKind.wrap_i64]; omega
          obtain ⟨b, off, ra, rc, x, rfl, -, hbh, hx, gw0, hr0⟩ := h1.codes.at hlt
          obtain ⟨b', off', ra', rc', y, rfl, -, hbh', hy, gw1, hr1⟩ := h2.codes.at (show k < q.codes.length by have := L2.out; omega)
          have g0 := cell_stay gw0 (hB.block b (Nat.lt_of_lt_of_le hbh h1.top))
          have g1 := cell_stay gw1 (hB.block b' (Nat.lt_of_lt_of_le hbh' h2.top))
          have hxl := hs.code x (List.mem_of_getElem? hx)
          have HX := Lib.hid (And.intro hx hy)
          clear hx hy
          by_cases hl : x.length = y.length
          rotate_left 1
          · have hl' : ((x.length : Int) != (y.length : Int)) = true := by simp; omega
            have HE := Lib.hid (not_codes (same_at (f := sameL In.eq) HX.out.1 HX.out.2 (same_len hl)))
            clear hl
            go_wp2_with fail
            go_quiet (fail)
            go_wp2_with fail
            go_ret
            exact ⟨ret_v (congrArg Value.bool HE.out.symm), below_drewN hB _⟩
          · have hl' : ((x.length : Int) != (y.length : Int)) = false := by simp; omega
            have HL := Lib.hid hl
            clear hl
            go_wp2_with fail
            go_quiet (fail)
            go_wp2_with fail
            have hB2 := fun n => below_drewN hB n
            have y0 := fun n => z0.drewN n
            have y1 := fun n => z1.drewN n
            clear g0 g1 s0 s1 s2 t0 t1 t2 hB z0 z1 hl'
            go_loopw [7] (fun iv wr => ∃ m : Nat, m ≤ x.length ∧ iv = .int .i64 (m : Int) ∧ Below w.heap.size w wr ∧ Blk wr w.heap.size 26 #[.slice a1 p.caps.length c1, .slice (some ⟨b, off, none⟩) p.codes.length c2, .slice a3 p.sites.length c3] ∧ Blk wr (w.heap.size + 1) 26 #[.slice b1 q.caps.length d1, .slice (some ⟨b', off', none⟩) q.codes.length d2, .slice b3 q.sites.length d3] ∧
              Hid (∀ j u v, j < m → x[j]? = some u → y[j]? = some v → In.eq u v = true)) (fun iv _ => x.length - (intOf iv).toNat)
            case atStart => exact ⟨0, Nat.zero_le _, rfl, hB2 _, y0 _, y1 _, Lib.hid (fun j u v hj => by omega)⟩
            case round =>
              clear hB2 y0 y1
              obtain ⟨m, hm, rfl, hB, z0, z1, HM⟩ := hrel
              have s0 : wr.cell? ⟨w.heap.size, 0, none⟩ = some (.slice a1 p.caps.length c1) := z0.cell rfl
              have s1 : wr.cell? ⟨w.heap.size, 1, none⟩ = some (.slice (some ⟨b, off, none⟩) p.codes.length c2) := z0.cell rfl
              have s2 : wr.cell? ⟨w.heap.size, 2, none⟩ = some (.slice a3 p.sites.length c3) := z0.cell rfl
              have t0 : wr.cell? ⟨w.heap.size + 1, 0, none⟩ = some (.slice b1 q.caps.length d1) := z1.cell rfl
              have t1 : wr.cell? ⟨w.heap.size + 1, 1, none⟩ = some (.slice (some ⟨b', off', none⟩) q.codes.length d2) := z1.cell rfl
              have t2 : wr.cell? ⟨w.heap.size + 1, 2, none⟩ = some (.slice b3 q.sites.length d3) := z1.cell rfl
              have g0 := cell_stay gw0 (hB.block b (Nat.lt_of_lt_of_le hbh h1.top))
              have g1 := cell_stay gw1 (hB.block b' (Nat.lt_of_lt_of_le hbh' h2.top))
              by_cases hltm : m < x.length
              · have hltm' : (m : Int) < (x.length : Int) := by omega
                have hltm2 : (m : Int) < (y.length : Int) := by have := HL.out; omega
                have m0 : (0 : Int) ≤ (m : Int) := by omega
                have hw2 : IntKind.i64.wrap ((m : Int) + 1) = (m : Int) + 1 := by rw [IntKind.wrap_i64]; omega
                obtain ⟨b2, off2, u, rfl, -, -, hu, -, e0, e1, e2, e3, e4⟩ := (hr0.stay (stay_below' hB h1.top)).at hltm
                obtain ⟨b3', off3, v, rfl, -, -, hv, -, f0, f1, f2, f3, f4⟩ := (hr1.stay (stay_below' hB h2.top)).at (show m < y.length by have := HL.out; omega)
                have HU := Lib.hid (And.intro hu hv)
                clear hu hv
                have hne := fun W => ne_run u v W
                cases hc : In.eq u v with
                | true =>
                  rw [hc] at hne
                  have HC := Lib.hid hc
                  clear hc
                  go_wp2_with fail
                  go_quiet (fail)
                  go_wp2_with fail
                  go_round
                  case rel =>
                    refine ⟨m + 1, by omega, by go_num, below_drewN hB _, z0.drewN _, z1.drewN _, Lib.hid (fun j u' v' hj hu' hv' => ?_)⟩
                    by_cases e : j = m
                    · subst e
                      rw [HU.out.1] at hu'
                      rw [HU.out.2] at hv'
                      cases hu'
                      cases hv'
                      exact HC.out
                    · exact HM.out j u' v' (by omega) hu' hv'
                  case measure => simp [intOf]; omega
                | false =>
                  rw [hc] at hne
                  have HE := Lib.hid (not_codes (same_at (f := sameL In.eq) HX.out.1 HX.out.2 (same_at HU.out.1 HU.out.2 hc)))
                  clear hc
                  go_wp2_with fail
                  go_quiet (fail)
                  go_wp2_with fail
                  go_ret
                  exact ⟨ret_v (congrArg Value.bool HE.out.symm), below_drewN hB _⟩
              · have hltm' : ¬ (m : Int) < (x.length : Int) := by omega
                have HS := Lib.hid (same_all (f := In.eq) HL.out (fun j u v hj hu hv => HM.out j u v (by omega) hu hv))
                clear HM
                go_wp2_with fail
                go_round
                case rel =>
                  refine ⟨k + 1, by omega, by go_num, hB, z0, z1, Lib.hid (fun j x' y' hj hx' hy' => ?_)⟩
                  by_cases e : j = k
                  · subst e
                    rw [HX.out.1] at hx'
                    rw [HX.out.2] at hy'
                    cases hx'
                    cases hy'
                    exact HS.out
                  · exact HN.out j x' y' (by omega) hx' hy'
                case measure => simp [intOf]; omega
        · have hlt' : ¬ (k : Int) < (p.codes.length : Int) := by omega
          have HA2 := Lib.hid (same_all (f := sameL In.eq) L2.out (fun j x y hj hx hy => HN.out j x y (by omega) hx hy))
          clear HN
          go_wp2_with fail
          clear s0 s1 s2 t0 t1 t2
          go_loopw [8] (fun iv wr => ∃ k : Nat, k ≤ p.sites.length ∧ iv = .int .i64 (k : Int) ∧ Below w.heap.size w wr ∧ Blk wr w.heap.size 26 #[.slice a1 p.caps.length c1, .slice a2 p.codes.length c2, .slice a3 p.sites.length c3] ∧ Blk wr (w.heap.size + 1) 26 #[.slice b1 q.caps.length d1, .slice b2 q.codes.length d2, .slice b3 q.sites.length d3] ∧
            Hid (∀ j x y, j < k → p.sites[j]? = some x → q.sites[j]? = some y → Sit.eq x y = true)) (fun iv _ => p.sites.length - (intOf iv).toNat)
          case atStart => exact ⟨0, Nat.zero_le _, rfl, hB, z0, z1, Lib.hid (fun j x y hj => by omega)⟩
          case round =>
            clear hB z0 z1 hk hlt hlt'
            obtain ⟨k, hk, rfl, hB, z0, z1, HN⟩ := hrel
            have s0 : wr.cell? ⟨w.heap.size, 0, none⟩ = some (.slice a1 p.caps.length c1) := z0.cell rfl
            have s1 : wr.cell? ⟨w.heap.size, 1, none⟩ = some (.slice a2 p.codes.length c2) := z0.cell rfl
            have s2 : wr.cell? ⟨w.heap.size, 2, none⟩ = some (.slice a3 p.sites.length c3) := z0.cell rfl
            have t0 : wr.cell? ⟨w.heap.size + 1, 0, none⟩ = some (.slice b1 q.caps.length d1) := z1.cell rfl
            have t1 : wr.cell? ⟨w.heap.size + 1, 1, none⟩ = some (.slice b2 q.codes.length d2) := z1.cell rfl
            have t2 : wr.cell? ⟨w.heap.size + 1, 2, none⟩ = some (.slice b3 q.sites.length d3) := z1.cell rfl
            by_cases hlt : k < p.sites.length
            · have hlt' : (k : Int) < (p.sites.length : Int) := by omega
              have hlt2 : (k : Int) < (q.sites.length : Int) := by have := L3.out; omega
              have k0 : (0 : Int) ≤ (k : Int) := by omega
              have hcl := hs.sites
              have hw1 : IntKind.i64.wrap ((k : Int) + 1) = (k : Int) + 1 := by rw [IntKind.wrap_i64]; omega
              obtain ⟨b, off, ra, rc, x, rfl, -, hbh, hx, gw0, gw0', hr0⟩ := h1.sites.at hlt
              obtain ⟨b', off', ra', rc', y, rfl, -, hbh', hy, gw1, gw1', hr1⟩ := h2.sites.at (show k < q.sites.length by have := L3.out; omega)
              have g0 := cell_stay gw0 (hB.block b (Nat.lt_of_lt_of_le hbh h1.top))
              have g1 := cell_stay gw1 (hB.block b' (Nat.lt_of_lt_of_le hbh' h2.top))
              have g0' := cell_stay gw0' (hB.block b (Nat.lt_of_lt_of_le hbh h1.top))
              have g1' := cell_stay gw1' (hB.block b' (Nat.lt_of_lt_of_le hbh' h2.top))
              have hxl := hs.site x (List.mem_of_getElem? hx)
              have HX := Lib.hid (And.intro hx hy)
              clear hx hy
              have q0 := z0.lt
              have q1 := z1.lt
              have q2 : b < wr.heap.size := Nat.lt_of_lt_of_le (Nat.lt_of_lt_of_le hbh h1.top) hB.size
              have q3 : b' < wr.heap.size := Nat.lt_of_lt_of_le (Nat.lt_of_lt_of_le hbh' h2.top) hB.size
              go_wp2_with fail
              go_region
              · obtain ⟨W', hW'⟩ : ∃ W', W' = (wr.alloc (.cells #[.slice ra x.cs.length rc, .bool x.d] 40)).alloc (.cells #[.slice ra' y.cs.length rc', .bool y.d] 40) := ⟨_, rfl⟩
                have hbw : Below wr.heap.size wr W'.drew := by rw [hW']; exact (below2 wr _ _).drew
                have k1 : Blk W'.drew wr.heap.size 40 #[.slice ra x.cs.length rc, .bool x.d] := by rw [hW']; exact ((blk_new wr _ _).alloc _).drew
                have k2 : Blk W'.drew (wr.heap.size + 1) 40 #[.slice ra' y.cs.length rc', .bool y.d] := by rw [hW']; exact (blk_at (World.size_alloc _ _).symm).drew
                rw [← hW']
                generalize W'.drew = Wd at hbw k1 k2 ⊢
                clear hW'
                obtain ⟨Y, hY⟩ : ∃ n, n = wr.heap.size + 1 := ⟨_, rfl⟩
                rw [← hY] at k2 ⊢
                obtain ⟨X, hX⟩ : ∃ n, n = wr.heap.size := ⟨_, rfl⟩
                rw [← hX] at k1 ⊢
                have hkx := k1
                have hky := k2
                clear k1 k2 hX hY
                have hBd := below_next hB hbw (Nat.le_refl _)
                have w0 := z0.later hbw z0.lt
                have w1 := z1.later hbw z1.lt
                clear s0 s1 s2 t0 t1 t2 g0 g1 g0' g1' hB z0 z1 hbw q0 q1 q2 q3
                have i0 : Wd.cell? ⟨X, 0, none⟩ = some (.slice ra x.cs.length rc) := hkx.cell rfl
                have i1 : Wd.cell? ⟨X, 1, none⟩ = some (.bool x.d) := hkx.cell rfl
                have j0 : Wd.cell? ⟨Y, 0, none⟩ = some (.slice ra' y.cs.length rc') := hky.cell rfl
                have j1 : Wd.cell? ⟨Y, 1, none⟩ = some (.bool y.d) := hky.cell rfl
                by_cases hd : x.d = y.d
                rotate_left 1
                · have hd' : (x.d == y.d) = false := by simpa using hd
                  have hd2 : (x.d != y.d) = true := by simp [bne, hd']
                  have HE := Lib.hid (not_sites (same_at (f := Sit.eq) HX.out.1 HX.out.2 (by unfold Sit.eq; rw [hd', Bool.false_and])))
                  go_wp2_with fail
                  go_ret
                  exact ⟨ret_v (congrArg Value.bool HE.out.symm), hBd⟩
                have hd' : (x.d == y.d) = true := by simpa using hd
                have hd2 : (x.d != y.d) = false := by simp [bne, hd']
                have HD := Lib.hid hd'
                clear hd
                by_cases hl : x.cs.length = y.cs.length
                rotate_left 1
                · have hl' : ((x.cs.length : Int) != (y.cs.length : Int)) = true := by simp; omega
                  have HE := Lib.hid (not_sites (same_at (f := Sit.eq) HX.out.1 HX.out.2 (by unfold Sit.eq; rw [same_len hl, Bool.and_false])))
                  clear hl
                  go_wp2_with fail
                  go_ret
                  exact ⟨ret_v (congrArg Value.bool HE.out.symm), hBd⟩
                have hl' : ((x.cs.length : Int) != (y.cs.length : Int)) = false := by simp; omega
                have HL := Lib.hid hl
                clear hl
                go_wp2_with fail
                clear hl' hd' hd2 i0 i1 j0 j1
                go_loopw [11] (fun iv wr => ∃ m : Nat, m ≤ x.cs.length ∧ iv = .int .i64 (m : Int) ∧ Below w.heap.size w wr ∧ Blk wr w.heap.size 26 #[.slice a1 p.caps.length c1, .slice a2 p.codes.length c2, .slice (some ⟨b, off, none⟩) p.sites.length c3] ∧ Blk wr (w.heap.size + 1) 26 #[.slice b1 q.caps.length d1, .slice b2 q.codes.length d2, .slice (some ⟨b', off', none⟩) q.sites.length d3] ∧ Blk wr X 40 #[.slice ra x.cs.length rc, .bool x.d] ∧ Blk wr Y 40 #[.slice ra' y.cs.length rc', .bool y.d] ∧
                  Hid (∀ j u v, j < m → x.cs[j]? = some u → y.cs[j]? = some v → Cas.eq u v = true)) (fun iv _ => x.cs.length - (intOf iv).toNat)
                case atStart => exact ⟨0, Nat.zero_le _, rfl, hBd, w0, w1, hkx, hky, Lib.hid (fun j u v hj => by omega)⟩
                case round =>
                  clear hBd w0 w1 hkx hky
                  obtain ⟨m, hm, rfl, hB, z0, z1, hkx, hky, HM⟩ := hrel
                  have i0 : wr.cell? ⟨X, 0, none⟩ = some (.slice ra x.cs.length rc) := hkx.cell rfl
                  have j0 : wr.cell? ⟨Y, 0, none⟩ = some (.slice ra' y.cs.length rc') := hky.cell rfl
                  by_cases hltm : m < x.cs.length
                  · have hltm' : (m : Int) < (x.cs.length : Int) := by omega
                    have hltm2 : (m : Int) < (y.cs.length : Int) := by have := HL.out; omega
                    have m0 : (0 : Int) ≤ (m : Int) := by omega
                    have hw2 : IntKind.i64.wrap ((m : Int) + 1) = (m : Int) + 1 := by rw [IntKind.wrap_i64]; omega
                    obtain ⟨b2, off2, u, rfl, -, -, hu, -, e0, e1, e2, e3⟩ := (hr0.stay (stay_below' hB h1.top)).at hltm
                    obtain ⟨b3', off3, v, rfl, -, -, hv, -, f0, f1, f2, f3⟩ := (hr1.stay (stay_below' hB h2.top)).at (show m < y.cs.length by have := HL.out; omega)
                    have HU := Lib.hid (And.intro hu hv)
                    clear hu hv
                    have hne := fun W => ne_runC u v W
                    cases hc : Cas.eq u v with
                    | true =>
                      rw [hc] at hne
                      have HC := Lib.hid hc
                      clear hc
                      go_wp2_with fail
                      go_quiet (fail)
                      go_wp2_with fail
                      go_round
                      case rel =>
                        refine ⟨m + 1, by omega, by go_num, below_drewN hB _, z0.drewN _, z1.drewN _, hkx.drewN _, hky.drewN _, Lib.hid (fun j u' v' hj hu' hv' => ?_)⟩
                        by_cases e : j = m
                        · subst e
                          rw [HU.out.1] at hu'
                          rw [HU.out.2] at hv'
                          cases hu'
                          cases hv'
                          exact HC.out
                        · exact HM.out j u' v' (by omega) hu' hv'
                      case measure => simp [intOf]; omega
                    | false =>
                      rw [hc] at hne
                      have HE := Lib.hid (not_sites (same_at (f := Sit.eq) HX.out.1 HX.out.2 (by unfold Sit.eq; rw [same_at HU.out.1 HU.out.2 hc, Bool.and_false])))
                      clear hc
                      go_wp2_with fail
                      go_quiet (fail)
                      go_wp2_with fail
                      go_ret
                      exact ⟨ret_v (congrArg Value.bool HE.out.symm), below_drewN hB _⟩
                  · have hltm' : ¬ (m : Int) < (x.cs.length : Int) := by omega
                    have HS := Lib.hid (same_all (f := Cas.eq) HL.out (fun j u v hj hu hv => HM.out j u v (by omega) hu hv))
                    clear HM
                    go_wp2_with fail
                    go_round
                    case rel =>
                      refine ⟨k + 1, by omega, by go_num, hB, z0, z1, Lib.hid (fun j x' y' hj hx' hy' => ?_)⟩
                      by_cases e : j = k
                      · subst e
                        rw [HX.out.1] at hx'
                        rw [HX.out.2] at hy'
                        cases hx'
                        cases hy'
                        unfold Sit.eq
                        rw [HD.out, HS.out]; rfl
                      · exact HN.out j x' y' (by omega) hx' hy'
                    case measure => simp [intOf]; omega
              · obtain ⟨W', hW'⟩ : ∃ W', W' = (wr.alloc (.cells #[.slice ra' y.cs.length rc', .bool y.d] 40)).alloc (.cells #[.slice ra x.cs.length rc, .bool x.d] 40) := ⟨_, rfl⟩
                have hbw : Below wr.heap.size wr W'.drew := by rw [hW']; exact (below2 wr _ _).drew
                have k1 : Blk W'.drew wr.heap.size 40 #[.slice ra' y.cs.length rc', .bool y.d] := by rw [hW']; exact ((blk_new wr _ _).alloc _).drew
                have k2 : Blk W'.drew (wr.heap.size + 1) 40 #[.slice ra x.cs.length rc, .bool x.d] := by rw [hW']; exact (blk_at (World.size_alloc _ _).symm).drew
                rw [← hW']
                generalize W'.drew = Wd at hbw k1 k2 ⊢
                clear hW'
                obtain ⟨X, hX⟩ : ∃ n, n = wr.heap.size + 1 := ⟨_, rfl⟩
                rw [← hX] at k2 ⊢
                obtain ⟨Y, hY⟩ : ∃ n, n = wr.heap.size := ⟨_, rfl⟩
                rw [← hY] at k1 ⊢
                have hkx := k2
                have hky := k1
                clear k1 k2 hX hY
                have hBd := below_next hB hbw (Nat.le_refl _)
                have w0 := z0.later hbw z0.lt
                have w1 := z1.later hbw z1.lt
                clear s0 s1 s2 t0 t1 t2 g0 g1 g0' g1' hB z0 z1 hbw q0 q1 q2 q3
                have i0 : Wd.cell? ⟨X, 0, none⟩ = some (.slice ra x.cs.length rc) := hkx.cell rfl
                have i1 : Wd.cell? ⟨X, 1, none⟩ = some (.bool x.d) := hkx.cell rfl
                have j0 : Wd.cell? ⟨Y, 0, none⟩ = some (.slice ra' y.cs.length rc') := hky.cell rfl
                have j1 : Wd.cell? ⟨Y, 1, none⟩ = some (.bool y.d) := hky.cell rfl
                by_cases hd : x.d = y.d
                rotate_left 1
                · have hd' : (x.d == y.d) = false := by simpa using hd
                  have hd2 : (x.d != y.d) = true := by simp [bne, hd']
                  have HE := Lib.hid (not_sites (same_at (f := Sit.eq) HX.out.1 HX.out.2 (by unfold Sit.eq; rw [hd', Bool.false_and])))
                  go_wp2_with fail
                  go_ret
                  exact ⟨ret_v (congrArg Value.bool HE.out.symm), hBd⟩
                have hd' : (x.d == y.d) = true := by simpa using hd
                have hd2 : (x.d != y.d) = false := by simp [bne, hd']
                have HD := Lib.hid hd'
                clear hd
                by_cases hl : x.cs.length = y.cs.length
                rotate_left 1
                · have hl' : ((x.cs.length : Int) != (y.cs.length : Int)) = true := by simp; omega
                  have HE := Lib.hid (not_sites (same_at (f := Sit.eq) HX.out.1 HX.out.2 (by unfold Sit.eq; rw [same_len hl, Bool.and_false])))
                  clear hl
                  go_wp2_with fail
                  go_ret
                  exact ⟨ret_v (congrArg Value.bool HE.out.symm), hBd⟩
                have hl' : ((x.cs.length : Int) != (y.cs.length : Int)) = false := by simp; omega
                have HL := Lib.hid hl
                clear hl
                go_wp2_with fail
                clear hl' hd' hd2 i0 i1 j0 j1
                go_loopw [11] (fun iv wr => ∃ m : Nat, m ≤ x.cs.length ∧ iv = .int .i64 (m : Int) ∧ Below w.heap.size w wr ∧ Blk wr w.heap.size 26 #[.slice a1 p.caps.length c1, .slice a2 p.codes.length c2, .slice (some ⟨b, off, none⟩) p.sites.length c3] ∧ Blk wr (w.heap.size + 1) 26 #[.slice b1 q.caps.length d1, .slice b2 q.codes.length d2, .slice (some ⟨b', off', none⟩) q.sites.length d3] ∧ Blk wr X 40 #[.slice ra x.cs.length rc, .bool x.d] ∧ Blk wr Y 40 #[.slice ra' y.cs.length rc', .bool y.d] ∧
                  Hid (∀ j u v, j < m → x.cs[j]? = some u → y.cs[j]? = some v → Cas.eq u v = true)) (fun iv _ => x.cs.length - (intOf iv).toNat)
                case atStart => exact ⟨0, Nat.zero_le _, rfl, hBd, w0, w1, hkx, hky, Lib.hid (fun j u v hj => by omega)⟩
                case round =>
                  clear hBd w0 w1 hkx hky
                  obtain ⟨m, hm, rfl, hB, z0, z1, hkx, hky, HM⟩ := hrel
                  have i0 : wr.cell? ⟨X, 0, none⟩ = some (.slice ra x.cs.length rc) := hkx.cell rfl
                  have j0 : wr.cell? ⟨Y, 0, none⟩ = some (.slice ra' y.cs.length rc') := hky.cell rfl
                  by_cases hltm : m < x.cs.length
                  · have hltm' : (m : Int) < (x.cs.length : Int) := by omega
                    have hltm2 : (m : Int) < (y.cs.length : Int) := by have := HL.out; omega
                    have m0 : (0 : Int) ≤ (m : Int) := by omega
                    have hw2 : IntKind.i64.wrap ((m : Int) + 1) = (m : Int) + 1 := by rw [IntKind.wrap_i64]; omega
                    obtain ⟨b2, off2, u, rfl, -, -, hu, -, e0, e1, e2, e3⟩ := (hr0.stay (stay_below' hB h1.top)).at hltm
                    obtain ⟨b3', off3, v, rfl, -, -, hv, -, f0, f1, f2, f3⟩ := (hr1.stay (stay_below' hB h2.top)).at (show m < y.cs.length by have := HL.out; omega)
                    have HU := Lib.hid (And.intro hu hv)
                    clear hu hv
                    have hne := fun W => ne_runC u v W
                    cases hc : Cas.eq u v with
                    | true =>
                      rw [hc] at hne
                      have HC := Lib.hid hc
                      clear hc
                      go_wp2_with fail
                      go_quiet (fail)
                      go_wp2_with fail
                      go_round
                      case rel =>
                        refine ⟨m + 1, by omega, by go_num, below_drewN hB _, z0.drewN _, z1.drewN _, hkx.drewN _, hky.drewN _, Lib.hid (fun j u' v' hj hu' hv' => ?_)⟩
                        by_cases e : j = m
                        · subst e
                          rw [HU.out.1] at hu'
                          rw [HU.out.2] at hv'
                          cases hu'
                          cases hv'
                          exact HC.out
                        · exact HM.out j u' v' (by omega) hu' hv'
                      case measure => simp [intOf]; omega
                    | false =>
                      rw [hc] at hne
                      have HE := Lib.hid (not_sites (same_at (f := Sit.eq) HX.out.1 HX.out.2 (by unfold Sit.eq; rw [same_at HU.out.1 HU.out.2 hc, Bool.and_false])))
                      clear hc
                      go_wp2_with fail
                      go_quiet (fail)
                      go_wp2_with fail
                      go_ret
                      exact ⟨ret_v (congrArg Value.bool HE.out.symm), below_drewN hB _⟩
                  · have hltm' : ¬ (m : Int) < (x.cs.length : Int) := by omega
                    have HS := Lib.hid (same_all (f := Cas.eq) HL.out (fun j u v hj hu hv => HM.out j u v (by omega) hu hv))
                    clear HM
                    go_wp2_with fail
                    go_round
                    case rel =>
                      refine ⟨k + 1, by omega, by go_num, hB, z0, z1, Lib.hid (fun j x' y' hj hx' hy' => ?_)⟩
                      by_cases e : j = k
                      · subst e
                        rw [HX.out.1] at hx'
                        rw [HX.out.2] at hy'
                        cases hx'
                        cases hy'
                        unfold Sit.eq
                        rw [HD.out, HS.out]; rfl
                      · exact HN.out j x' y' (by omega) hx' hy'
                    case measure => simp [intOf]; omega
            · have hlt' : ¬ (k : Int) < (p.sites.length : Int) := by omega
              have HA3 := Lib.hid (same_all (f := Sit.eq) L3.out (fun j x y hj hx hy => HN.out j x y (by omega) hx hy))
              have HE : Hid (samePrg p q = true) := Lib.hid (by rw [samePrg, HA.out, HA2.out, HA3.out]; rfl)
              clear HN
              go_wp2_with fail
              go_ret
              exact ⟨ret_v (congrArg Value.bool HE.out.symm), hB⟩
end Go.Proofs.YtakgcienodigpaaGreat
