/-
  The walk of Check: four checks in a row of method values; what one of them panics with is told.
-/
import Derived.Test.YtamkmmpockmpfaaGCatch
namespace Go.Proofs.Ytamkmmpockmpfaa
open Go.RowKit

/-- No row is longer than the walks bear. -/
structure Small (p : Prg) : Prop where
  caps : p.caps.length ≤ 1000000
  codes : p.codes.length ≤ 1000000
  sites : p.sites.length ≤ 1000000
  code : ∀ x ∈ p.codes, x.length ≤ 1000000
  site : ∀ x ∈ p.sites, x.cs.length ≤ 1000000
def fnV (f : FuncId) (v1 v2 v3 : Value) : Value := .func (.func f) #[.agg #[v1, v2, v3]] #[]
def fns (v1 v2 v3 : Value) : Array Value := #[.func (.func 30) #[.agg #[v1, v2, v3]] #[], .func (.func 31) #[.agg #[v1, v2, v3]] #[], .func (.func 32) #[.agg #[v1, v2, v3]] #[], .func (.func 33) #[.agg #[v1, v2, v3]] #[]]
theorem Res.later {W W' : World} {B n : Nat} {x y z : Int} (h : Res W B x y z) (hb : Below n W W') (hn : B + 1 + 1 < n) : Res W' B x y z := ⟨h.a.later hb (by omega), h.b.later hb (by omega), h.c.later hb hn⟩

theorem mem6 (w : World) (v1 v2 v3 : Value) :
    ∀ W, W = (((((w.alloc (.cells #[v1, v2, v3] 26)).alloc (.cells #[.int .i64 0] 3)).alloc (.cells #[.int .i64 0] 3)).alloc (.cells #[.int .i64 0] 31)).alloc (.cells #[v1, v2, v3] 85)).alloc (.cells (fns v1 v2 v3) 1) →
    Below w.heap.size w W ∧ Res W (w.heap.size + 1) 0 0 0 ∧ Blk W (w.heap.size + 1 + 1 + 1 + 1 + 1) 1 (fns v1 v2 v3) := by
  rintro W rfl
  obtain ⟨w1, h1⟩ : ∃ w1, w1 = w.alloc (.cells #[v1, v2, v3] 26) := ⟨_, rfl⟩
  have s1 : w1.heap.size = w.heap.size + 1 := by rw [h1]; exact World.size_alloc _ _
  have b1 : Below w.heap.size w w1 := by rw [h1]; exact (Below.refl _ w).alloc (Nat.le_refl _) _
  rw [← h1]
  have x1 := blk_new w1 3 #[.int .i64 0]
  obtain ⟨w2, h2⟩ : ∃ w2, w2 = w1.alloc (.cells #[.int .i64 0] 3) := ⟨_, rfl⟩
  have s2 : w2.heap.size = w.heap.size + 1 + 1 := by rw [h2, World.size_alloc, s1]
  rw [← h2] at x1 ⊢
  rw [s1] at x1
  have b2 : Below w.heap.size w w2 := by rw [h2]; exact b1.alloc (by omega) _
  have x2 := blk_new w2 3 #[.int .i64 0]
  obtain ⟨w3, h3⟩ : ∃ w3, w3 = w2.alloc (.cells #[.int .i64 0] 3) := ⟨_, rfl⟩
  have s3 : w3.heap.size = w.heap.size + 1 + 1 + 1 := by rw [h3, World.size_alloc, s2]
  rw [← h3] at x2 ⊢
  rw [s2] at x2
  have y1 : Blk w3 (w.heap.size + 1) 3 #[.int .i64 0] := by rw [h3]; exact x1.alloc _
  have b3 : Below w.heap.size w w3 := by rw [h3]; exact b2.alloc (by omega) _
  have x3 := blk_new w3 31 #[.int .i64 0]
  obtain ⟨w4, h4⟩ : ∃ w4, w4 = w3.alloc (.cells #[.int .i64 0] 31) := ⟨_, rfl⟩
  have s4 : w4.heap.size = w.heap.size + 1 + 1 + 1 + 1 := by rw [h4, World.size_alloc, s3]
  rw [← h4] at x3 ⊢
  rw [s3] at x3
  have y2 : Blk w4 (w.heap.size + 1 + 1) 3 #[.int .i64 0] := by rw [h4]; exact x2.alloc _
  have z1 : Blk w4 (w.heap.size + 1) 3 #[.int .i64 0] := by rw [h4]; exact y1.alloc _
  have b4 : Below w.heap.size w w4 := by rw [h4]; exact b3.alloc (by omega) _
  obtain ⟨w5, h5⟩ : ∃ w5, w5 = w4.alloc (.cells #[v1, v2, v3] 85) := ⟨_, rfl⟩
  have s5 : w5.heap.size = w.heap.size + 1 + 1 + 1 + 1 + 1 := by rw [h5, World.size_alloc, s4]
  have b5 : Below w.heap.size w w5 := by rw [h5]; exact b4.alloc (by omega) _
  have r5 : Res w5 (w.heap.size + 1) 0 0 0 := by rw [h5]; exact ⟨z1.alloc _, y2.alloc _, x3.alloc _⟩
  rw [← h5]
  have x6 := blk_new w5 1 (fns v1 v2 v3)
  rw [s5] at x6
  exact ⟨b5.alloc (by omega) _, ⟨r5.a.alloc _, r5.b.alloc _, r5.c.alloc _⟩, x6⟩
theorem codes_pos {a b : Int} {l : List (List In)} (h : codesW a b l = none) : ∀ x ∈ l, 0 < x.length := by
  intro x hx
  obtain ⟨k, hk, rfl⟩ := List.mem_iff_getElem.1 hx
  unfold codesW at h
  rw [Option.or_eq_none_iff, firstI_none] at h
  have := h.2 k _ (List.getElem?_eq_getElem hk)
  unfold codeW at this
  rw [Option.or_eq_none_iff] at this
  have h1 := this.1
  unfold wrongIf at h1
  by_cases hw : withinB (l[k].length : Int) 1 40 = true
  · unfold withinB at hw; simp at hw; omega
  · rw [if_neg hw] at h1; cases h1
theorem checkT_some {p : Prg} {x : Wr} (h : checkW p = some x) : checkT p = x := by simp [checkT, h]
theorem checkT_none {p : Prg} (h : checkW p = none) : checkT p = (0, 0, 0) := by simp [checkT, h]

theorem check_dies (w w1 : World) (T : Array Value) (p : Prg) (x y z : Int) (hx : checkW p = some (x, y, z)) (h2 : T[2]?.getD undef = .pointer (some ⟨w.heap.size + 1, 0, none⟩)) (h3 : T[3]?.getD undef = .pointer (some ⟨w.heap.size + 1 + 1, 0, none⟩)) (h4 : T[4]?.getD undef = .pointer (some ⟨w.heap.size + 1 + 1 + 1, 0, none⟩))
    (hB : Below w.heap.size w w1) (hR : Res w1 (w.heap.size + 1) 0 0 0) :
    bodyPostD Try.prog Try.f15 (fun e w' => e = .returned (.tuple #[.int .i64 (checkT p).1, .int .i64 (checkT p).2.1, .int .i64 (checkT p).2.2]) ∧ Below w.heap.size w w') (.panic [{ v := .iface 82 (.agg #[.int .i64 x, .int .i64 y, .int .i64 z]), recovered := false }]) { tmps := T, defers := [{ target := Target.fn (.func 29) #[.pointer (some ⟨w.heap.size + 1, 0, none⟩), .pointer (some ⟨w.heap.size + 1 + 1, 0, none⟩), .pointer (some ⟨w.heap.size + 1 + 1 + 1, 0, none⟩)], args := #[] }] } w1 := by
  have e := checkT_some hx
  refine leaves_cons (f := 29) (args := #[.pointer (some ⟨w.heap.size + 1, 0, none⟩), .pointer (some ⟨w.heap.size + 1 + 1, 0, none⟩), .pointer (some ⟨w.heap.size + 1 + 1 + 1, 0, none⟩)]) (by simp) (by simp [go_sem]) ?_
  refine (catch_wrong (w.heap.size + 1) x y z [] w1 0 0 0 hR).mono ?_
  rintro e' u' w'' ⟨rfl, rfl, hR', hbt⟩
  have q0 : w''.cell? ⟨w.heap.size + 1, 0, none⟩ = some (.int .i64 x) := hR'.a.cell rfl
  have q1 : w''.cell? ⟨w.heap.size + 1 + 1, 0, none⟩ = some (.int .i64 y) := hR'.b.cell rfl
  have q2 : w''.cell? ⟨w.heap.size + 1 + 1 + 1, 0, none⟩ = some (.int .i64 z) := hR'.c.cell rfl
  have hbb : Below w.heap.size w w'' := hB.trans (hbt.below hB.size (by simp; omega))
  simp [Leaves, settle, results, Try.f15, go_sem, h2, h3, h4, q0, q1, q2, e, hbb]
theorem res_put {w : World} {B : Nat} {x0 y0 z0 : Int} (h : Res w B x0 y0 z0) (x y z : Int) :
    Res (((w.setCell ⟨B, 0, none⟩ (.int .i64 x)).setCell ⟨B + 1, 0, none⟩ (.int .i64 y)).setCell ⟨B + 1 + 1, 0, none⟩ (.int .i64 z)) B x y z ∧
    But [B, B + 1, B + 1 + 1] w (((w.setCell ⟨B, 0, none⟩ (.int .i64 x)).setCell ⟨B + 1, 0, none⟩ (.int .i64 y)).setCell ⟨B + 1 + 1, 0, none⟩ (.int .i64 z)) := by
  refine ⟨⟨?_, ?_, ?_⟩, ?_⟩
  · exact ((h.a.set 0 (.int .i64 x)).beside (p := ⟨B + 1, 0, none⟩) (by simp) _).beside (p := ⟨B + 1 + 1, 0, none⟩) (by simp; try omega) _
  · exact ((h.b.beside (p := ⟨B, 0, none⟩) (by simp) (.int .i64 x)).set 0 (.int .i64 y)).beside (p := ⟨B + 1 + 1, 0, none⟩) (by simp; try omega) _
  · exact ((h.c.beside (p := ⟨B, 0, none⟩) (by simp; try omega) (.int .i64 x)).beside (p := ⟨B + 1, 0, none⟩) (by simp) (.int .i64 y)).set 0 (.int .i64 z)
  · exact (((But.refl [B, B + 1, B + 1 + 1] w).set (p := ⟨B, 0, none⟩) (.inl (by simp)) _).set (p := ⟨B + 1, 0, none⟩) (.inl (by simp)) _).set (p := ⟨B + 1 + 1, 0, none⟩) (.inl (by simp)) _
theorem check_ends (w w1 : World) (T : Array Value) (p : Prg) (hx : checkW p = none) (h2 : T[2]?.getD undef = .pointer (some ⟨w.heap.size + 1, 0, none⟩)) (h3 : T[3]?.getD undef = .pointer (some ⟨w.heap.size + 1 + 1, 0, none⟩)) (h4 : T[4]?.getD undef = .pointer (some ⟨w.heap.size + 1 + 1 + 1, 0, none⟩))
    (hB : Below w.heap.size w w1) (hR : Res w1 (w.heap.size + 1) 0 0 0) :
    bodyPostD Try.prog Try.f15 (fun e w' => e = .returned (.tuple #[.int .i64 (checkT p).1, .int .i64 (checkT p).2.1, .int .i64 (checkT p).2.2]) ∧ Below w.heap.size w w') .ret { tmps := T, defers := [{ target := Target.fn (.func 29) #[.pointer (some ⟨w.heap.size + 1, 0, none⟩), .pointer (some ⟨w.heap.size + 1 + 1, 0, none⟩), .pointer (some ⟨w.heap.size + 1 + 1 + 1, 0, none⟩)], args := #[] }] } w1 := by
  have e := checkT_none hx
  refine leaves_cons (f := 29) (args := #[.pointer (some ⟨w.heap.size + 1, 0, none⟩), .pointer (some ⟨w.heap.size + 1 + 1, 0, none⟩), .pointer (some ⟨w.heap.size + 1 + 1 + 1, 0, none⟩)]) (by simp) (by simp [go_sem]) ?_
  refine (catch_idle (w.heap.size + 1) w1).mono ?_
  rintro e' u' w'' ⟨rfl, rfl, hbt⟩
  have l0 := hR.c.lt
  have hR' := hR.later hbt l0
  have q0 : w''.cell? ⟨w.heap.size + 1, 0, none⟩ = some (.int .i64 0) := hR'.a.cell rfl
  have q1 : w''.cell? ⟨w.heap.size + 1 + 1, 0, none⟩ = some (.int .i64 0) := hR'.b.cell rfl
  have q2 : w''.cell? ⟨w.heap.size + 1 + 1 + 1, 0, none⟩ = some (.int .i64 0) := hR'.c.cell rfl
  have hbb : Below w.heap.size w w'' := below_next hB hbt (Nat.le_refl _)
  simp [Leaves, settle, results, Try.f15, go_sem, h2, h3, h4, q0, q1, q2, e, hbb]

set_option maxRecDepth 100000 in
set_option maxHeartbeats 1600000 in
theorem progCheck_any {lo hi : Nat} {v1 v2 v3 : Value} {p : Prg} (w : World) (h : PrgAt lo hi w v1 v2 v3 p) (hs : Small p) :
    Calls Try.prog 15 #[.agg #[v1, v2, v3]] w fun e w' => e = .returned (.tuple #[.int .i64 (checkT p).1, .int .i64 (checkT p).2.1, .int .i64 (checkT p).2.2]) ∧ Below w.heap.size w w' := by
  obtain ⟨a1, c1, rfl⟩ := h.caps.slice
  obtain ⟨a2, c2, rfl⟩ := h.codes.slice
  obtain ⟨a3, c3, rfl⟩ := h.sites.slice
  have hmf : ∀ (fn : Fn) (first cap : Array Value) (w : World), (Instr.makeFunc fn first cap).run Try.prog w = .ok (.func fn first cap) w := fun _ _ _ _ => rfl
  go_enter_defers Try.func15, Try.ntmps15
  go_wp2_with fail
  obtain ⟨hB0, hR0, hF0⟩ := mem6 w (.slice a1 p.caps.length c1) (.slice a2 p.codes.length c2) (.slice a3 p.sites.length c3) _ rfl
  go_loopw [21] (fun iv wr => ∃ k : Nat, k ≤ 4 ∧ iv = .int .i64 (k : Int) ∧ Below w.heap.size w wr ∧ Res wr (w.heap.size + 1) 0 0 0 ∧ Blk wr (w.heap.size + 1 + 1 + 1 + 1 + 1) 1 (fns (.slice a1 p.caps.length c1) (.slice a2 p.codes.length c2) (.slice a3 p.sites.length c3)) ∧
    Hid ((1 ≤ k → chansW p.caps = none) ∧ (2 ≤ k → sitesW p.caps.length p.sites = none) ∧ (3 ≤ k → codesW p.caps.length p.sites.length p.codes = none) ∧ (4 ≤ k → fallsW p.codes = none))) (fun iv _ => 4 - (intOf iv).toNat)
  case atStart => exact ⟨0, by omega, rfl, hB0, hR0, hF0, Lib.hid ⟨fun h => by omega, fun h => by omega, fun h => by omega, fun h => by omega⟩⟩
  case round =>
    clear hB0 hR0 hF0
    obtain ⟨k, hk, rfl, hB, hR, hF, HN⟩ := hrel
    have f0 : wr.cell? ⟨w.heap.size + 1 + 1 + 1 + 1 + 1, 0, none⟩ = some (.func (.func 30) #[.agg #[.slice a1 p.caps.length c1, .slice a2 p.codes.length c2, .slice a3 p.sites.length c3]] #[]) := hF.cell rfl
    have f1 : wr.cell? ⟨w.heap.size + 1 + 1 + 1 + 1 + 1, 1, none⟩ = some (.func (.func 31) #[.agg #[.slice a1 p.caps.length c1, .slice a2 p.codes.length c2, .slice a3 p.sites.length c3]] #[]) := hF.cell rfl
    have f2 : wr.cell? ⟨w.heap.size + 1 + 1 + 1 + 1 + 1, 2, none⟩ = some (.func (.func 32) #[.agg #[.slice a1 p.caps.length c1, .slice a2 p.codes.length c2, .slice a3 p.sites.length c3]] #[]) := hF.cell rfl
    have f3 : wr.cell? ⟨w.heap.size + 1 + 1 + 1 + 1 + 1, 3, none⟩ = some (.func (.func 33) #[.agg #[.slice a1 p.caps.length c1, .slice a2 p.codes.length c2, .slice a3 p.sites.length c3]] #[]) := hF.cell rfl
    have hsz : w.heap.size + 1 + 1 + 1 < wr.heap.size := by have := hF.lt; omega
    rcases (by omega : k = 0 ∨ k = 1 ∨ k = 2 ∨ k = 3 ∨ k = 4) with rfl | rfl | rfl | rfl | rfl
    · have hc := channels_any wr (h.later hB) hs.caps
      cases hw : chansW p.caps with
      | none =>
        have hc' : Calls Try.prog 30 #[.agg #[.slice a1 p.caps.length c1, .slice a2 p.codes.length c2, .slice a3 p.sites.length c3]] wr fun e w' => e = .returned (.tuple #[]) ∧ Below wr.heap.size wr w' := by rw [hw] at hc; exact hc
        clear hc hw
        go_wp2_with (go_at_call 30; refine hc'.mono ?_; rintro e w1 ⟨rfl, hb1⟩)
        go_round
        case rel => exact ⟨1, by omega, rfl, below_next hB hb1 (Nat.le_refl _), hR.later hb1 hsz, hF.later hb1 hF.lt, Lib.hid ⟨fun _ => trivial, fun h => by omega, fun h => by omega, fun h => by omega⟩⟩
        case measure => simp [intOf]
      | some x =>
        obtain ⟨x, y, z⟩ := x
        have hc' : Calls Try.prog 30 #[.agg #[.slice a1 p.caps.length c1, .slice a2 p.codes.length c2, .slice a3 p.sites.length c3]] wr fun e w' => e = .panicked [{ v := .iface 82 (.agg #[.int .i64 x, .int .i64 y, .int .i64 z]), recovered := false }] ∧ Below wr.heap.size wr w' := by rw [hw] at hc; exact hc
        have HX : Hid (checkW p = some (x, y, z)) := Lib.hid (by rw [checkW, hw]; rfl)
        clear hc hw
        go_wp2_with (go_at_call 30; refine hc'.mono ?_; rintro e w1 ⟨rfl, hb1⟩)
        exact check_dies w w1 _ p x y z HX.out rfl rfl rfl (below_next hB hb1 (Nat.le_refl _)) (hR.later hb1 hsz)
    · have hc := sites_any wr (h.later hB) hs.sites hs.caps hs.site
      cases hw : sitesW p.caps.length p.sites with
      | none =>
        have hc' : Calls Try.prog 31 #[.agg #[.slice a1 p.caps.length c1, .slice a2 p.codes.length c2, .slice a3 p.sites.length c3]] wr fun e w' => e = .returned (.tuple #[]) ∧ Below wr.heap.size wr w' := by rw [hw] at hc; exact hc
        clear hc hw
        go_wp2_with (go_at_call 31; refine hc'.mono ?_; rintro e w1 ⟨rfl, hb1⟩)
        go_round
        case rel => exact ⟨2, by omega, rfl, below_next hB hb1 (Nat.le_refl _), hR.later hb1 hsz, hF.later hb1 hF.lt, Lib.hid ⟨fun _ => HN.out.1 (by omega), fun _ => trivial, fun h => by omega, fun h => by omega⟩⟩
        case measure => simp [intOf]
      | some x =>
        obtain ⟨x, y, z⟩ := x
        have hc' : Calls Try.prog 31 #[.agg #[.slice a1 p.caps.length c1, .slice a2 p.codes.length c2, .slice a3 p.sites.length c3]] wr fun e w' => e = .panicked [{ v := .iface 82 (.agg #[.int .i64 x, .int .i64 y, .int .i64 z]), recovered := false }] ∧ Below wr.heap.size wr w' := by rw [hw] at hc; exact hc
        have HX : Hid (checkW p = some (x, y, z)) := Lib.hid (by rw [checkW, (HN.out.1 (by omega)), Option.none_or, hw]; rfl)
        clear hc hw
        go_wp2_with (go_at_call 31; refine hc'.mono ?_; rintro e w1 ⟨rfl, hb1⟩)
        exact check_dies w w1 _ p x y z HX.out rfl rfl rfl (below_next hB hb1 (Nat.le_refl _)) (hR.later hb1 hsz)
    · have hc := codes_any wr (h.later hB) hs.codes hs.code
      cases hw : codesW p.caps.length p.sites.length p.codes with
      | none =>
        have hc' : Calls Try.prog 32 #[.agg #[.slice a1 p.caps.length c1, .slice a2 p.codes.length c2, .slice a3 p.sites.length c3]] wr fun e w' => e = .returned (.tuple #[]) ∧ Below wr.heap.size wr w' := by rw [hw] at hc; exact hc
        clear hc hw
        go_wp2_with (go_at_call 32; refine hc'.mono ?_; rintro e w1 ⟨rfl, hb1⟩)
        go_round
        case rel => exact ⟨3, by omega, rfl, below_next hB hb1 (Nat.le_refl _), hR.later hb1 hsz, hF.later hb1 hF.lt, Lib.hid ⟨fun _ => HN.out.1 (by omega), fun _ => HN.out.2.1 (by omega), fun _ => trivial, fun h => by omega⟩⟩
        case measure => simp [intOf]
      | some x =>
        obtain ⟨x, y, z⟩ := x
        have hc' : Calls Try.prog 32 #[.agg #[.slice a1 p.caps.length c1, .slice a2 p.codes.length c2, .slice a3 p.sites.length c3]] wr fun e w' => e = .panicked [{ v := .iface 82 (.agg #[.int .i64 x, .int .i64 y, .int .i64 z]), recovered := false }] ∧ Below wr.heap.size wr w' := by rw [hw] at hc; exact hc
        have HX : Hid (checkW p = some (x, y, z)) := Lib.hid (by rw [checkW, (HN.out.1 (by omega)), Option.none_or, (HN.out.2.1 (by omega)), Option.none_or, hw]; rfl)
        clear hc hw
        go_wp2_with (go_at_call 32; refine hc'.mono ?_; rintro e w1 ⟨rfl, hb1⟩)
        exact check_dies w w1 _ p x y z HX.out rfl rfl rfl (below_next hB hb1 (Nat.le_refl _)) (hR.later hb1 hsz)
    · have hc := falls_any wr (h.later hB) hs.codes (fun x hx => ⟨codes_pos (HN.out.2.2.1 (by omega)) x hx, hs.code x hx⟩)
      cases hw : fallsW p.codes with
      | none =>
        have hc' : Calls Try.prog 33 #[.agg #[.slice a1 p.caps.length c1, .slice a2 p.codes.length c2, .slice a3 p.sites.length c3]] wr fun e w' => e = .returned (.tuple #[]) ∧ Below wr.heap.size wr w' := by rw [hw] at hc; exact hc
        clear hc hw
        go_wp2_with (go_at_call 33; refine hc'.mono ?_; rintro e w1 ⟨rfl, hb1⟩)
        go_round
        case rel => exact ⟨4, by omega, rfl, below_next hB hb1 (Nat.le_refl _), hR.later hb1 hsz, hF.later hb1 hF.lt, Lib.hid ⟨fun _ => HN.out.1 (by omega), fun _ => HN.out.2.1 (by omega), fun _ => HN.out.2.2.1 (by omega), fun _ => trivial⟩⟩
        case measure => simp [intOf]
      | some x =>
        obtain ⟨x, y, z⟩ := x
        have hc' : Calls Try.prog 33 #[.agg #[.slice a1 p.caps.length c1, .slice a2 p.codes.length c2, .slice a3 p.sites.length c3]] wr fun e w' => e = .panicked [{ v := .iface 82 (.agg #[.int .i64 x, .int .i64 y, .int .i64 z]), recovered := false }] ∧ Below wr.heap.size wr w' := by rw [hw] at hc; exact hc
        have HX : Hid (checkW p = some (x, y, z)) := Lib.hid (by rw [checkW, (HN.out.1 (by omega)), Option.none_or, (HN.out.2.1 (by omega)), Option.none_or, (HN.out.2.2.1 (by omega)), Option.none_or]; exact hw)
        clear hc hw
        go_wp2_with (go_at_call 33; refine hc'.mono ?_; rintro e w1 ⟨rfl, hb1⟩)
        exact check_dies w w1 _ p x y z HX.out rfl rfl rfl (below_next hB hb1 (Nat.le_refl _)) (hR.later hb1 hsz)
    · have HX : Hid (checkW p = none) := Lib.hid (by rw [checkW, (HN.out.1 (by omega)), Option.none_or, (HN.out.2.1 (by omega)), Option.none_or, (HN.out.2.2.1 (by omega)), Option.none_or]; exact HN.out.2.2.2 (by omega))
      have g0 := hR.a.frozen 0
      have g1 := hR.b.frozen 0
      have g2 := hR.c.frozen 0
      have q0 : wr.cell? ⟨w.heap.size + 1, 0, none⟩ = some (.int .i64 0) := hR.a.cell rfl
      have q1 : wr.cell? ⟨w.heap.size + 1 + 1, 0, none⟩ = some (.int .i64 0) := hR.b.cell rfl
      have q2 : wr.cell? ⟨w.heap.size + 1 + 1 + 1, 0, none⟩ = some (.int .i64 0) := hR.c.cell rfl
      go_wp2_with fail
      obtain ⟨r1, r2⟩ := res_put hR 0 0 0
      exact check_ends w _ _ p HX.out rfl rfl rfl (hB.trans (r2.below hB.size (by simp; omega))) r1
end Go.Proofs.Ytamkmmpockmpfaa
