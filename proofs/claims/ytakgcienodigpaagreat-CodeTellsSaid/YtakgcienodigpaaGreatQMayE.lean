/-
  The walks of what the document answers to: may a program be?
-/
import Derived.Test.YtakgcienodigpaaGreatQRefB
import Derived.Test.YtakgcienodigpaaGreatKPutAll
import Derived.Deep.RegionHeld3
namespace Go.Proofs.YtakgcienodigpaaGreat
open Go.RowKit

/-- What a check answers: a place, and an error, 0 just if all is as it must be. -/
def Chk2 (w : World) (P : Prop) (e : Ending) (w' : World) : Prop := ∃ i z : Int, e = .returned (.tuple #[.int .i64 i, .int .i64 z]) ∧ (z = 0 ↔ P) ∧ Below w.heap.size w w'
def Chk3 (w : World) (P : Prop) (e : Ending) (w' : World) : Prop := ∃ i k z : Int, e = .returned (.tuple #[.int .i64 i, .int .i64 k, .int .i64 z]) ∧ (z = 0 ↔ P) ∧ Below w.heap.size w w'
theorem wrongIf_iff {b : Bool} {x : Wr} : wrongIf b x = none ↔ b = true := by cases b <;> simp [wrongIf]
theorem all_get {α : Type} {l : List α} {P : α → Prop} : (∀ (j : Nat) (x : α), l[j]? = some x → P x) ↔ ∀ x ∈ l, P x := by
  constructor
  · intro h x hx
    obtain ⟨j, hj⟩ := List.mem_iff_getElem?.1 hx
    exact h j x hj
  · intro h j x hx
    exact h x (List.mem_of_getElem? hx)
theorem chans_iff {caps : List Int} : chansW caps = none ↔ caps.length ≤ 6 ∧ ∀ x ∈ caps, withinB x 0 8 = true := by
  unfold chansW
  rw [Option.or_eq_none_iff, firstI_none, wrongIf_iff, ← all_get]
  simp [wrongIf_iff]
def siteB (n : Int) (st : Sit) : Prop := (1 ≤ st.cs.length ∧ st.cs.length ≤ 6) ∧ ∀ x ∈ st.cs, mayCaseB n x = true
theorem sites_iff {n : Int} {l : List Sit} : sitesW n l = none ↔ l.length ≤ 12 ∧ ∀ x ∈ l, siteB n x := by
  unfold sitesW
  rw [Option.or_eq_none_iff, firstI_none, wrongIf_iff, ← all_get]
  simp only [decide_eq_true_eq, siteW, Option.or_eq_none_iff, firstI_none, wrongIf_iff]
  constructor
  · rintro ⟨h1, h2⟩
    refine ⟨h1, fun j x hx => ?_⟩
    obtain ⟨h3, h4⟩ := h2 j x hx
    unfold withinB at h3
    simp at h3
    exact ⟨⟨by omega, by omega⟩, all_get.1 h4⟩
  · rintro ⟨h1, h2⟩
    refine ⟨h1, fun j x hx => ?_⟩
    obtain ⟨h3, h4⟩ := h2 j x hx
    refine ⟨?_, all_get.2 h4⟩
    unfold withinB
    simp
    omega
def codeB (a b c : Int) (l : List In) : Prop := (1 ≤ l.length ∧ l.length ≤ 40) ∧ ∀ x ∈ l, checkB x a b c l.length = true
theorem codes_iff {a b : Int} {l : List (List In)} : codesW a b l = none ↔ (1 ≤ l.length ∧ l.length ≤ 8) ∧ ∀ x ∈ l, codeB a b l.length x := by
  unfold codesW
  rw [Option.or_eq_none_iff, firstI_none, wrongIf_iff, ← all_get]
  simp only [codeW, Option.or_eq_none_iff, firstI_none, wrongIf_iff]
  constructor
  · rintro ⟨h1, h2⟩
    unfold withinB at h1
    simp at h1
    refine ⟨⟨by omega, by omega⟩, fun j x hx => ?_⟩
    obtain ⟨h3, h4⟩ := h2 j x hx
    unfold withinB at h3
    simp at h3
    exact ⟨⟨by omega, by omega⟩, all_get.1 h4⟩
  · rintro ⟨h1, h2⟩
    refine ⟨by unfold withinB; simp; omega, fun j x hx => ?_⟩
    obtain ⟨h3, h4⟩ := h2 j x hx
    exact ⟨by unfold withinB; simp; omega, all_get.2 h4⟩
theorem falls_iff {l : List (List In)} : fallsW l = none ↔ ∀ x ∈ l, lastOp x = 10 ∨ lastOp x = 3 := by
  unfold fallsW
  rw [firstI_none, ← all_get]
  simp [fallW, wrongIf_iff]
theorem check_iff {p : Prg} : checkW p = none ↔ chansW p.caps = none ∧ sitesW p.caps.length p.sites = none ∧ codesW p.caps.length p.sites.length p.codes = none ∧ fallsW p.codes = none := by
  unfold checkW
  simp only [Option.or_eq_none_iff]

theorem reg_any (v : Int) (w : World) :
    Calls Tryz.prog 99 #[.int .i64 v] w fun e w' => e = .returned (.bool (withinB v 0 7)) ∧ w' = w := by
  go_enter Tryz.func99, Tryz.ntmps99
  by_cases h0 : 0 ≤ v
  · have HE : Hid (decide (v < 8) = withinB v 0 7) := Lib.hid (by simp [withinB, h0]; omega)
    go_wp2_with fail
    go_ret
    exact ⟨ret_v (by rw [← HE.out]; rfl), rfl⟩
  · have HE : Hid (withinB v 0 7 = false) := Lib.hid (by simp [withinB, h0])
    have h1 : v < 0 := by omega
    go_wp2_with fail
    go_ret
    exact ⟨ret_v (by rw [HE.out]; rfl), rfl⟩

set_option maxRecDepth 100000 in
set_option maxHeartbeats 1600000 in
theorem refChans_any {lo hi : Nat} {v1 v2 v3 : Value} {p : Prg} (w : World) (h : PrgAt lo hi w v1 v2 v3 p) (hs : Small p) :
    Calls Tryz.prog 78 #[.agg #[v1, v2, v3]] w (Chk2 w (chansW p.caps = none)) := by
  obtain ⟨a1, b1, rfl⟩ := h.caps.slice
  obtain ⟨wf, hwf⟩ : ∃ wf, wf = w.alloc (.cells #[.slice a1 p.caps.length b1, v2, v3] 26) := ⟨_, rfl⟩
  have hB0 : Below w.heap.size w wf := by rw [hwf]; exact (Below.refl _ w).alloc (Nat.le_refl _) _
  have hP : Blk wf w.heap.size 26 #[.slice a1 p.caps.length b1, v2, v3] := by rw [hwf]; exact blk_new w _ _
  have c0 := hP.cell (k := 0) (v := .slice a1 p.caps.length b1) rfl
  have hC := (h.later hB0).caps
  have hsc := hs.caps
  rw [hwf] at c0 hC hB0
  go_enter Tryz.func78, Tryz.ntmps78
  by_cases h6 : 6 < p.caps.length
  · have h6' : (6 : Int) < (p.caps.length : Int) := by omega
    have HE : Hid ((110 : Int) = 0 ↔ chansW p.caps = none) := Lib.hid ⟨fun e => by omega, fun e => by have := (chans_iff.1 e).1; omega⟩
    go_wp2_with fail
    refine bodyPost_ret (v := .tuple #[.int .i64 0, .int .i64 110]) (by simp [results, Tryz.f78, go_sem]) rfl ?_
    exact ⟨0, 110, rfl, HE.out, hB0⟩
  · have h6' : ¬ (6 : Int) < (p.caps.length : Int) := by omega
    go_wp2_with fail
    go_loop [4] (fun iv => ∃ k : Nat, k ≤ p.caps.length ∧ iv = .int .i64 (k : Int) ∧ Hid (∀ j x, j < k → p.caps[j]? = some x → withinB x 0 8 = true)) (fun iv => p.caps.length - (intOf iv).toNat)
    case atStart => exact ⟨0, Nat.zero_le _, rfl, Lib.hid (fun j x hj => by omega)⟩
    case round =>
      obtain ⟨k, hk, rfl, HN⟩ := hrel
      by_cases hlt : k < p.caps.length
      · have hlt' : (k : Int) < (p.caps.length : Int) := by omega
        have k0 : (0 : Int) ≤ (k : Int) := by omega
        have hw1 : IntKind.i64.wrap ((k : Int) + 1) = (k : Int) + 1 := by rw [IntKind.wrap_i64]; omega
        obtain ⟨b, off, x, rfl, -, -, hx, -, d0⟩ := hC.at hlt
        have HX := Lib.hid hx
        clear hx
        by_cases hx0 : x < 0
        · have HE : Hid ((110 : Int) = 0 ↔ chansW p.caps = none) := Lib.hid ⟨fun e => by omega, fun e => by
            have := (chans_iff.1 e).2 x (List.mem_of_getElem? HX.out)
            unfold withinB at this
            simp at this
            omega⟩
          go_wp2_with fail
          refine bodyPost_ret (v := .tuple #[.int .i64 (k : Int), .int .i64 110]) (by simp [results, Tryz.f78, go_sem]) rfl ?_
          exact ⟨k, 110, rfl, HE.out, hB0⟩
        · by_cases hx8 : 8 < x
          · have HE : Hid ((110 : Int) = 0 ↔ chansW p.caps = none) := Lib.hid ⟨fun e => by omega, fun e => by
              have := (chans_iff.1 e).2 x (List.mem_of_getElem? HX.out)
              unfold withinB at this
              simp at this
              omega⟩
            go_wp2_with fail
            refine bodyPost_ret (v := .tuple #[.int .i64 (k : Int), .int .i64 110]) (by simp [results, Tryz.f78, go_sem]) rfl ?_
            exact ⟨k, 110, rfl, HE.out, hB0⟩
          · have HN' : Hid (∀ j y, j < k + 1 → p.caps[j]? = some y → withinB y 0 8 = true) := Lib.hid (fun j y hj hy => by
              by_cases e : j = k
              · subst e
                rw [HX.out] at hy
                cases hy
                unfold withinB
                simp
                omega
              · exact HN.out j y (by omega) hy)
            go_wp2_with fail
            go_round
            case rel => exact ⟨k + 1, by omega, by go_num, HN'⟩
            case measure => simp [intOf]; omega
      · have hlt' : ¬ (k : Int) < (p.caps.length : Int) := by omega
        have HE : Hid (chansW p.caps = none) := Lib.hid (chans_iff.2 ⟨by omega, all_get.1 (fun j x hx => HN.out j x (by have := (List.getElem?_eq_some_iff.1 hx).1; omega) hx)⟩)
        go_wp2_with fail
        refine bodyPost_ret (v := .tuple #[.int .i64 0, .int .i64 0]) (by simp [results, Tryz.f78, go_sem]) rfl ?_
        exact ⟨0, 0, rfl, ⟨fun _ => HE.out, fun _ => rfl⟩, hB0⟩
end Go.Proofs.YtakgcienodigpaaGreat

namespace Go.Proofs.YtakgcienodigpaaGreat
open Go.RowKit

def Chk1 (w : World) (P : Prop) (e : Ending) (w' : World) : Prop := ∃ b : Bool, e = .returned (.bool b) ∧ (b = true ↔ P) ∧ Below w.heap.size w w'
theorem mayCase_false {n : Int} {x : Cas} (h : x.c < -1 ∨ n ≤ x.c ∨ withinB x.v 0 7 = false ∨ withinB x.o 0 7 = false ∨ (x.s = true ∧ x.o ≠ 0)) (hn : 0 ≤ n) : mayCaseB n x = false := by
  cases hm : mayCaseB n x with
  | false => rfl
  | true =>
    unfold mayCaseB withinB at hm
    simp at hm
    unfold withinB at h
    simp at h
    obtain ⟨⟨⟨h1, h2⟩, h3⟩, h4⟩ := hm
    rcases h with h | h | h | h | h
    · omega
    · omega
    · omega
    · omega
    · rcases h4 with h4 | h4
      · rw [h.1] at h4; cases h4
      · exact absurd h4 h.2
theorem mayCase_true {n : Int} {x : Cas} (h1 : ¬ x.c < -1) (h2 : ¬ n ≤ x.c) (h3 : withinB x.v 0 7 = true) (h4 : withinB x.o 0 7 = true) (h5 : x.s = false ∨ x.o = 0) : mayCaseB n x = true := by
  unfold mayCaseB
  rw [h3, h4]
  simp only [Bool.and_true]
  rw [Bool.and_eq_true]
  refine ⟨?_, ?_⟩
  · unfold withinB
    simp
    omega
  · rcases h5 with h5 | h5 <;> simp [h5]
/-- Which case it is of a case: what is wrong first, or that it may be. -/
theorem case_ways (n : Int) (x : Cas) : x.c < -1 ∨ (¬ x.c < -1 ∧ n ≤ x.c) ∨ ((¬ x.c < -1 ∧ ¬ n ≤ x.c) ∧ withinB x.v 0 7 = false) ∨ ((¬ x.c < -1 ∧ ¬ n ≤ x.c) ∧ withinB x.v 0 7 = true ∧ withinB x.o 0 7 = false) ∨
    ((¬ x.c < -1 ∧ ¬ n ≤ x.c) ∧ withinB x.v 0 7 = true ∧ withinB x.o 0 7 = true ∧ x.s = true ∧ ¬ x.o = 0) ∨ ((¬ x.c < -1 ∧ ¬ n ≤ x.c) ∧ withinB x.v 0 7 = true ∧ withinB x.o 0 7 = true ∧ x.s = true ∧ x.o = 0) ∨ ((¬ x.c < -1 ∧ ¬ n ≤ x.c) ∧ withinB x.v 0 7 = true ∧ withinB x.o 0 7 = true ∧ x.s = false) := by
  by_cases h1 : x.c < -1
  · exact .inl h1
  by_cases h2 : n ≤ x.c
  · exact .inr (.inl ⟨h1, h2⟩)
  cases h3 : withinB x.v 0 7
  · exact .inr (.inr (.inl ⟨⟨h1, h2⟩, rfl⟩))
  cases h4 : withinB x.o 0 7
  · exact .inr (.inr (.inr (.inl ⟨⟨h1, h2⟩, rfl, rfl⟩)))
  cases h5 : x.s
  · exact .inr (.inr (.inr (.inr (.inr (.inr ⟨⟨h1, h2⟩, rfl, rfl, rfl⟩)))))
  by_cases h6 : x.o = 0
  · exact .inr (.inr (.inr (.inr (.inr (.inl ⟨⟨h1, h2⟩, rfl, rfl, rfl, h6⟩)))))
  · exact .inr (.inr (.inr (.inr (.inl ⟨⟨h1, h2⟩, rfl, rfl, rfl, h6⟩))))

set_option maxRecDepth 100000 in
set_option maxHeartbeats 3200000 in
theorem refSite_any {lo hi : Nat} {ra : Option Addr} {rc : Nat} (x : Sit) (n : Nat) (w : World) (hC : CasesAt lo hi w (.slice ra x.cs.length rc) x.cs) (t : hi ≤ w.heap.size) (hm : x.cs.length ≤ 1000000) (hn : n ≤ 1000000) :
    Calls Tryz.prog 93 #[.agg #[.slice ra x.cs.length rc, .bool x.d], .int .i64 (n : Int)] w (Chk1 w (siteB n x)) := by
  obtain ⟨wf, hwf⟩ : ∃ wf, wf = w.alloc (.cells #[.slice ra x.cs.length rc, .bool x.d] 40) := ⟨_, rfl⟩
  have hB0 : Below w.heap.size w wf := by rw [hwf]; exact (Below.refl _ w).alloc (Nat.le_refl _) _
  have hP : Blk wf w.heap.size 40 #[.slice ra x.cs.length rc, .bool x.d] := by rw [hwf]; exact blk_new w _ _
  have c0 := hP.cell (k := 0) (v := .slice ra x.cs.length rc) rfl
  rw [hwf] at c0
  have HB := Lib.hid hB0
  rw [hwf] at HB
  go_enter Tryz.func93, Tryz.ntmps93
  by_cases h1 : x.cs.length < 1
  · have h1' : (x.cs.length : Int) < 1 := by omega
    have HE : Hid (false = true ↔ siteB n x) := Lib.hid ⟨fun e => (by cases e), fun e => by have := e.1.1; omega⟩
    go_wp2_with fail
    go_ret
    exact ⟨false, rfl, HE.out, HB.out⟩
  have h1' : ¬ (x.cs.length : Int) < 1 := by omega
  by_cases h6 : 6 < x.cs.length
  · have h6' : (6 : Int) < (x.cs.length : Int) := by omega
    have HE : Hid (false = true ↔ siteB n x) := Lib.hid ⟨fun e => (by cases e), fun e => by have := e.1.2; omega⟩
    go_wp2_with fail
    go_ret
    exact ⟨false, rfl, HE.out, HB.out⟩
  have h6' : ¬ (6 : Int) < (x.cs.length : Int) := by omega
  have h6d : decide ((6 : Int) < (x.cs.length : Int)) = false := decide_eq_false h6'
  go_wp2_with fail
  rw [← hwf]
  clear HB c0 hwf h6'
  go_loopw [5] (fun iv wr => ∃ k : Nat, k ≤ x.cs.length ∧ iv = .int .i64 (k : Int) ∧ Below w.heap.size w wr ∧ Blk wr w.heap.size 40 #[.slice ra x.cs.length rc, .bool x.d] ∧ Hid (∀ j y, j < k → x.cs[j]? = some y → mayCaseB n y = true)) (fun iv _ => x.cs.length - (intOf iv).toNat)
  case atStart => exact ⟨0, Nat.zero_le _, rfl, hB0, hP, Lib.hid (fun j x hj => by omega)⟩
  case round =>
    clear hP hB0
    obtain ⟨k, hk, rfl, hBr, hPr, HN⟩ := hrel
    have c0 := hPr.cell (k := 0) (v := .slice ra x.cs.length rc) rfl
    by_cases hlt : k < x.cs.length
    · have hlt' : (k : Int) < (x.cs.length : Int) := by omega
      have k0 : (0 : Int) ≤ (k : Int) := by omega
      have hw1 : IntKind.i64.wrap ((k : Int) + 1) = (k : Int) + 1 := by rw [IntKind.wrap_i64]; omega
      obtain ⟨b, off, y, rfl, -, -, hx, hok, d0, d1, d2, d3⟩ := (hC.stay (stay_below' hBr t)).at hlt
      have HX := Lib.hid hx
      clear hx
      have hszr := hBr.size
      have hBa : Below w.heap.size w (wr.alloc (.cells #[.bool y.s, .int .i64 y.c, .int .i64 y.v, .int .i64 y.o] 52)) := hBr.alloc hszr _
      have hPa := hPr.alloc (.cells #[.bool y.s, .int .i64 y.c, .int .i64 y.v, .int .i64 y.o] 52)
      have hbad : mayCaseB n y = false → (false = true ↔ siteB n x) := fun hm => ⟨fun e => (by cases e), fun e => by
        have := e.2 y (List.mem_of_getElem? HX.out)
        rw [hm] at this
        exact this⟩
      have hgood : mayCaseB n y = true → ∀ j z, j < k + 1 → x.cs[j]? = some z → mayCaseB n z = true := fun hm j z hj hz => by
        by_cases e : j = k
        · subst e
          rw [HX.out] at hz
          cases hz
          exact hm
        · exact HN.out j z (by omega) hz
      have r1 := fun W => reg_any y.v W
      have r2 := fun W => reg_any y.o W
      rcases case_ways n y with q | ⟨q1, q⟩ | ⟨⟨q1, q2⟩, q⟩ | ⟨⟨q1, q2⟩, q3, q⟩ | ⟨⟨q1, q2⟩, q3, q4, q5, q⟩ | ⟨⟨q1, q2⟩, q3, q4, q5, q⟩ | ⟨⟨q1, q2⟩, q3, q4, q⟩
      · have HE := Lib.hid (hbad (mayCase_false (.inl q) (by omega)))
        clear hbad hgood
        go_wp2_with fail
        go_ret
        exact ⟨false, rfl, HE.out, hBa⟩
      · have HE := Lib.hid (hbad (mayCase_false (.inr (.inl q)) (by omega)))
        clear hbad hgood
        go_wp2_with fail
        go_ret
        exact ⟨false, rfl, HE.out, hBa⟩
      · have HE := Lib.hid (hbad (mayCase_false (.inr (.inr (.inl q))) (by omega)))
        have q2d : decide ((n : Int) ≤ y.c) = false := decide_eq_false q2
        rw [q] at r1
        clear hbad hgood q
        go_wp2_with (go_at_call 99; refine (r1 _).mono ?_; rintro e w2 ⟨rfl, rfl⟩)
        go_ret
        exact ⟨false, rfl, HE.out, hBa⟩
      · have HE := Lib.hid (hbad (mayCase_false (.inr (.inr (.inr (.inl q)))) (by omega)))
        have q2d : decide ((n : Int) ≤ y.c) = false := decide_eq_false q2
        rw [q3] at r1
        rw [q] at r2
        clear hbad hgood q q3
        go_wp2_with fail
        refine (r1 _).mono ?_
        rintro e w2 ⟨rfl, rfl⟩
        clear r1
        go_wp2_with (go_at_call 99; refine (r2 _).mono ?_; rintro e w2 ⟨rfl, rfl⟩)
        go_ret
        exact ⟨false, rfl, HE.out, hBa⟩
      · have HE := Lib.hid (hbad (mayCase_false (.inr (.inr (.inr (.inr ⟨q5, q⟩)))) (by omega)))
        have q2d : decide ((n : Int) ≤ y.c) = false := decide_eq_false q2
        have q6 : (y.o != 0) = true := by simpa using q
        rw [q3] at r1
        rw [q4] at r2
        rw [q5] at d0 hBa hPa
        clear hbad hgood q q3 q4 q5
        go_wp2_with fail
        refine (r1 _).mono ?_
        rintro e w2 ⟨rfl, rfl⟩
        clear r1
        go_wp2_with (go_at_call 99; refine (r2 _).mono ?_; rintro e w2 ⟨rfl, rfl⟩)
        go_ret
        exact ⟨false, rfl, HE.out, hBa⟩
      · have HG := Lib.hid (hgood (mayCase_true q1 q2 q3 q4 (.inr q)))
        have q2d : decide ((n : Int) ≤ y.c) = false := decide_eq_false q2
        have q6 : (y.o != 0) = false := by simp [q]
        rw [q3] at r1
        rw [q4] at r2
        rw [q5] at d0 hBa hPa
        clear hbad hgood q q3 q4 q5
        go_wp2_with fail
        refine (r1 _).mono ?_
        rintro e w2 ⟨rfl, rfl⟩
        clear r1
        go_wp2_with (go_at_call 99; refine (r2 _).mono ?_; rintro e w2 ⟨rfl, rfl⟩)
        go_roundw
        case rel => exact ⟨k + 1, by omega, by go_num, hBa, hPa, HG⟩
        case measure => simp [intOf]; omega
      · have HG := Lib.hid (hgood (mayCase_true q1 q2 q3 q4 (.inl q)))
        have q2d : decide ((n : Int) ≤ y.c) = false := decide_eq_false q2
        rw [q3] at r1
        rw [q4] at r2
        rw [q] at d0 hBa hPa
        clear hbad hgood q q3 q4
        go_wp2_with fail
        refine (r1 _).mono ?_
        rintro e w2 ⟨rfl, rfl⟩
        clear r1
        go_wp2_with (go_at_call 99; refine (r2 _).mono ?_; rintro e w2 ⟨rfl, rfl⟩)
        go_roundw
        case rel => exact ⟨k + 1, by omega, by go_num, hBa, hPa, HG⟩
        case measure => simp [intOf]; omega
    · have hlt' : ¬ (k : Int) < (x.cs.length : Int) := by omega
      have HE : Hid (siteB n x) := Lib.hid (⟨⟨by omega, by omega⟩, all_get.1 (fun j z hz => HN.out j z (by have := (List.getElem?_eq_some_iff.1 hz).1; omega) hz)⟩)
      go_wp2_with fail
      go_ret
      exact ⟨true, rfl, ⟨fun _ => HE.out, fun _ => rfl⟩, hBr⟩
end Go.Proofs.YtakgcienodigpaaGreat

namespace Go.Proofs.YtakgcienodigpaaGreat
open Go.RowKit

theorem refSite_ok {lo hi : Nat} {ra : Option Addr} {rc : Nat} (x : Sit) (n : Nat) (w : World) (hC : CasesAt lo hi w (.slice ra x.cs.length rc) x.cs) (t : hi ≤ w.heap.size) (hm : x.cs.length ≤ 1000000) (hn : n ≤ 1000000) (b : Bool) (hb : b = true ↔ siteB n x) :
    Calls Tryz.prog 93 #[.agg #[.slice ra x.cs.length rc, .bool x.d], .int .i64 (n : Int)] w fun e w' => e = .returned (.bool b) ∧ Below w.heap.size w w' := by
  refine (refSite_any x n w hC t hm hn).mono ?_
  rintro e w' ⟨b', rfl, h1, h2⟩
  refine ⟨?_, h2⟩
  rw [show b' = b by rw [Bool.eq_iff_iff, h1, hb]]

set_option maxRecDepth 100000 in
set_option maxHeartbeats 3200000 in
theorem refSites_any {lo hi : Nat} {v1 v2 v3 : Value} {p : Prg} (w : World) (h : PrgAt lo hi w v1 v2 v3 p) (hs : Small p) :
    Calls Tryz.prog 79 #[.agg #[v1, v2, v3]] w (Chk2 w (sitesW p.caps.length p.sites = none)) := by
  obtain ⟨a1, b1, rfl⟩ := h.caps.slice
  obtain ⟨a3, b3, rfl⟩ := h.sites.slice
  obtain ⟨wf, hwf⟩ : ∃ wf, wf = w.alloc (.cells #[.slice a1 p.caps.length b1, v2, .slice a3 p.sites.length b3] 26) := ⟨_, rfl⟩
  have hB0 : Below w.heap.size w wf := by rw [hwf]; exact (Below.refl _ w).alloc (Nat.le_refl _) _
  have hP : Blk wf w.heap.size 26 #[.slice a1 p.caps.length b1, v2, .slice a3 p.sites.length b3] := by rw [hwf]; exact blk_new w _ _
  have c2 := hP.cell (k := 2) (v := .slice a3 p.sites.length b3) rfl
  have hsc := hs.caps
  have hss := hs.sites
  rw [hwf] at c2
  have HB := Lib.hid hB0
  rw [hwf] at HB
  go_enter Tryz.func79, Tryz.ntmps79
  by_cases h12 : 12 < p.sites.length
  · have h12' : (12 : Int) < (p.sites.length : Int) := by omega
    have HE : Hid ((111 : Int) = 0 ↔ sitesW p.caps.length p.sites = none) := Lib.hid ⟨fun e => by omega, fun e => by have := (sites_iff.1 e).1; omega⟩
    go_wp2_with fail
    refine bodyPost_ret (v := .tuple #[.int .i64 0, .int .i64 111]) (by simp [results, Tryz.f79, go_sem]) rfl ?_
    exact ⟨0, 111, rfl, HE.out, HB.out⟩
  have h12' : ¬ (12 : Int) < (p.sites.length : Int) := by omega
  go_wp2_with fail
  rw [← hwf]
  clear HB c2 hwf h12'
  go_loopw [4] (fun iv wr => ∃ k : Nat, k ≤ p.sites.length ∧ iv = .int .i64 (k : Int) ∧ Below w.heap.size w wr ∧ Blk wr w.heap.size 26 #[.slice a1 p.caps.length b1, v2, .slice a3 p.sites.length b3] ∧ Hid (∀ j y, j < k → p.sites[j]? = some y → siteB p.caps.length y)) (fun iv _ => p.sites.length - (intOf iv).toNat)
  case atStart => exact ⟨0, Nat.zero_le _, rfl, hB0, hP, Lib.hid (fun j x hj => by omega)⟩
  case round =>
    clear hP hB0
    obtain ⟨k, hk, rfl, hBr, hPr, HN⟩ := hrel
    by_cases hlt : k < p.sites.length
    · have hlt' : (k : Int) < (p.sites.length : Int) := by omega
      have k0 : (0 : Int) ≤ (k : Int) := by omega
      have hw1 : IntKind.i64.wrap ((k : Int) + 1) = (k : Int) + 1 := by rw [IntKind.wrap_i64]; omega
      obtain ⟨b, off, ra, rc, x, rfl, -, hbh, hx, gw0, gw1, hr0⟩ := h.sites.at hlt
      have hxl := hs.site x (List.mem_of_getElem? hx)
      have HX := Lib.hid hx
      clear hx
      have hkb : b < w.heap.size := Nat.lt_of_lt_of_le hbh h.top
      obtain ⟨bb, hbb⟩ : ∃ bb : Bool, bb = true ↔ siteB p.caps.length x := by
        by_cases e : siteB p.caps.length x
        · exact ⟨true, by simp [e]⟩
        · exact ⟨false, by simp [e]⟩
      have hk0 : ∀ W, Below wr.heap.size wr W → W.cell? ⟨w.heap.size, 0, none⟩ = some (.slice a1 p.caps.length b1) := fun W hW => (hPr.later hW hPr.lt).cell rfl
      have hk1 : ∀ W, Below wr.heap.size wr W → W.cell? ⟨w.heap.size, 2, none⟩ = some (.slice (some ⟨b, off, none⟩) p.sites.length b3) := fun W hW => (hPr.later hW hPr.lt).cell rfl
      have hBW : ∀ W, Below wr.heap.size wr W → Below w.heap.size w W := fun W hW => below_next hBr hW (Nat.le_refl _)
      have hk2 : ∀ W, Below wr.heap.size wr W → W.cell? ⟨b, off + k * 2, none⟩ = some (.slice ra x.cs.length rc) := fun W hW => cell_stay gw0 ((hBW W hW).block b hkb)
      have hk3 : ∀ W, Below wr.heap.size wr W → W.cell? ⟨b, off + k * 2 + 1, none⟩ = some (.bool x.d) := fun W hW => cell_stay gw1 ((hBW W hW).block b hkb)
      have cs : ∀ W, Below wr.heap.size wr W → Calls Tryz.prog 93 #[.agg #[.slice ra x.cs.length rc, .bool x.d], .int .i64 (p.caps.length : Int)] W fun e w' => e = .returned (.bool bb) ∧ Below wr.heap.size wr w' := fun W hW =>
        (refSite_ok x p.caps.length W (hr0.stay (stay_below' (hBW W hW) h.top)) (by have := (hBW W hW).size; have := h.top; omega) hxl hsc bb hbb).mono fun e w' ⟨h1, h2⟩ => ⟨h1, below_next hW h2 (Nat.le_refl _)⟩
      have hD0 : Below wr.heap.size wr wr.drew := (Below.refl _ _).drew
      have e0 := hk0 wr (Below.refl _ _)
      have e1 := hk1 wr (Below.refl _ _)
      have e2 := hk2 wr (Below.refl _ _)
      have e3 := hk3 wr (Below.refl _ _)
      go_wp2_with fail
      go_region_held3 (fun w' => w'.cell? ⟨w.heap.size, 0, none⟩ = some (.slice a1 p.caps.length b1) ∧ w'.cell? ⟨w.heap.size, 2, none⟩ = some (.slice (some ⟨b, off, none⟩) p.sites.length b3) ∧ w'.cell? ⟨b, off + k * 2, none⟩ = some (.slice ra x.cs.length rc) ∧ w'.cell? ⟨b, off + k * 2 + 1, none⟩ = some (.bool x.d) ∧ Below wr.heap.size wr w')
        (refine ⟨?_, ?_, ?_, ?_, ?_⟩ <;> first | assumption | exact hk0 _ (by assumption) | exact hk1 _ (by assumption) | exact hk2 _ (by assumption) | exact hk3 _ (by assumption))
        ((first
          | (go_at_call 93; refine (cs _ (by assumption)).mono ?_; rintro e w2 ⟨rfl, hb2⟩)))
      have hB2 := hBW _ hb2
      have hP2 := hPr.later hb2 hPr.lt
      clear cs hk0 hk1 hk2 hk3 hBW e0 e1 e2 e3 hD0
      cases bb with
      | false =>
        have HE : Hid ((111 : Int) = 0 ↔ sitesW p.caps.length p.sites = none) := Lib.hid ⟨fun e => by omega, fun e => by
          have := hbb.2 ((sites_iff.1 e).2 x (List.mem_of_getElem? HX.out))
          cases this⟩
        go_wp2_with fail
        refine bodyPost_ret (v := .tuple #[.int .i64 (k : Int), .int .i64 111]) (by simp [results, Tryz.f79, go_sem]) rfl ?_
        exact ⟨k, 111, rfl, HE.out, hB2⟩
      | true =>
        have HN' : Hid (∀ j y, j < k + 1 → p.sites[j]? = some y → siteB p.caps.length y) := Lib.hid (fun j y hj hy => by
          by_cases e : j = k
          · subst e
            rw [HX.out] at hy
            cases hy
            exact hbb.1 rfl
          · exact HN.out j y (by omega) hy)
        go_wp2_with fail
        go_roundw
        case rel => exact ⟨k + 1, by omega, by go_num, hB2, hP2, HN'⟩
        case measure => simp [intOf]; omega
    · have hlt' : ¬ (k : Int) < (p.sites.length : Int) := by omega
      have HE : Hid (sitesW p.caps.length p.sites = none) := Lib.hid (sites_iff.2 ⟨by omega, all_get.1 (fun j x hx => HN.out j x (by have := (List.getElem?_eq_some_iff.1 hx).1; omega) hx)⟩)
      have e1 := hPr.cell (k := 2) (v := .slice a3 p.sites.length b3) rfl
      go_wp2_with fail
      refine bodyPost_ret (v := .tuple #[.int .i64 0, .int .i64 0]) (by simp [results, Tryz.f79, go_sem]) rfl ?_
      exact ⟨0, 0, rfl, ⟨fun _ => HE.out, fun _ => rfl⟩, hBr⟩
end Go.Proofs.YtakgcienodigpaaGreat

namespace Go.Proofs.YtakgcienodigpaaGreat
open Go.RowKit

theorem refMay_row (x : In) (chans sites codes length : Nat) (w : World) :
    Calls Tryz.prog 94 #[.agg #[.int .u8 (x.o : Int), .int .i64 x.a, .int .i64 x.b, .int .i64 x.c, .int .i64 x.k], .int .i64 chans, .int .i64 sites, .int .i64 codes, .int .i64 length] w fun e w' => e = .returned (.bool (checkB x chans sites codes length)) ∧ Below w.heap.size w w' :=
  (refMay_any x chans sites codes length w).mono fun e w' ⟨h1, h2⟩ => ⟨h1, h2.below (Nat.le_refl _) (by simp)⟩

set_option maxRecDepth 100000 in
set_option maxHeartbeats 3200000 in
theorem refCodes_any {lo hi : Nat} {v1 v2 v3 : Value} {p : Prg} (w : World) (h : PrgAt lo hi w v1 v2 v3 p) (hs : Small p) :
    Calls Tryz.prog 80 #[.agg #[v1, v2, v3]] w (Chk3 w (codesW p.caps.length p.sites.length p.codes = none)) := by
  obtain ⟨a1, b1, rfl⟩ := h.caps.slice
  obtain ⟨a2, b2, rfl⟩ := h.codes.slice
  obtain ⟨a3, b3, rfl⟩ := h.sites.slice
  obtain ⟨wf, hwf⟩ : ∃ wf, wf = w.alloc (.cells #[.slice a1 p.caps.length b1, .slice a2 p.codes.length b2, .slice a3 p.sites.length b3] 26) := ⟨_, rfl⟩
  have hB0 : Below w.heap.size w wf := by rw [hwf]; exact (Below.refl _ w).alloc (Nat.le_refl _) _
  have hP : Blk wf w.heap.size 26 #[.slice a1 p.caps.length b1, .slice a2 p.codes.length b2, .slice a3 p.sites.length b3] := by rw [hwf]; exact blk_new w _ _
  have c1 := hP.cell (k := 1) (v := .slice a2 p.codes.length b2) rfl
  have hsc := hs.codes
  rw [hwf] at c1
  have HB := Lib.hid hB0
  rw [hwf] at HB
  go_enter Tryz.func80, Tryz.ntmps80
  by_cases h1 : p.codes.length < 1
  · have h1' : (p.codes.length : Int) < 1 := by omega
    have HE : Hid ((112 : Int) = 0 ↔ codesW p.caps.length p.sites.length p.codes = none) := Lib.hid ⟨fun e => by omega, fun e => by have := (codes_iff.1 e).1.1; omega⟩
    go_wp2_with fail
    refine bodyPost_ret (v := .tuple #[.int .i64 0, .int .i64 0, .int .i64 112]) (by simp [results, Tryz.f80, go_sem]) rfl ?_
    exact ⟨0, 0, 112, rfl, HE.out, HB.out⟩
  have h1' : ¬ (p.codes.length : Int) < 1 := by omega
  have h1d : decide ((p.codes.length : Int) < 1) = false := decide_eq_false h1'
  by_cases h8 : 8 < p.codes.length
  · have h8' : (8 : Int) < (p.codes.length : Int) := by omega
    have HE : Hid ((112 : Int) = 0 ↔ codesW p.caps.length p.sites.length p.codes = none) := Lib.hid ⟨fun e => by omega, fun e => by have := (codes_iff.1 e).1.2; omega⟩
    go_wp2_with fail
    refine bodyPost_ret (v := .tuple #[.int .i64 0, .int .i64 0, .int .i64 112]) (by simp [results, Tryz.f80, go_sem]) rfl ?_
    exact ⟨0, 0, 112, rfl, HE.out, HB.out⟩
  have h8' : ¬ (8 : Int) < (p.codes.length : Int) := by omega
  have h8d : decide ((8 : Int) < (p.codes.length : Int)) = false := decide_eq_false h8'
  go_wp2_with fail
  rw [← hwf]
  clear HB c1 hwf h8' h8d h1' h1d
  go_loopw [5] (fun iv wr => ∃ k : Nat, k ≤ p.codes.length ∧ iv = .int .i64 (k : Int) ∧ Below w.heap.size w wr ∧ Blk wr w.heap.size 26 #[.slice a1 p.caps.length b1, .slice a2 p.codes.length b2, .slice a3 p.sites.length b3] ∧ Hid (∀ j y, j < k → p.codes[j]? = some y → codeB p.caps.length p.sites.length p.codes.length y)) (fun iv _ => p.codes.length - (intOf iv).toNat)
  case atStart => exact ⟨0, Nat.zero_le _, rfl, hB0, hP, Lib.hid (fun j x hj => by omega)⟩
  case round =>
    clear hP hB0
    obtain ⟨k, hk, rfl, hBr, hPr, HN⟩ := hrel
    by_cases hlt : k < p.codes.length
    rotate_left 1
    · have hlt' : ¬ (k : Int) < (p.codes.length : Int) := by omega
      have HE : Hid (codesW p.caps.length p.sites.length p.codes = none) := Lib.hid (codes_iff.2 ⟨by omega, all_get.1 (fun j x hx => HN.out j x (by have := (List.getElem?_eq_some_iff.1 hx).1; omega) hx)⟩)
      have e1 := hPr.cell (k := 1) (v := .slice a2 p.codes.length b2) rfl
      go_wp2_with fail
      refine bodyPost_ret (v := .tuple #[.int .i64 0, .int .i64 0, .int .i64 0]) (by simp [results, Tryz.f80, go_sem]) rfl ?_
      exact ⟨0, 0, 0, rfl, ⟨fun _ => HE.out, fun _ => rfl⟩, hBr⟩
    have hlt' : (k : Int) < (p.codes.length : Int) := by omega
    have k0 : (0 : Int) ≤ (k : Int) := by omega
    have hw1 : IntKind.i64.wrap ((k : Int) + 1) = (k : Int) + 1 := by rw [IntKind.wrap_i64]; omega
    obtain ⟨b, off, ra, rc, x, rfl, -, hbh, hx, gw, hr0⟩ := h.codes.at hlt
    have hxl := hs.code x (List.mem_of_getElem? hx)
    have HX := Lib.hid hx
    clear hx
    have hkb : b < w.heap.size := Nat.lt_of_lt_of_le hbh h.top
    have g := cell_stay gw (hBr.block b hkb)
    have e1 := hPr.cell (k := 1) (v := .slice (some ⟨b, off, none⟩) p.codes.length b2) rfl
    have hbad : ¬ codeB p.caps.length p.sites.length p.codes.length x → ((112 : Int) = 0 ↔ codesW p.caps.length p.sites.length p.codes = none) := fun hm => ⟨fun e => by omega, fun e => absurd ((codes_iff.1 e).2 x (List.mem_of_getElem? HX.out)) hm⟩
    by_cases l1 : x.length < 1
    · have l1' : (x.length : Int) < 1 := by omega
      have HE := Lib.hid (hbad (fun e => by have := e.1.1; omega))
      clear hbad
      go_wp2_with fail
      refine bodyPost_ret (v := .tuple #[.int .i64 (k : Int), .int .i64 0, .int .i64 112]) (by simp [results, Tryz.f80, go_sem]) rfl ?_
      exact ⟨k, 0, 112, rfl, HE.out, hBr⟩
    have l1' : ¬ (x.length : Int) < 1 := by omega
    have l1d : decide ((x.length : Int) < 1) = false := decide_eq_false l1'
    by_cases l40 : 40 < x.length
    · have l40' : (40 : Int) < (x.length : Int) := by omega
      have HE := Lib.hid (hbad (fun e => by have := e.1.2; omega))
      clear hbad
      go_wp2_with fail
      refine bodyPost_ret (v := .tuple #[.int .i64 (k : Int), .int .i64 0, .int .i64 112]) (by simp [results, Tryz.f80, go_sem]) rfl ?_
      exact ⟨k, 0, 112, rfl, HE.out, hBr⟩
    have l40' : ¬ (40 : Int) < (x.length : Int) := by omega
    have l40d : decide ((40 : Int) < (x.length : Int)) = false := decide_eq_false l40'
    have HBad := Lib.hid hbad
    clear hbad
    go_wp2_with fail
    clear l1' l1d l40' l40d e1 g hlt'
    go_loopw [7] (fun iv wr => ∃ m : Nat, m ≤ x.length ∧ iv = .int .i64 (m : Int) ∧ Below w.heap.size w wr ∧ Blk wr w.heap.size 26 #[.slice a1 p.caps.length b1, .slice (some ⟨b, off, none⟩) p.codes.length b2, .slice a3 p.sites.length b3] ∧ Hid (∀ j y, j < m → x[j]? = some y → checkB y p.caps.length p.sites.length p.codes.length x.length = true)) (fun iv _ => x.length - (intOf iv).toNat)
    case atStart => exact ⟨0, Nat.zero_le _, rfl, hBr, hPr, Lib.hid (fun j x hj => by omega)⟩
    case round =>
      clear hPr hBr
      obtain ⟨m, hm, rfl, hBr, hPr, HM⟩ := hrel
      by_cases hltm : m < x.length
      rotate_left 1
      · have hltm' : ¬ (m : Int) < (x.length : Int) := by omega
        have HN' : Hid (∀ j y, j < k + 1 → p.codes[j]? = some y → codeB p.caps.length p.sites.length p.codes.length y) := Lib.hid (fun j y hj hy => by
          by_cases e : j = k
          · subst e
            rw [HX.out] at hy
            cases hy
            exact ⟨⟨by omega, by omega⟩, all_get.1 (fun i z hz => HM.out i z (by have := (List.getElem?_eq_some_iff.1 hz).1; omega) hz)⟩
          · exact HN.out j y (by omega) hy)
        go_wp2_with fail
        go_roundw
        case rel => exact ⟨k + 1, by omega, by go_num, hBr, hPr, HN'⟩
        case measure => simp [intOf]; omega
      have hltm' : (m : Int) < (x.length : Int) := by omega
      have m0 : (0 : Int) ≤ (m : Int) := by omega
      have hw2 : IntKind.i64.wrap ((m : Int) + 1) = (m : Int) + 1 := by rw [IntKind.wrap_i64]; omega
      have hBW : ∀ W, Below wr.heap.size wr W → Below w.heap.size w W := fun W hW => below_next hBr hW (Nat.le_refl _)
      obtain ⟨b4, off4, y, rfl, -, hb4h, hy, -, y0, y1, y2, y3, y4⟩ := hr0.at hltm
      have HY := Lib.hid hy
      clear hy
      have hkb4 : b4 < w.heap.size := Nat.lt_of_lt_of_le hb4h h.top
      have hk0 : ∀ W, Below wr.heap.size wr W → W.cell? ⟨w.heap.size, 0, none⟩ = some (.slice a1 p.caps.length b1) := fun W hW => (hPr.later hW hPr.lt).cell rfl
      have hk1 : ∀ W, Below wr.heap.size wr W → W.cell? ⟨w.heap.size, 1, none⟩ = some (.slice (some ⟨b, off, none⟩) p.codes.length b2) := fun W hW => (hPr.later hW hPr.lt).cell rfl
      have hk2 : ∀ W, Below wr.heap.size wr W → W.cell? ⟨w.heap.size, 2, none⟩ = some (.slice a3 p.sites.length b3) := fun W hW => (hPr.later hW hPr.lt).cell rfl
      have hy0 : ∀ W, Below wr.heap.size wr W → W.cell? ⟨b4, off4 + m * 5, none⟩ = some (.int .u8 (y.o : Int)) := fun W hW => cell_stay y0 ((hBW W hW).block b4 hkb4)
      have hy1 : ∀ W, Below wr.heap.size wr W → W.cell? ⟨b4, off4 + m * 5 + 1, none⟩ = some (.int .i64 y.a) := fun W hW => cell_stay y1 ((hBW W hW).block b4 hkb4)
      have hy2 : ∀ W, Below wr.heap.size wr W → W.cell? ⟨b4, off4 + m * 5 + 2, none⟩ = some (.int .i64 y.b) := fun W hW => cell_stay y2 ((hBW W hW).block b4 hkb4)
      have hy3 : ∀ W, Below wr.heap.size wr W → W.cell? ⟨b4, off4 + m * 5 + 3, none⟩ = some (.int .i64 y.c) := fun W hW => cell_stay y3 ((hBW W hW).block b4 hkb4)
      have hy4 : ∀ W, Below wr.heap.size wr W → W.cell? ⟨b4, off4 + m * 5 + 4, none⟩ = some (.int .i64 y.k) := fun W hW => cell_stay y4 ((hBW W hW).block b4 hkb4)
      obtain ⟨bb, hbb⟩ : ∃ bb : Bool, checkB y p.caps.length p.sites.length p.codes.length x.length = bb := ⟨_, rfl⟩
      have cs : ∀ W, Below wr.heap.size wr W → Calls Tryz.prog 94 #[.agg #[.int .u8 (y.o : Int), .int .i64 y.a, .int .i64 y.b, .int .i64 y.c, .int .i64 y.k], .int .i64 (p.caps.length : Int), .int .i64 (p.sites.length : Int), .int .i64 (p.codes.length : Int), .int .i64 (x.length : Int)] W fun e w' => e = .returned (.bool bb) ∧ Below wr.heap.size wr w' := fun W hW =>
        (refMay_row y p.caps.length p.sites.length p.codes.length x.length W).mono fun e w' ⟨h1, h2⟩ => ⟨by rw [h1, hbb], below_next hW h2 (Nat.le_refl _)⟩
      have hD0 : Below wr.heap.size wr wr.drew := (Below.refl _ _).drew
      have e0 := hk0 wr (Below.refl _ _)
      have e1 := hk1 wr (Below.refl _ _)
      have e2 := hk2 wr (Below.refl _ _)
      have f0 := hy0 wr (Below.refl _ _)
      have f1 := hy1 wr (Below.refl _ _)
      have f2 := hy2 wr (Below.refl _ _)
      have f3 := hy3 wr (Below.refl _ _)
      have f4 := hy4 wr (Below.refl _ _)
      have HBB := Lib.hid hbb
      clear hbb y0 y1 y2 y3 y4
      go_wp2_with fail
      go_region_held3 (fun w' => w'.cell? ⟨w.heap.size, 0, none⟩ = some (.slice a1 p.caps.length b1) ∧ w'.cell? ⟨w.heap.size, 1, none⟩ = some (.slice (some ⟨b, off, none⟩) p.codes.length b2) ∧ w'.cell? ⟨w.heap.size, 2, none⟩ = some (.slice a3 p.sites.length b3) ∧ w'.cell? ⟨b4, off4 + m * 5, none⟩ = some (.int .u8 (y.o : Int)) ∧ w'.cell? ⟨b4, off4 + m * 5 + 1, none⟩ = some (.int .i64 y.a) ∧ w'.cell? ⟨b4, off4 + m * 5 + 2, none⟩ = some (.int .i64 y.b) ∧ w'.cell? ⟨b4, off4 + m * 5 + 3, none⟩ = some (.int .i64 y.c) ∧ w'.cell? ⟨b4, off4 + m * 5 + 4, none⟩ = some (.int .i64 y.k) ∧ Below wr.heap.size wr w')
        (refine ⟨?_, ?_, ?_, ?_, ?_, ?_, ?_, ?_, ?_⟩ <;> first | assumption | exact hk0 _ (by assumption) | exact hk1 _ (by assumption) | exact hk2 _ (by assumption) | exact hy0 _ (by assumption) | exact hy1 _ (by assumption) | exact hy2 _ (by assumption) | exact hy3 _ (by assumption) | exact hy4 _ (by assumption))
        ((first
          | (go_at_call 94; refine (cs _ (by assumption)).mono ?_; rintro e w2 ⟨rfl, hb2⟩)))
      have hB2 := hBW _ hb2
      have hP2 := hPr.later hb2 hPr.lt
      clear cs hk0 hk1 hk2 hy0 hy1 hy2 hy3 hy4 hBW e0 e1 e2 f0 f1 f2 f3 f4 hD0
      cases bb with
      | false =>
        have HE := Lib.hid (HBad.out (fun e => by
          have := e.2 y (List.mem_of_getElem? HY.out)
          rw [HBB.out] at this
          cases this))
        go_wp2_with fail
        refine bodyPost_ret (v := .tuple #[.int .i64 (k : Int), .int .i64 (m : Int), .int .i64 112]) (by simp [results, Tryz.f80, go_sem]) rfl ?_
        exact ⟨k, m, 112, rfl, HE.out, hB2⟩
      | true =>
        have HM' : Hid (∀ j z, j < m + 1 → x[j]? = some z → checkB z p.caps.length p.sites.length p.codes.length x.length = true) := Lib.hid (fun j z hj hz => by
          by_cases e : j = m
          · subst e
            rw [HY.out] at hz
            cases hz
            exact HBB.out
          · exact HM.out j z (by omega) hz)
        go_wp2_with fail
        go_roundw
        case rel => exact ⟨m + 1, by omega, by go_num, hB2, hP2, HM'⟩
        case measure => simp [intOf]; omega
end Go.Proofs.YtakgcienodigpaaGreat

namespace Go.Proofs.YtakgcienodigpaaGreat
open Go.RowKit

set_option maxRecDepth 100000 in
set_option maxHeartbeats 1600000 in
theorem refCheck_any {lo hi : Nat} {v1 v2 v3 : Value} {p : Prg} (w : World) (h : PrgAt lo hi w v1 v2 v3 p) (hs : Small p) :
    Calls Tryz.prog 51 #[.agg #[v1, v2, v3]] w (Chk3 w (checkW p = none)) := by
  obtain ⟨a1, b1, rfl⟩ := h.caps.slice
  obtain ⟨a2, b2, rfl⟩ := h.codes.slice
  obtain ⟨a3, b3, rfl⟩ := h.sites.slice
  obtain ⟨wf, hwf⟩ : ∃ wf, wf = w.alloc (.cells #[.slice a1 p.caps.length b1, .slice a2 p.codes.length b2, .slice a3 p.sites.length b3] 26) := ⟨_, rfl⟩
  have hB0 : Below w.heap.size w wf := by rw [hwf]; exact (Below.refl _ w).alloc (Nat.le_refl _) _
  have hP : Blk wf w.heap.size 26 #[.slice a1 p.caps.length b1, .slice a2 p.codes.length b2, .slice a3 p.sites.length b3] := by rw [hwf]; exact blk_new w _ _
  have hc1 := refChans_any wf (h.later hB0) hs
  have z0 := hP.cell (k := 0) (v := .slice a1 p.caps.length b1) rfl
  have z1 := hP.cell (k := 1) (v := .slice a2 p.codes.length b2) rfl
  have z2 := hP.cell (k := 2) (v := .slice a3 p.sites.length b3) rfl
  rw [hwf] at z0 z1 z2
  go_enter Tryz.func51, Tryz.ntmps51
  go_wp2_with fail
  rw [← hwf]
  refine hc1.mono ?_
  rintro e w1 ⟨i1, y1, rfl, hz1, hb1⟩
  have hB1 := below_next hB0 hb1 (Nat.le_refl _)
  have hP1 := hP.later hb1 hP.lt
  have HZ1 := Lib.hid hz1
  clear hc1 z0 z1 z2 hwf hb1 hB0 hP hz1
  by_cases e1 : y1 = 0
  rotate_left 1
  · have e1' : (y1 != 0) = true := by simpa using e1
    have HE : Hid ¬ (checkW p = none) := Lib.hid (fun e => e1 (HZ1.out.2 (check_iff.1 e).1))
    clear HZ1
    go_wp2_with fail
    refine bodyPost_ret (v := .tuple #[.int .i64 i1, .int .i64 0, .int .i64 y1]) (by simp [results, Tryz.f51, go_sem]) rfl ?_
    exact ⟨i1, 0, y1, rfl, ⟨fun e => absurd e e1, fun e => absurd e HE.out⟩, hB1⟩
  subst e1
  have HC1 := Lib.hid (HZ1.out.1 rfl)
  clear HZ1
  have z0 := hP1.cell (k := 0) (v := .slice a1 p.caps.length b1) rfl
  have z1 := hP1.cell (k := 1) (v := .slice a2 p.codes.length b2) rfl
  have z2 := hP1.cell (k := 2) (v := .slice a3 p.sites.length b3) rfl
  have hc2 := refSites_any w1 (h.later hB1) hs
  go_wp2_with fail
  refine hc2.mono ?_
  rintro e w2 ⟨i2, y2, rfl, hz2, hb2⟩
  have hB2 := below_next hB1 hb2 (Nat.le_refl _)
  have hP2 := hP1.later hb2 hP1.lt
  have HZ2 := Lib.hid hz2
  clear hc2 z0 z1 z2 hb2 hB1 hP1 hz2
  by_cases e2 : y2 = 0
  rotate_left 1
  · have e2' : (y2 != 0) = true := by simpa using e2
    have HE : Hid ¬ (checkW p = none) := Lib.hid (fun e => e2 (HZ2.out.2 (check_iff.1 e).2.1))
    clear HZ2
    go_wp2_with fail
    refine bodyPost_ret (v := .tuple #[.int .i64 i2, .int .i64 0, .int .i64 y2]) (by simp [results, Tryz.f51, go_sem]) rfl ?_
    exact ⟨i2, 0, y2, rfl, ⟨fun e => absurd e e2, fun e => absurd e HE.out⟩, hB2⟩
  subst e2
  have HC2 := Lib.hid (HZ2.out.1 rfl)
  clear HZ2
  have z0 := hP2.cell (k := 0) (v := .slice a1 p.caps.length b1) rfl
  have z1 := hP2.cell (k := 1) (v := .slice a2 p.codes.length b2) rfl
  have z2 := hP2.cell (k := 2) (v := .slice a3 p.sites.length b3) rfl
  have hc3 := refCodes_any w2 (h.later hB2) hs
  go_wp2_with fail
  refine hc3.mono ?_
  rintro e w3 ⟨i3, k3, y3, rfl, hz3, hb3⟩
  have hB3 := below_next hB2 hb3 (Nat.le_refl _)
  have hP3 := hP2.later hb3 hP2.lt
  have HZ3 := Lib.hid hz3
  clear hc3 z0 z1 z2 hb3 hB2 hP2 hz3
  by_cases e3 : y3 = 0
  rotate_left 1
  · have e3' : (y3 != 0) = true := by simpa using e3
    have HE : Hid ¬ (checkW p = none) := Lib.hid (fun e => e3 (HZ3.out.2 (check_iff.1 e).2.2.1))
    clear HZ3
    go_wp2_with fail
    refine bodyPost_ret (v := .tuple #[.int .i64 i3, .int .i64 k3, .int .i64 y3]) (by simp [results, Tryz.f51, go_sem]) rfl ?_
    exact ⟨i3, k3, y3, rfl, ⟨fun e => absurd e e3, fun e => absurd e HE.out⟩, hB3⟩
  subst e3
  have HC3 := Lib.hid (HZ3.out.1 rfl)
  clear HZ3
  have n2 := hs.codes
  go_wp2_with fail
  go_loopw [10] (fun iv wr => ∃ k : Nat, k ≤ p.codes.length ∧ iv = .int .i64 (k : Int) ∧ Below w.heap.size w wr ∧ Blk wr w.heap.size 26 #[.slice a1 p.caps.length b1, .slice a2 p.codes.length b2, .slice a3 p.sites.length b3] ∧ Hid (∀ j y, j < k → p.codes[j]? = some y → lastOp y = 10 ∨ lastOp y = 3)) (fun iv _ => p.codes.length - (intOf iv).toNat)
  case atStart => exact ⟨0, Nat.zero_le _, rfl, hB3, hP3, Lib.hid (fun j x hj => by omega)⟩
  case round =>
    clear hP3 hB3
    obtain ⟨k, hk, rfl, hBr, hPr, HN⟩ := hrel
    have c1 := hPr.cell (k := 1) (v := .slice a2 p.codes.length b2) rfl
    by_cases hlt : k < p.codes.length
    rotate_left 1
    · have hlt' : ¬ (k : Int) < (p.codes.length : Int) := by omega
      have HE : Hid (checkW p = none) := Lib.hid (check_iff.2 ⟨HC1.out, HC2.out, HC3.out, falls_iff.2 (all_get.1 (fun j x hx => HN.out j x (by have := (List.getElem?_eq_some_iff.1 hx).1; omega) hx))⟩)
      go_wp2_with fail
      refine bodyPost_ret (v := .tuple #[.int .i64 0, .int .i64 0, .int .i64 0]) (by simp [results, Tryz.f51, go_sem]) rfl ?_
      exact ⟨0, 0, 0, rfl, ⟨fun _ => HE.out, fun _ => rfl⟩, hBr⟩
    have hlt' : (k : Int) < (p.codes.length : Int) := by omega
    have k0 : (0 : Int) ≤ (k : Int) := by omega
    have hw1 : IntKind.i64.wrap ((k : Int) + 1) = (k : Int) + 1 := by rw [IntKind.wrap_i64]; omega
    obtain ⟨b, off, ra, rc, x, rfl, -, hbh, hx, gw, hr0⟩ := h.codes.at hlt
    have hxl := hs.code x (List.mem_of_getElem? hx)
    have hxp := ((codes_iff.1 HC3.out).2 x (List.mem_of_getElem? hx)).1.1
    have hkb : b < w.heap.size := Nat.lt_of_lt_of_le hbh h.top
    have g := cell_stay gw (hBr.block b hkb)
    obtain ⟨m, hm⟩ : ∃ m, x.length = m + 1 := ⟨x.length - 1, by omega⟩
    obtain ⟨b4, off4, y, rfl, -, -, hy, -, y0, -, -, -, -⟩ := (hr0.stay (stay_below' hBr h.top)).at (k := m) (by omega)
    rw [hm] at g
    have HL : Hid (lastOp x = y.o) := Lib.hid (by rw [lastOp, show x.length - 1 = m by omega, hy]; rfl)
    have hwm : IntKind.i64.wrap (m : Int) = (m : Int) := by rw [IntKind.wrap_i64]; omega
    have m0 : (0 : Int) ≤ (m : Int) := by omega
    have m1 : (m : Int) < (m : Int) + 1 := by omega
    have HX := Lib.hid hx
    clear hx hy hr0 gw hxp
    obtain ⟨o, ho⟩ : ∃ o, o = y.o := ⟨_, rfl⟩
    rw [← ho] at HL y0
    clear ho
    have hgood : (o = 10 ∨ o = 3) → ∀ j z, j < k + 1 → p.codes[j]? = some z → lastOp z = 10 ∨ lastOp z = 3 := fun ho j z hj hz => by
      by_cases e : j = k
      · subst e
        rw [HX.out] at hz
        cases hz
        rw [HL.out]; exact ho
      · exact HN.out j z (by omega) hz
    by_cases h10 : o = 10
    · have HG := Lib.hid (hgood (.inl h10))
      subst h10
      clear hgood
      go_wp2_with fail
      go_roundw
      case rel => exact ⟨k + 1, by omega, by go_num, hBr, hPr, HG⟩
      case measure => simp [intOf]; omega
    have e10 : ((o : Int) != 10) = true := by simp; omega
    by_cases h3 : o = 3
    · have HG := Lib.hid (hgood (.inr h3))
      subst h3
      clear hgood
      go_wp2_with fail
      go_roundw
      case rel => exact ⟨k + 1, by omega, by go_num, hBr, hPr, HG⟩
      case measure => simp [intOf]; omega
    have e3 : ((o : Int) != 3) = true := by simp; omega
    have HE : Hid ¬ (checkW p = none) := Lib.hid (fun e => by
      have := falls_iff.1 (check_iff.1 e).2.2.2 x (List.mem_of_getElem? HX.out)
      rw [HL.out] at this
      rcases this with this | this
      · exact h10 this
      · exact h3 this)
    clear hgood
    go_wp2_with fail
    refine bodyPost_ret (v := .tuple #[.int .i64 (k : Int), .int .i64 0, .int .i64 113]) (by simp [results, Tryz.f51, go_sem]) rfl ?_
    exact ⟨k, 0, 113, rfl, ⟨fun e => by omega, fun e => absurd e HE.out⟩, hBr⟩

theorem refMay11_any {lo hi : Nat} {v1 v2 v3 : Value} {p : Prg} (w : World) (h : PrgAt lo hi w v1 v2 v3 p) (hs : Small p) :
    Calls Tryz.prog 18 #[.agg #[v1, v2, v3]] w fun e w' => e = .returned (.bool (mayP p)) ∧ Below w.heap.size w w' := by
  obtain ⟨wf, hwf⟩ : ∃ wf, wf = w.alloc (.cells #[v1, v2, v3] 26) := ⟨_, rfl⟩
  have hB0 : Below w.heap.size w wf := by rw [hwf]; exact (Below.refl _ w).alloc (Nat.le_refl _) _
  have hP : Blk wf w.heap.size 26 #[v1, v2, v3] := by rw [hwf]; exact blk_new w _ _
  have z0 := hP.cell (k := 0) (v := v1) rfl
  have z1 := hP.cell (k := 1) (v := v2) rfl
  have z2 := hP.cell (k := 2) (v := v3) rfl
  have hc := refCheck_any wf (h.later hB0) hs
  rw [hwf] at z0 z1 z2
  go_enter Tryz.func18, Tryz.ntmps18
  go_wp2_with fail
  rw [← hwf]
  refine hc.mono ?_
  rintro e w1 ⟨i, k, z, rfl, hz, hb⟩
  have hB1 := below_next hB0 hb (Nat.le_refl _)
  have HE : Hid ((z == 0) = mayP p) := Lib.hid (by
    rw [Bool.eq_iff_iff, mayP_iff, ← hz]; simp)
  clear hz hc z0 z1 z2 hwf
  go_wp2_with fail
  go_ret
  exact ⟨ret_v (congrArg Value.bool HE.out), hB1⟩
end Go.Proofs.YtakgcienodigpaaGreat
