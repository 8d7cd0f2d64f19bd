/-
  The walks of task.orders, New.
-/
import Derived.Test.YtamkmmpockmpfaaTkAsk
namespace Go.Proofs.Ytamkmmpockmpfaa
open Go.RowKit

theorem may_sites {p : Prg} (h : checkW p = none) : p.sites.length ≤ 12 ∧ ∀ (j : Nat) (x : Sit), p.sites[j]? = some x → 1 ≤ x.cs.length ∧ x.cs.length ≤ 6 := by
  obtain ⟨_, h2, _, _⟩ := check_parts h
  unfold sitesW at h2
  refine ⟨of_decide_eq_true (wrongIf_none (or_none h2).1), fun j x hx => ?_⟩
  have := firstI_none.1 (or_none h2).2 j x hx
  unfold siteW at this
  have := wrongIf_none (or_none this).1
  simp only [withinB, Bool.and_eq_true, decide_eq_true_eq] at this
  omega

/-- The orders of a new task. -/
structure Ords (W : World) (base M : Nat) (O : List Nat) (l : List Sit) : Prop where
  map : MapP W M O
  len : O.length = l.length
  ords : ∀ (j o : Nat) (x : Sit), O[j]? = some o → l[j]? = some x → Od.Ord W o x.cs.length (Od.rise x.cs.length)
  nd : O.Nodup
  hm : base ≤ M
  ho : ∀ o ∈ O, base ≤ o
theorem Ords.fresh {W W' : World} {base M : Nat} {O : List Nat} {l : List Sit} (h : Ords W base M O l) {S : List Nat} (hb : But S W W') (hS : ∀ x ∈ S, x < base) : Ords W' base M O l :=
  ⟨h.map.but hb (fun hx => by have := hS _ hx; have := h.hm; omega), h.len, fun j o x hj hx => (h.ords j o x hj hx).but (toOd hb) (fun hm => by have := hS _ hm; have := h.ho o (List.mem_of_getElem? hj); omega), h.nd, h.hm, h.ho⟩
theorem Od.Ord.same {W : World} {B n m : Nat} {l l' : List Int} (h : Od.Ord W B n l) (e : n = m) (e' : l = l') : Od.Ord W B m l' := by subst e e'; exact h

set_option maxHeartbeats 1600000 in
theorem orders_any {lo hi : Nat} {v1 v2 v3 : Value} {p : Prg} (w : World) (h : PrgAt lo hi w v1 v2 v3 p) (hm : checkW p = none) :
    Calls Try.prog 18 #[.agg #[v1, v2, v3]] w fun e w' => ∃ M, e = .returned (.map (some M)) ∧ (∃ O, Ords w' w.heap.size M O p.sites) ∧ But [] w w' := by
  obtain ⟨a, c, rfl⟩ := h.sites.slice
  obtain ⟨h12, hcs⟩ := may_sites hm
  have hb0 : But [] w ((w.alloc (.cells #[v1, v2, .slice a p.sites.length c] 26)).alloc (.map #[] 0)) := ((But.refl [] w).alloc _).alloc _
  have hB0 := blk_new w 26 #[v1, v2, .slice a p.sites.length c]
  have hM0 := mapP_made (w.alloc (.cells #[v1, v2, .slice a p.sites.length c] 26))
  have hc2 : ((w.alloc (.cells #[v1, v2, .slice a p.sites.length c] 26)).alloc (.map #[] 0)).cell? ⟨w.heap.size, 2, none⟩ = some (.slice a p.sites.length c) := (hB0.alloc (.map #[] 0)).cell rfl
  simp only [World.size_alloc] at hM0
  obtain ⟨W, hW⟩ : ∃ W, W = (w.alloc (.cells #[v1, v2, .slice a p.sites.length c] 26)).alloc (.map #[] 0) := ⟨_, rfl⟩
  rw [← hW] at hb0 hM0 hc2
  obtain ⟨M, hMe⟩ : ∃ M, M = w.heap.size + 1 := ⟨_, rfl⟩
  rw [← hMe] at hM0
  have HM := Lib.hid hMe
  have HMM := Lib.hid hm
  clear hB0 hm
  have hmm := @run_makeMap Try.prog
  go_enter Try.func18, Try.ntmps18
  go_wp2_with fail
  rw [← hW, ← hMe]
  clear hW hMe hmm
  go_wp2_with fail
  clear hc2
  go_loopw [10] (fun iv wr => ∃ (k : Nat) (O : List Nat), k ≤ p.sites.length ∧ iv = .int .i64 (k : Int) ∧ Ords wr w.heap.size M O (p.sites.take k) ∧ But [] w wr) (fun iv _ => p.sites.length - (intOf iv).toNat)
  case atStart => exact ⟨0, [], Nat.zero_le _, rfl, ⟨hM0, by simp, fun j o x hj => by simp at hj, by simp, by have := HM.out; omega, by simp⟩, hb0⟩
  case round =>
    clear hM0 hb0
    obtain ⟨k, O, hk, rfl, hO, hb⟩ := hrel
    by_cases hlt : k < p.sites.length
    · have hlt' : (k : Int) < (p.sites.length : Int) := by omega
      have k0 : (0 : Int) ≤ (k : Int) := by omega
      have hw1 : IntKind.i64.wrap ((k : Int) + 1) = (k : Int) + 1 := by rw [IntKind.wrap_i64]; omega
      obtain ⟨b, off, ra, rc, x, rfl, -, -, hx, hcell, hcell2, -⟩ := (h.stay (fun b _ hl => hb.block b (Nat.lt_of_lt_of_le hl h.top) (by simp)) (Nat.le_trans h.top hb.size)).sites.at hlt
      have hxl := hcs k x hx
      have hbx : But [] wr (wr.alloc (.cells #[.slice ra x.cs.length rc, .bool x.d] 41)) := (But.refl [] wr).alloc _
      have hnew := Od.new_ok x.cs.length (wr.alloc (.cells #[.slice ra x.cs.length rc, .bool x.d] 41)) hxl.1 hxl.2
      have hOl : O.length = k := by rw [hO.len, List.length_take]; omega
      have hz : w.heap.size ≤ wr.heap.size := hb.size
      have HX := Lib.hid hx
      have HL := Lib.hid hxl
      simp only [World.size_alloc] at hnew
      obtain ⟨o, ho⟩ : ∃ o, o = wr.heap.size + 1 := ⟨_, rfl⟩
      rw [← ho] at hnew
      have HO := Lib.hid ho
      clear hx hxl ho
      go_wp2_with fail
      refine hnew.mono ?_
      rintro e w2 ⟨rfl, hord, hb2⟩
      have hb2 := odBut hb2
      have hb12 : But [] wr w2 := hbx.next hb2
      have hO2 := hO.fresh hb12 (by simp)
      obtain ⟨w3, hrun, hM3, hb3⟩ := hO2.map.store (by omega) o
      rw [hOl] at hrun
      have hM := hO2.hm
      have hne : ∀ y, y ∈ O → y ≠ M := fun y hy e => by
        obtain ⟨j, hj⟩ := List.getElem?_of_mem hy
        have hj' : j < (p.sites.take k).length := by rw [← hO2.len]; exact (List.getElem?_eq_some_iff.1 hj).1
        obtain ⟨vs, h1, _⟩ := (hO2.ords j y _ hj (List.getElem?_eq_getElem hj')).raw
        obtain ⟨es, clk, h2⟩ := hO2.map.obj
        have h3 := h1.2
        rw [e, h2] at h3
        cases h3
      have hoM : o ≠ M := fun e => by
        obtain ⟨vs, h1, _⟩ := hord.raw
        obtain ⟨es, clk, h2⟩ := hO2.map.obj
        have h3 := h1.2
        rw [e, h2] at h3
        cases h3
      have hold : ∀ y, y ∈ O → y < wr.heap.size := fun y hy => by
        obtain ⟨j, hj⟩ := List.getElem?_of_mem hy
        have hj' : j < (p.sites.take k).length := by rw [← hO.len]; exact (List.getElem?_eq_some_iff.1 hj).1
        exact (hO.ords j y _ hj (List.getElem?_eq_getElem hj')).lt
      have hfin : Ords w3 w.heap.size M (O ++ [o]) (p.sites.take (k + 1)) := by
        have hx := HX.out
        have hoe := HO.out
        have hlt2 : (p.sites.take k).length = k := by rw [List.length_take]; omega
        have htk : p.sites.take (k + 1) = p.sites.take k ++ [x] := by rw [List.take_add_one, hx]; rfl
        rw [htk]
        refine ⟨hM3, by simp [hOl, hlt2], fun j q y hj hy => ?_, ?_, hM, fun q hq => ?_⟩
        · by_cases hjk : j < k
          · rw [List.getElem?_append_left (by omega)] at hj hy
            exact (hO2.ords j q y hj hy).but (toOd hb3) (by simpa using hne q (List.mem_of_getElem? hj))
          · have hj1 : j = k := by
              have := (List.getElem?_eq_some_iff.1 hj).1
              simp only [List.length_append, List.length_singleton] at this
              omega
            subst hj1
            rw [List.getElem?_append_right (by omega), hOl, Nat.sub_self] at hj
            rw [List.getElem?_append_right (by omega), hlt2, Nat.sub_self] at hy
            simp only [List.getElem?_cons_zero, Option.some.injEq] at hj hy
            subst hj hy
            exact hord.but (toOd hb3) (by simpa using hoM)
        · rw [List.nodup_append]
          refine ⟨hO2.nd, by simp, fun y hy z hz e => ?_⟩
          simp only [List.mem_singleton] at hz
          have := hold y hy
          omega
        · rcases List.mem_append.1 hq with hq | hq
          · exact hO2.ho q hq
          · simp only [List.mem_singleton] at hq; omega
      have hbf : But [] w w3 := (hb.next hb12).own hb3 (by simpa using hM)
      have HF := Lib.hid hfin
      have HBF := Lib.hid hbf
      clear hnew hfin hbf hO hO2 hb2 hb12 hb3 hM3 hord hne hoM hold hM hbx hcell hcell2 hb
      go_wp2_with fail
      go_roundw
      case rel => exact ⟨k + 1, O ++ [o], by omega, by go_num, HF.out, HBF.out⟩
      case measure => simp [intOf]; omega
    · obtain rfl : k = p.sites.length := by omega
      have hlt' : ¬ ((p.sites.length : Int) < (p.sites.length : Int)) := by omega
      have HF := Lib.hid hO
      clear hO
      go_wp2_with fail
      go_ret
      have := HF.out
      rw [List.take_of_length_le (Nat.le_refl _)] at this
      exact ⟨M, rfl, ⟨O, this⟩, hb⟩

set_option maxHeartbeats 800000 in
theorem new_bad {lo hi : Nat} {v1 v2 v3 : Value} {p : Prg} (w : World) (h : PrgAt lo hi w v1 v2 v3 p) (hs : Small p) (hm : checkW p ≠ none) :
    Calls Try.prog 6 #[.agg #[v1, v2, v3]] w fun e w' => e = .returned (.tuple #[.pointer none, .int .i64 2]) ∧ But [] w w' := by
  have hb0 : But [] w (w.alloc (.cells #[v1, v2, v3] 26)) := (But.refl [] w).alloc _
  have hchk := progCheck_any (w.alloc (.cells #[v1, v2, v3] 26)) (h.later ((Below.refl _ _).alloc (Nat.le_refl _) _)) hs
  have hne : (checkT p).2.2 ≠ 0 := fun e => hm (check_zero.1 e)
  generalize (checkT p).1 = x at hchk
  generalize (checkT p).2.1 = y at hchk
  generalize (checkT p).2.2 = z at hchk hne
  have t1 : (z != 0) = true := by simpa using hne
  clear h hs hm
  go_enter Try.func6, Try.ntmps6
  go_wp2_with fail
  refine hchk.mono ?_
  rintro e w1 ⟨rfl, hb1⟩
  have hb := hb0.next (But.of_below hb1 [])
  clear hchk hb0 hb1
  go_wp2_with fail
  go_ret2
  exact ⟨rfl, hb⟩

set_option maxHeartbeats 800000 in
theorem new_ok {lo hi : Nat} {v1 v2 v3 : Value} {p : Prg} (w : World) (h : PrgAt lo hi w v1 v2 v3 p) (hs : Small p) (hm : checkW p = none) :
    Calls Try.prog 6 #[.agg #[v1, v2, v3]] w fun e w' => ∃ A, e = .returned (.tuple #[.pointer (some ⟨A.T, 0, none⟩), .int .i64 0]) ∧ Tab w' A ⟨p, []⟩ ∧ But [] w w' ∧ ∀ x ∈ A.foot, w.heap.size ≤ x := by
  have hb0 : But [] w (w.alloc (.cells #[v1, v2, v3] 26)) := (But.refl [] w).alloc _
  have hB0 := blk_new w 26 #[v1, v2, v3]
  have h0 := h.later ((Below.refl _ _).alloc (Nat.le_refl _) (.cells #[v1, v2, v3] 26))
  have hfit := h.fit
  have hchk := progCheck_any _ h0 hs
  rw [checkT_none hm] at hchk
  obtain ⟨w0, hw0⟩ : ∃ w0, w0 = w.alloc (.cells #[v1, v2, v3] 26) := ⟨_, rfl⟩
  rw [← hw0] at hb0 hB0 h0 hchk
  have hcp := fun (w1 : World) (hb : Below w0.heap.size w0 w1) => copy_any w1 (h0.later hb) hs
  have hBl := hB0.lt
  have HM := Lib.hid hm
  have HS := Lib.hid hs
  have HF := Lib.hid hfit
  clear h hs hm hfit h0
  go_enter Try.func6, Try.ntmps6
  go_wp2_with fail
  rw [← hw0]
  clear hw0
  refine hchk.mono ?_
  rintro e w1 ⟨rfl, hb1⟩
  have hB1 := hB0.later hb1 hBl
  have hc := hcp w1 hb1
  have c0 : w1.cell? ⟨w.heap.size, 0, none⟩ = some v1 := hB1.cell rfl
  have c1 : w1.cell? ⟨w.heap.size, 1, none⟩ = some v2 := hB1.cell rfl
  have c2 : w1.cell? ⟨w.heap.size, 2, none⟩ = some v3 := hB1.cell rfl
  clear hcp hchk hB0 hB1 hBl
  go_wp2_with fail
  refine hc.mono ?_
  rintro e w2 ⟨u1, u2, u3, rfl, hown, hb2⟩
  clear hc c0 c1 c2
  go_wp2_with fail
  go_ret2
  have hb02 : But [] w w2 := (hb0.next (But.of_below hb1 [])).next (But.of_below hb2 [])
  have hP := hown.at HF.out
  refine ⟨⟨w2.heap.size, w1.heap.size, w2.heap.size, u1, u2, u3, .slice none 0 0, []⟩, rfl, ⟨World.alloc_heap_new w2 _, hP.later ((Below.refl _ _).alloc (Nat.le_refl _) _), HS.out, HM.out, World.ownsRow_nil _ _ _ _, rfl, Nat.zero_le _, fun i a k hi => by simp at hi, fun i j a b _ hi => by simp at hi, fun x hx => ?_⟩, hb02.alloc _, fun x hx => ?_⟩
  · simp only [Ad.foot, Value.ownBlock, Option.toList_none, List.flatMap_nil, List.append_nil, List.mem_singleton] at hx
    exact .inr (Nat.le_of_eq hx.symm)
  · simp only [Ad.foot, Value.ownBlock, Option.toList_none, List.flatMap_nil, List.append_nil, List.mem_singleton] at hx
    have := hb02.size
    omega
end Go.Proofs.Ytamkmmpockmpfaa
