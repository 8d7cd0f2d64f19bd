/-
  The walk of the law EntryBack.
-/
import Derived.Test.YtengpehiknoheaaDoorEAlive
namespace Go.Proofs.YtengpehiknoheaaDoor
open Go.RowKit Oct

theorem flat_pos : ∀ (l : List En), l.length ≤ (l.flatMap enL).length
  | [] => by simp
  | x :: l => by
    have h1 := flat_pos l
    have h2 : 0 < (enL x).length := List.length_pos_iff.2 enL_ne
    rw [List.flatMap_cons, List.length_append, List.length_cons]
    omega
theorem flat_take (l : List En) (k : Nat) : ((l.take k).flatMap enL).length ≤ (l.flatMap enL).length := by
  conv => rhs; rw [← List.take_append_drop k l, List.flatMap_append, List.length_append]
  omega

set_option maxRecDepth 100000 in
set_option maxHeartbeats 6400000 in
theorem eback_any (v : Value) (l : List En) (s : List UInt8) (w : World) (hr : EnRow w v l) (hok : ∀ x ∈ l, x.ok) (hs : (⟨s.toArray⟩ : ByteArray).size ≤ maxLen) (hv : Vars w) :
    Calls Tryd.prog 4 #[v, .string ⟨s.toArray⟩] w fun e w' => e = .returned (.bool true) ∧ Below w.heap.size w w' := by
  have hs' : s.length ≤ maxLen := hs
  clear hs
  obtain ⟨pa, pc, rfl⟩ := hr.slice
  have hfin : ∀ W, Below w.heap.size w W → Calls Tryd.prog 6 #[] W fun e w' => e = .returned (.bool true) ∧ Below w.heap.size w w' := fun W hW => (ealive_any W (hv.below hW)).mono fun e w' ⟨e1, e2⟩ => ⟨e1, below_nx hW e2 (Nat.le_refl _)⟩
  have hml : maxLen ≤ 9223372036854775807 := by unfold maxLen; omega
  go_enter Tryd.func4, Tryd.ntmps4
  by_cases hl : 100 < l.length
  · have hl' : (100 : Int) < (l.length : Int) := by omega
    go_wp2_with (go_at_call 6; refine (hfin _ (Below.refl _ _)).mono ?_; rintro e w2 ⟨rfl, hb⟩)
    go_ret
    exact ⟨rfl, hb⟩
  have hl' : ¬ (100 : Int) < (l.length : Int) := by omega
  have hld : decide ((100 : Int) < (l.length : Int)) = false := decide_eq_false hl'
  by_cases hs1 : 4096 < s.length
  · have hs2 : (4096 : Int) < (s.length : Int) := by omega
    go_wp2_with (go_at_call 6; refine (hfin _ (Below.refl _ _)).mono ?_; rintro e w2 ⟨rfl, hb⟩)
    go_ret
    exact ⟨rfl, hb⟩
  have hs2 : ¬ (4096 : Int) < (s.length : Int) := by omega
  have hsd : decide ((4096 : Int) < (s.length : Int)) = false := decide_eq_false hs2
  have hput := eputs_any _ l w hr hok (by omega)
  cases m : l.all okB with
  | true =>
    have e1 : putE l = 0 := by unfold putE; rw [m]; rfl
    have e2 : putS l = l.flatMap enL := by unfold putS; rw [m]; rfl
    have g := get_of_put hok m
    obtain ⟨S, hS⟩ : ∃ S, S = l.flatMap enL := ⟨_, rfl⟩
    have zS : S.length ≤ 10000 := by
      have := all_len hok m
      rw [hS]
      omega
    rw [e1, e2, ← hS] at hput
    rw [← hS] at g
    have hget : ∀ W, Calls Tryd.prog 11 #[.string ⟨S.toArray⟩] W fun e w' => ∃ a c, e = .returned (.tuple #[.slice a l.length c, .int .i64 0]) ∧ EnRow w' (.slice a l.length c) l ∧ Below W.heap.size W w' := fun W => by
      refine (egets_any S W (by omega)).mono fun e w' ⟨v, h1, h2, _, h4⟩ => ?_
      have q1 : getE S = 0 := by unfold getE; rw [g]; rfl
      have q2 : getV S = l := by unfold getV; rw [g]; rfl
      rw [q1] at h1
      rw [q2] at h2
      obtain ⟨a, c, rfl⟩ := h2.slice
      exact ⟨a, c, h1, h2, h4⟩
    clear hS e1 e2 g m
    go_wp2_with fail
    refine hput.mono ?_
    rintro e w1 ⟨rfl, b1⟩
    have hr1 := hr.below b1
    go_wp2_with fail
    refine (hget w1).mono ?_
    rintro e w2 ⟨a2, c2, rfl, r2, b2⟩
    have B2 := below_nx b1 b2 (Nat.le_refl _)
    have hsm := same_any _ _ l l w2 r2 (hr1.below b2) (by omega) (by omega)
    rw [decide_eq_true rfl] at hsm
    clear hput hget b1 b2 hr1 r2
    go_wp2_with fail
    refine hsm.mono ?_
    rintro e w3 ⟨rfl, b3⟩
    have B3 := below_nx B2 b3 (Nat.le_refl _)
    clear hsm B2 b3
    clear hl hl' hld hs2 hsd hr hok
    cases g : getL s with
    | none =>
      have hget : ∀ W, Calls Tryd.prog 11 #[.string ⟨s.toArray⟩] W fun e w' => ∃ a c, e = .returned (.tuple #[.slice a 0 c, .int .i64 7]) ∧ Below W.heap.size W w' := fun W => by
        refine (egets_any s W (by omega)).mono fun e w' ⟨v, h1, h2, _, h4⟩ => ?_
        have q1 : getE s = 7 := by unfold getE; rw [g]; rfl
        have q2 : getV s = [] := by unfold getV; rw [g]; rfl
        rw [q1] at h1
        rw [q2] at h2
        obtain ⟨a, c, rfl⟩ := h2.slice
        exact ⟨a, c, h1, h4⟩
      clear g
      go_wp2_with fail
      refine (hget _).mono ?_
      rintro e w4 ⟨a4, c4, rfl, b4⟩
      have B4 := below_nx B3 b4 (Nat.le_refl _)
      clear hget b4 B3
      go_wp2_with (go_at_call 6; refine (hfin _ B4).mono ?_; rintro e w2 ⟨rfl, hb⟩)
      go_ret
      exact ⟨rfl, hb⟩
    | some ms =>
      obtain ⟨h1, h2, h3⟩ := put_of_get s.length (Nat.le_refl _) g
      have zm : ms.length ≤ 4096 := by
        have := flat_pos ms
        rw [h3] at this
        omega
      have hget : ∀ W, Calls Tryd.prog 11 #[.string ⟨s.toArray⟩] W fun e w' => ∃ a c, e = .returned (.tuple #[.slice a ms.length c, .int .i64 0]) ∧ EnRow w' (.slice a ms.length c) ms ∧ Below W.heap.size W w' := fun W => by
        refine (egets_any s W (by omega)).mono fun e w' ⟨v, h1, h2, _, h4⟩ => ?_
        have q1 : getE s = 0 := by unfold getE; rw [g]; rfl
        have q2 : getV s = ms := by unfold getV; rw [g]; rfl
        rw [q1] at h1
        rw [q2] at h2
        obtain ⟨a, c, rfl⟩ := h2.slice
        exact ⟨a, c, h1, h2, h4⟩
      have hput2 : ∀ W v, EnRow W v ms → Calls Tryd.prog 9 #[v] W fun e w' => e = .returned (.tuple #[.string ⟨s.toArray⟩, .int .i64 0]) ∧ Below W.heap.size W w' := fun W v hr => by
        have h := eputsN_any v ms W hr h1 (by omega) (fun k _ => by
          have := flat_take ms k
          rw [h3] at this
          omega)
        rw [show putE ms = 0 by unfold putE; rw [h2]; rfl, show putS ms = s by unfold putS; rw [h2]; exact h3] at h
        exact h
      have hchk : ∀ (k : Nat) (x : En), ms[k]? = some x → ∀ W, Calls Tryd.prog 13 #[.agg #[.int .i64 x.a, .int .u8 (x.k : Int), .int .i64 x.w, .int .i64 x.t, .int .i64 x.p, .int .i64 x.c, .int .i64 x.b, .int .i64 x.q, .int .i64 x.v, .int .i64 x.u, .bool x.o, .int .i64 x.e, .int .u64 (x.s : Int)]] W fun e w' => e = .returned (.int .i64 0) ∧ Below W.heap.size W w' := fun k x hx W => by
        have hm := List.mem_of_getElem? hx
        have h := check_any x (h1 x hm) W
        rw [show checkE x = 0 by unfold checkE; rw [List.all_eq_true.1 h2 x hm]; rfl] at h
        exact h
      clear g h1 h2 h3
      go_wp2_with fail
      refine (hget _).mono ?_
      rintro e w4 ⟨a4, c4, rfl, r4, b4⟩
      have B4 := below_nx B3 b4 (Nat.le_refl _)
      clear hget b4 B3
      go_wp2_with fail
      go_loopw [11] (fun i wr => ∃ k : Nat, i = .int .i64 k ∧ k ≤ ms.length ∧ Below w.heap.size w wr ∧ EnRow wr (.slice a4 ms.length c4) ms) (fun i _ => ms.length - (intOf i).toNat)
      case atStart => exact ⟨0, rfl, Nat.zero_le _, B4, r4⟩
      case round =>
        obtain ⟨k, rfl, hk, hB, hR⟩ := hrel
        by_cases hlt : k < ms.length
        · have hlt' : (k : Int) < (ms.length : Int) := by omega
          have q0 : (0 : Int) ≤ (k : Int) := by omega
          obtain ⟨x, hx⟩ : ∃ x, ms[k]? = some x := ⟨_, List.getElem?_eq_getElem hlt⟩
          obtain ⟨b1, o1, rfl, _, x0, x1, x2, x3, x4, x5, x6, x7, x8, x9, x10, x11, x12⟩ := hR.at hx
          have hc := hchk k x hx wr
          clear hx
          go_wp2_with fail
          refine hc.mono ?_
          rintro e w5 ⟨rfl, b5⟩
          have hB5 := below_nx hB b5 (Nat.le_refl _)
          have hR5 := hR.below b5
          clear x0 x1 x2 x3 x4 x5 x6 x7 x8 x9 x10 x11 x12 hc b5 hB hR
          go_wp2_with fail
          go_roundw
          case rel => exact ⟨k + 1, by go_num, by omega, hB5, hR5⟩
          case measure => simp [intOf]; omega
        · have hlt' : ¬ (k : Int) < (ms.length : Int) := by omega
          have hp := hput2 wr _ hR
          clear hput2 hchk
          go_wp2_with fail
          refine hp.mono ?_
          rintro e w5 ⟨rfl, b5⟩
          have hB5 := below_nx hB b5 (Nat.le_refl _)
          clear hp b5
          go_wp2_with (go_at_call 6; refine (hfin _ hB5).mono ?_; rintro e w2 ⟨rfl, hb⟩)
          go_ret
          exact ⟨rfl, hb⟩
  | false =>
    have e1 : putE l = 2 := by unfold putE; rw [m]; rfl
    have e2 : putS l = [] := by unfold putS; rw [m]; rfl
    rw [e1, e2] at hput
    clear e1 e2 m
    go_wp2_with fail
    refine hput.mono ?_
    rintro e w3 ⟨rfl, B3⟩
    clear hput
    clear hl hl' hld hs2 hsd hr hok
    cases g : getL s with
    | none =>
      have hget : ∀ W, Calls Tryd.prog 11 #[.string ⟨s.toArray⟩] W fun e w' => ∃ a c, e = .returned (.tuple #[.slice a 0 c, .int .i64 7]) ∧ Below W.heap.size W w' := fun W => by
        refine (egets_any s W (by omega)).mono fun e w' ⟨v, h1, h2, _, h4⟩ => ?_
        have q1 : getE s = 7 := by unfold getE; rw [g]; rfl
        have q2 : getV s = [] := by unfold getV; rw [g]; rfl
        rw [q1] at h1
        rw [q2] at h2
        obtain ⟨a, c, rfl⟩ := h2.slice
        exact ⟨a, c, h1, h4⟩
      clear g
      go_wp2_with fail
      refine (hget _).mono ?_
      rintro e w4 ⟨a4, c4, rfl, b4⟩
      have B4 := below_nx B3 b4 (Nat.le_refl _)
      clear hget b4 B3
      go_wp2_with (go_at_call 6; refine (hfin _ B4).mono ?_; rintro e w2 ⟨rfl, hb⟩)
      go_ret
      exact ⟨rfl, hb⟩
    | some ms =>
      obtain ⟨h1, h2, h3⟩ := put_of_get s.length (Nat.le_refl _) g
      have zm : ms.length ≤ 4096 := by
        have := flat_pos ms
        rw [h3] at this
        omega
      have hget : ∀ W, Calls Tryd.prog 11 #[.string ⟨s.toArray⟩] W fun e w' => ∃ a c, e = .returned (.tuple #[.slice a ms.length c, .int .i64 0]) ∧ EnRow w' (.slice a ms.length c) ms ∧ Below W.heap.size W w' := fun W => by
        refine (egets_any s W (by omega)).mono fun e w' ⟨v, h1, h2, _, h4⟩ => ?_
        have q1 : getE s = 0 := by unfold getE; rw [g]; rfl
        have q2 : getV s = ms := by unfold getV; rw [g]; rfl
        rw [q1] at h1
        rw [q2] at h2
        obtain ⟨a, c, rfl⟩ := h2.slice
        exact ⟨a, c, h1, h2, h4⟩
      have hput2 : ∀ W v, EnRow W v ms → Calls Tryd.prog 9 #[v] W fun e w' => e = .returned (.tuple #[.string ⟨s.toArray⟩, .int .i64 0]) ∧ Below W.heap.size W w' := fun W v hr => by
        have h := eputsN_any v ms W hr h1 (by omega) (fun k _ => by
          have := flat_take ms k
          rw [h3] at this
          omega)
        rw [show putE ms = 0 by unfold putE; rw [h2]; rfl, show putS ms = s by unfold putS; rw [h2]; exact h3] at h
        exact h
      have hchk : ∀ (k : Nat) (x : En), ms[k]? = some x → ∀ W, Calls Tryd.prog 13 #[.agg #[.int .i64 x.a, .int .u8 (x.k : Int), .int .i64 x.w, .int .i64 x.t, .int .i64 x.p, .int .i64 x.c, .int .i64 x.b, .int .i64 x.q, .int .i64 x.v, .int .i64 x.u, .bool x.o, .int .i64 x.e, .int .u64 (x.s : Int)]] W fun e w' => e = .returned (.int .i64 0) ∧ Below W.heap.size W w' := fun k x hx W => by
        have hm := List.mem_of_getElem? hx
        have h := check_any x (h1 x hm) W
        rw [show checkE x = 0 by unfold checkE; rw [List.all_eq_true.1 h2 x hm]; rfl] at h
        exact h
      clear g h1 h2 h3
      go_wp2_with fail
      refine (hget _).mono ?_
      rintro e w4 ⟨a4, c4, rfl, r4, b4⟩
      have B4 := below_nx B3 b4 (Nat.le_refl _)
      clear hget b4 B3
      go_wp2_with fail
      go_loopw [11] (fun i wr => ∃ k : Nat, i = .int .i64 k ∧ k ≤ ms.length ∧ Below w.heap.size w wr ∧ EnRow wr (.slice a4 ms.length c4) ms) (fun i _ => ms.length - (intOf i).toNat)
      case atStart => exact ⟨0, rfl, Nat.zero_le _, B4, r4⟩
      case round =>
        obtain ⟨k, rfl, hk, hB, hR⟩ := hrel
        by_cases hlt : k < ms.length
        · have hlt' : (k : Int) < (ms.length : Int) := by omega
          have q0 : (0 : Int) ≤ (k : Int) := by omega
          obtain ⟨x, hx⟩ : ∃ x, ms[k]? = some x := ⟨_, List.getElem?_eq_getElem hlt⟩
          obtain ⟨b1, o1, rfl, _, x0, x1, x2, x3, x4, x5, x6, x7, x8, x9, x10, x11, x12⟩ := hR.at hx
          have hc := hchk k x hx wr
          clear hx
          go_wp2_with fail
          refine hc.mono ?_
          rintro e w5 ⟨rfl, b5⟩
          have hB5 := below_nx hB b5 (Nat.le_refl _)
          have hR5 := hR.below b5
          clear x0 x1 x2 x3 x4 x5 x6 x7 x8 x9 x10 x11 x12 hc b5 hB hR
          go_wp2_with fail
          go_roundw
          case rel => exact ⟨k + 1, by go_num, by omega, hB5, hR5⟩
          case measure => simp [intOf]; omega
        · have hlt' : ¬ (k : Int) < (ms.length : Int) := by omega
          have hp := hput2 wr _ hR
          clear hput2 hchk
          go_wp2_with fail
          refine hp.mono ?_
          rintro e w5 ⟨rfl, b5⟩
          have hB5 := below_nx hB b5 (Nat.le_refl _)
          clear hp b5
          go_wp2_with (go_at_call 6; refine (hfin _ hB5).mono ?_; rintro e w2 ⟨rfl, hb⟩)
          go_ret
          exact ⟨rfl, hb⟩
end Go.Proofs.YtengpehiknoheaaDoor
