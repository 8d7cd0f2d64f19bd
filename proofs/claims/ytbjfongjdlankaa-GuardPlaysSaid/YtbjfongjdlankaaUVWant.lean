/-
  The walk of tollbarref21's Want.
-/
import Derived.Test.YtbjfongjdlankaaUVDo
import Derived.Test.YtbjfongjdlankaaUApp
namespace Go.Proofs.Ytbjfongjdlankaa
open Go.RowKit

theorem lastI_low {xs : List Int} {j : Nat} (h : ∀ i, i < j → 0 ≤ atI xs i) : -1 ≤ lastI xs j := by
  unfold lastI; split
  · omega
  · have := h (j - 1) (by omega); omega

theorem rwant_have {R Y kap : Nat} {a b : Option Addr} {cap : Nat} {s : Gs} {l : List Int} (w : World) (h : RefG w R Y a cap s) (hs : 0 < s.h ∨ s.d = true) :
    Calls Try.prog 13 #[.pointer (some ⟨R, 0, none⟩), .slice b l.length kap] w fun e w' => e = .returned (.int .i64 9) ∧ w' = w := by
  have e2 := h.c2
  have e4 := h.c4
  clear h
  by_cases h0 : 0 < s.h
  · have t2 : (0 : Int) < (s.h : Int) := by omega
    have t1 : decide ((0 : Int) < (s.h : Int)) = true := decide_eq_true t2
    clear hs h0
    go_enter Try.func13, Try.ntmps13
    go_wp2_with fail
    go_ret
    exact ⟨rfl, rfl⟩
  · have t1 : decide ((0 : Int) < (s.h : Int)) = false := decide_eq_false (by omega)
    have t2 : ¬ (0 : Int) < (s.h : Int) := by omega
    rcases hs with hs | hs
    · omega
    rw [hs] at e4
    clear hs h0
    go_enter Try.func13, Try.ntmps13
    go_wp2_with fail
    go_ret
    exact ⟨rfl, rfl⟩

set_option maxRecDepth 100000 in
set_option maxHeartbeats 1600000 in
theorem rwant_go {R Y M base n kap : Nat} {a b : Option Addr} {cap : Nat} {s : Gs} {l : List Int} (w : World) (h : RefG w R Y a cap s) (hL : RefL w Y M base n) (hr : RowA w b l) (hl : l.length ≤ 4096) (h0 : s.h = 0) (hd : s.d = false) :
    Calls Try.prog 13 #[.pointer (some ⟨R, 0, none⟩), .slice b l.length kap] w fun e w' => e = .returned (.int .i64 (if rises n l then 0 else 2)) ∧ WPost w R Y (if rises n l then ⟨l, s.h, s.d, s.t⟩ else s) w' := by
  obtain ⟨i0, hi, hz0, hz1, hz2⟩ := info_parts infoInt
  have e0 := h.c0
  have e2 := h.c2
  have e4 := h.c4
  rw [h0] at e2
  rw [hd] at e4
  have p1 := fun x m => lhas_any x (w.drewN m) (hL.drewN m)
  have HH := Lib.hid h
  have HR := Lib.hid hr
  obtain ⟨E, hE⟩ : ∃ E : Int, E = if rises n l then 0 else 2 := ⟨_, rfl⟩
  obtain ⟨S, hS⟩ : ∃ S : Gs, S = if rises n l then ⟨l, s.h, s.d, s.t⟩ else s := ⟨_, rfl⟩
  rw [← hE, ← hS]
  have hy : rises n l = true → E = 0 ∧ S = ⟨l, s.h, s.d, s.t⟩ := fun h => by rw [hE, hS, h]; exact ⟨rfl, rfl⟩
  have hn : rises n l = false → E = 2 ∧ S = s := fun h => by rw [hE, hS, h]; exact ⟨rfl, rfl⟩
  have HY := Lib.hid hy
  have HN := Lib.hid hn
  have HZ := Lib.hid h0
  clear h hL hr hd h0 hE hS hy hn
  go_enter Try.func13, Try.ntmps13
  go_wp2_with fail
  go_loopw [5] (fun iv wr => ∃ j m : Nat, j ≤ l.length ∧ iv = .int .i64 (j : Int) ∧ Hid (wr = w.drewN m) ∧ Hid (rises n l = risesFrom n (lastI l j) (l.drop j) ∧ ∀ i, i < j → 0 ≤ atI l i)) (fun iv _ => l.length - (intOf iv).toNat)
  case atStart => exact ⟨0, 0, Nat.zero_le _, rfl, Lib.hid rfl, Lib.hid ⟨rfl, fun i hi => by omega⟩⟩
  case round =>
    obtain ⟨j, m, hj, rfl, hw, hP⟩ := hrel
    by_cases hlt : j < l.length
    · have hlt' : (j : Int) < (l.length : Int) := by omega
      obtain ⟨o, ob, rfl, hc⟩ := HR.out (by omega)
      have x1 : wr.cell? ⟨o, ob + j, none⟩ = some (.int .i64 (atI l j)) := by rw [hw.out]; exact hc j hlt
      have y0 : wr.cell? ⟨R, 0, none⟩ = some (.pointer (some ⟨Y, 0, none⟩)) := by rw [hw.out]; exact e0
      have p2 := fun q => p1 (atI l j) (m + q)
      have hlow := lastI_low hP.out.2
      have hstep := fun hx hp => rises_from hlt hP.out.1 hx hp
      have hnot := fun hx => rises_not hlt hP.out.1 hx
      have p3 : ∀ q, Calls Try.prog 38 #[.pointer (some ⟨Y, 0, none⟩), .int .i64 (atI l j)] (wr.drewN q) fun e w' => e = .returned (.bool (inRow n (atI l j))) ∧ w' = wr.drewN q := fun q => by rw [hw.out, drewN_add]; exact p2 q
      have hlow2 := hP.out.2
      have hlast : lastI l (j + 1) = atI l j := by unfold lastI; rw [if_neg (by omega)]; rfl
      have HX := Lib.hid (And.intro hlow (And.intro hstep (And.intro hnot hlow2)))
      have HJ := Lib.hid hj
      clear p2 hlow hstep hnot hlow2 hj
      cases hin : inRow n (atI l j) with
      | false =>
        have hf : Hid (rises n l = false) := Lib.hid (HX.out.2.2.1 (fun hh => by have := of_decide_eq_false hin; have := HX.out.1; omega))
        simp only [hin] at p3
        obtain ⟨rfl, rfl⟩ := HN.out hf.out
        obtain ⟨x, hx⟩ : ∃ x, x = atI l j := ⟨_, rfl⟩
        rw [← hx] at x1 p3
        clear hx hc hin hlast
        go_wp2_with fail
        go_quiet (first | (go_at_call 38; with_reducible exact Calls.quiet_of_same (p3 _)))
        go_wp2_with fail
        go_ret
        exact ⟨rfl, ⟨_, _, by rw [hw.out, drewN_add]; exact HH.out.drewN _⟩, by rw [hw.out, drewN_add]; exact (But.refl _ _).drewN _⟩
      | true =>
        simp only [hin] at p3
        have hin2 := of_decide_eq_true hin
        obtain ⟨x, hx⟩ : ∃ x, x = atI l j := ⟨_, rfl⟩
        have HXX := Lib.hid hx
        rw [← hx] at x1 p3
        have q0 : (0 : Int) ≤ (j : Int) := by omega
        by_cases hj0 : j = 0
        · have hn := Lib.hid (HX.out.2.1 hin2.2 (by unfold lastI; rw [if_pos hj0]; omega))
          have hlo : Hid (∀ i, i < j + 1 → 0 ≤ atI l i) := Lib.hid fun i hi => by obtain rfl : i = j := (by omega); exact hin2.1
          have q1 : ¬ (0 : Int) < (j : Int) := by omega
          have q2 : decide ((0 : Int) < (j : Int)) = false := decide_eq_false q1
          have q7 : decide (0 < j) = false := decide_eq_false (by omega)
          clear hin hin2 hx hc hlast hj0
          go_wp2_with fail
          go_quiet (first | (go_at_call 38; with_reducible exact Calls.quiet_of_same (p3 _)))
          go_wp2_with fail
          go_roundw
          case rel => exact ⟨j + 1, m + nq, by omega, by go_num, Lib.hid (by rw [hw.out, drewN_add]), Lib.hid ⟨hn.out, hlo.out⟩⟩
          case measure => simp [intOf]; omega
        · obtain ⟨i, hi⟩ : ∃ i, j = i + 1 := ⟨j - 1, by omega⟩
          have x2 : wr.cell? ⟨o, ob + i, none⟩ = some (.int .i64 (atI l i)) := by rw [hw.out]; exact hc i (by omega)
          have hli : lastI l j = atI l i := by unfold lastI; rw [if_neg hj0, hi]; rfl
          obtain ⟨p, hp⟩ : ∃ p, p = atI l i := ⟨_, rfl⟩
          rw [← hp] at x2
          have q1 : (0 : Int) < (j : Int) := by omega
          have q2 : decide ((0 : Int) < (j : Int)) = true := decide_eq_true q1
          have q7 : decide (0 < j) = true := decide_eq_true (by omega)
          have q3 : IntKind.i64.wrap ((j : Int) - 1) = (i : Int) := by rw [IntWalk.i64_in _ (by omega)]; omega
          have q4 : (0 : Int) ≤ (i : Int) := by omega
          have q5 : (i : Int) < (l.length : Int) := by omega
          have HI := Lib.hid hi
          clear hi hj0
          by_cases hxp : x ≤ p
          · have t1 : decide (x ≤ p) = true := decide_eq_true hxp
            have hf : Hid (rises n l = false) := Lib.hid (HX.out.2.2.1 (fun hh => by rw [hli, ← hp, ← hx] at hh; omega))
            obtain ⟨rfl, rfl⟩ := HN.out hf.out
            clear hin hin2 hx hc hlast hli hp
            go_wp2_with fail
            go_quiet (first | (go_at_call 38; with_reducible exact Calls.quiet_of_same (p3 _)))
            go_wp2_with fail
            go_ret
            exact ⟨rfl, ⟨_, _, by rw [hw.out, drewN_add]; exact HH.out.drewN _⟩, by rw [hw.out, drewN_add]; exact (But.refl _ _).drewN _⟩
          · have t1 : decide (x ≤ p) = false := decide_eq_false hxp
            have hn := Lib.hid (HX.out.2.1 hin2.2 (by rw [hli, ← hp, ← hx]; omega))
            have hlo : Hid (∀ p, p < j + 1 → 0 ≤ atI l p) := Lib.hid fun p hp => by
              by_cases e : p = j
              · subst e; exact hin2.1
              · exact HX.out.2.2.2 p (by omega)
            clear hin hin2 hx hc hlast hli hp
            go_wp2_with fail
            go_quiet (first | (go_at_call 38; with_reducible exact Calls.quiet_of_same (p3 _)))
            go_wp2_with fail
            go_roundw
            case rel => exact ⟨j + 1, m + nq, by omega, by go_num, Lib.hid (by rw [hw.out, drewN_add]), Lib.hid ⟨hn.out, hlo.out⟩⟩
            case measure => simp [intOf]; omega
    · have hlt' : ¬ (j : Int) < (l.length : Int) := by omega
      have ht : Hid (rises n l = true) := Lib.hid (by rw [hP.out.1]; exact rises_end (by omega))
      obtain ⟨rfl, rfl⟩ := HY.out ht.out
      have hGr : RefG wr R Y a cap s := by rw [hw.out]; exact HH.out.drewN m
      have hbr : But [] w wr := by rw [hw.out]; exact (But.refl _ _).drewN m
      have hRr : RowA wr b l := by rw [hw.out]; exact HR.out
      have f1 := hGr.frozen 1
      have x1 := hGr.c1
      clear e0 e2 e4 p1 hP
      go_upto_region 8 with fail
      go_wp2_with (at_builtin; refine wpList_app_nil rfl _ _ rfl rfl rfl hRr hl ?_; intro b' kap' w2 hR2 hb2; have hG2 := hGr.next hb2; have f2 := hG2.frozen 1; have x2 := hG2.c1)
      have hG3 := hG2.setL (b := b') (kap := kap') (l := l) rfl hR2 (by rw [HZ.out]; omega) hl
      have hb3 := ((hbr.next hb2).mono (T := [R]) (by simp)).set (p := ⟨R, 1, none⟩) (.inl (by simp)) (.slice b' l.length kap')
      go_ret
      exact ⟨rfl, ⟨_, _, hG3⟩, hb3⟩

theorem rwant_any {R Y M base n kap : Nat} {a b : Option Addr} {cap : Nat} {s : Gs} {l : List Int} (w : World) (h : RefG w R Y a cap s) (hL : RefL w Y M base n) (hr : RowA w b l) (hl : l.length ≤ 4096) :
    Calls Try.prog 13 #[.pointer (some ⟨R, 0, none⟩), .slice b l.length kap] w fun e w' => e = .returned (.int .i64 (wantE n s l)) ∧ WPost w R Y (wantS n s l) w' := by
  by_cases hs : 0 < s.h ∨ s.d = true
  · have hE : wantE n s l = 9 := by unfold wantE; rw [if_pos hs]
    rw [wantS, hE, if_neg (by decide)]
    refine (rwant_have w h hs).mono ?_
    rintro e w' ⟨rfl, rfl⟩
    exact ⟨rfl, ⟨_, _, h⟩, But.refl _ _⟩
  · have hd : s.d = false := by
      cases hd : s.d with
      | false => rfl
      | true => exact absurd (.inr hd) hs
    have h0 : s.h = 0 := by
      rcases Nat.eq_zero_or_pos s.h with h0 | h0
      · exact h0
      · exact absurd (.inl h0) hs
    have := rwant_go (kap := kap) w h hL hr hl h0 hd
    unfold wantS wantE
    rw [if_neg hs]
    cases hR : rises n l <;> rw [hR] at this <;> exact this
end Go.Proofs.Ytbjfongjdlankaa
