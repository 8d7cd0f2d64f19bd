/-
  A table of the call's own: each call of the package in these words.
-/
import Derived.Test.YtamkmmpockmpfaaTkAddC
import Derived.Test.YtamkmmpockmpfaaTkHold
namespace Go.Proofs.Ytamkmmpockmpfaa
open Go.RowKit

/-- A table that was made since w0, where nothing older was turned. -/
def Mine (w0 W : World) (T : Nat) (s : Tb) : Prop := ∃ A : Ad, A.T = T ∧ Tab W A s ∧ But [] w0 W ∧ ∀ x ∈ A.foot, w0.heap.size ≤ x
section
variable {w0 W W' w : World} {T : Nat} {s : Tb}
theorem Mine.fresh (h : Mine w0 W T s) (hb : But [] W W') : Mine w0 W' T s := by
  obtain ⟨A, h1, h2, h3, h4⟩ := h
  exact ⟨A, h1, h2.fresh hb, h3.next hb, h4⟩
theorem Mine.later (h : Mine w0 W T s) (hb : Below W.heap.size W W') : Mine w0 W' T s := h.fresh (But.of_below hb [])
theorem Mine.but (h : Mine w0 W T s) : But [] w0 W := by obtain ⟨A, h1, h2, h3, h4⟩ := h; exact h3
theorem Mine.below (h : Mine w0 W T s) : Below w0.heap.size w0 W := h.but.below (Nat.le_refl _) (by simp)
theorem mine_turn {A A' : Ad} {s' : Tb} (hb : But [] w0 W) (ho : ∀ x ∈ A.foot, w0.heap.size ≤ x) (hT : Tab W' A' s') (hU : Turn W W' A A') : Mine w0 W' A.T s' :=
  ⟨A', hU.t, hT, hb.own hU.but ho, fun x hx => by
    rcases hU.new x hx with q | q
    · exact ho x q
    · exact Nat.le_trans hb.size q⟩

theorem y_new {lo hi : Nat} {v1 v2 v3 : Value} {p : Prg} (w : World) (h : PrgAt lo hi w v1 v2 v3 p) (hs : Small p) (hm : checkW p = none) (hz : But [] w0 w) :
    Calls Try.prog 6 #[.agg #[v1, v2, v3]] w fun e w' => ∃ T, e = .returned (.tuple #[.pointer (some ⟨T, 0, none⟩), .int .i64 0]) ∧ Mine w0 w' T ⟨p, []⟩ := by
  refine (new_ok w h hs hm).mono ?_
  rintro e w' ⟨A, rfl, h1, h2, h3⟩
  exact ⟨A.T, rfl, A, rfl, h1, hz.next h2, fun x hx => Nat.le_trans hz.size (h3 x hx)⟩
theorem y_add {n : Int} (f : Fra) (w : World) (h : Mine w0 w T s) (hok : (atF s.p f).isSome = true) (hl : s.ts.length < 32) (hn : n = (s.ts.length : Int)) :
    Calls Try.prog 7 #[.pointer (some ⟨T, 0, none⟩), fraV f] w fun e w' => e = .returned (.tuple #[.int .i64 n, .int .i64 0]) ∧ Mine w0 w' T ⟨s.p, s.ts ++ [newTk s.p f]⟩ := by
  obtain ⟨A, rfl, h2, h3, h4⟩ := h
  subst hn
  refine (add_room f w h2 hok hl).mono ?_
  rintro e w' ⟨rfl, A', q1, q2⟩
  exact ⟨rfl, mine_turn h3 h4 q1 q2⟩
theorem tab_at {A : Ad} {i : Nat} {k : Tk} (h : Tab w A s) (hk : s.ts[i]? = some k) : ∃ a, A.ks[i]? = some a ∧ TkAt w a k := by
  have hi : i < A.ks.length := by rw [h.len]; exact (List.getElem?_eq_some_iff.1 hk).1
  exact ⟨_, List.getElem?_eq_getElem hi, h.each i _ k (List.getElem?_eq_getElem hi) hk⟩
theorem site_at {A : Ad} {i j : Nat} {k : Tk} {l : List Int} (h : Tab w A s) (hk : s.ts[i]? = some k) (hl : k.os[j]? = some l) : ∃ a o, A.ks[i]? = some a ∧ a.O[j]? = some o := by
  obtain ⟨a, ha, hK⟩ := tab_at h hk
  have hj : j < a.O.length := by rw [hK.len]; exact (List.getElem?_eq_some_iff.1 hl).1
  exact ⟨a, _, ha, List.getElem?_eq_getElem hj⟩
theorem y_pick {i j : Nat} {k : Tk} {l : List Int} {z x : Int} {b : Bool} {ti tj : Int} (rd : Nat) (w : World) (h : Mine w0 w T s) (hk : s.ts[i]? = some k) (hl : k.os[j]? = some l) (hj : j < 1000) (hrd : rd < 18446744073709551616) (hi : ti = (i : Int)) (hij : tj = (j : Int)) (hz : z = (rd : Int)) (hx : x = Od.pickV rd l) (hb : b = Od.pickB rd l) :
    Calls Try.prog 8 #[.pointer (some ⟨T, 0, none⟩), .int .i64 ti, .int .i64 tj, .int .u64 z] w fun e w' => e = .returned (.tuple #[.int .i64 x, .bool b]) ∧ Mine w0 w' T s := by
  obtain ⟨A, rfl, h2, h3, h4⟩ := h
  subst hi hij hz hx hb
  obtain ⟨a, o, ha, ho⟩ := site_at h2 hk hl
  refine (pick_in rd w h2 ha hk ho hl ⟨by omega, by omega⟩ hrd).mono ?_
  rintro e w' ⟨rfl, q⟩
  exact ⟨rfl, A, rfl, h2.fresh q, h3.next q, h4⟩
theorem y_took {i j : Nat} {k : Tk} {l : List Int} {x : Int} {ti tj : Int} (c : Int) (w : World) (h : Mine w0 w T s) (hk : s.ts[i]? = some k) (hl : k.os[j]? = some l) (hj : j < 1000) (hi : ti = (i : Int)) (hij : tj = (j : Int)) (hx : x = Od.tookE l c) :
    Calls Try.prog 10 #[.pointer (some ⟨T, 0, none⟩), .int .i64 ti, .int .i64 tj, .int .i64 c] w fun e w' => e = .returned (.int .i64 x) ∧ Mine w0 w' T { s with ts := s.ts.set i { k with os := k.os.set j (Od.tookX l c) } } := by
  obtain ⟨A, rfl, h2, h3, h4⟩ := h
  subst hi hij hx
  obtain ⟨a, o, ha, ho⟩ := site_at h2 hk hl
  refine (took_in c w h2 ha hk ho hl ⟨by omega, by omega⟩).mono ?_
  rintro e w' ⟨rfl, q1, q2⟩
  exact ⟨rfl, mine_turn h3 h4 q1 q2⟩
theorem y_use {i : Nat} {k : Tk} {n : Int} {ti : Int} (w : World) (h : Mine w0 w T s) (hk : s.ts[i]? = some k) (hi : ti = (i : Int)) (hn : n = IntKind.i64.wrap (k.used + 1)) :
    Calls Try.prog 12 #[.pointer (some ⟨T, 0, none⟩), .int .i64 ti] w fun e w' => e = .returned (.tuple #[.int .i64 n, .int .i64 0]) ∧ Mine w0 w' T { s with ts := s.ts.set i { k with used := n } } := by
  obtain ⟨A, rfl, h2, h3, h4⟩ := h
  subst hi hn
  obtain ⟨a, ha, hK⟩ := tab_at h2 hk
  refine (use_in w h2 ha hk).mono ?_
  rintro e w' ⟨rfl, q1, q2⟩
  exact ⟨rfl, mine_turn h3 h4 q1 q2⟩
theorem y_hold {i : Nat} {k : Tk} {ti : Int} (slot : Int) (w : World) (h : Mine w0 w T s) (hk : s.ts[i]? = some k) (hi : ti = (i : Int)) (hl : k.sl.length ≤ 1024) (hin : slot ∉ k.sl) :
    Calls Try.prog 13 #[.pointer (some ⟨T, 0, none⟩), .int .i64 ti, .int .i64 slot] w fun e w' => e = .returned (.int .i64 0) ∧ Mine w0 w' T { s with ts := s.ts.set i { k with sl := k.sl ++ [slot] } } := by
  obtain ⟨A, rfl, h2, h3, h4⟩ := h
  subst hi
  obtain ⟨a, ha, hK⟩ := tab_at h2 hk
  refine (hold_room slot w h2 ha hk hl hin).mono ?_
  rintro e w' ⟨rfl, v, q1, q2⟩
  exact ⟨rfl, mine_turn h3 h4 q1 q2⟩
theorem y_have {i : Nat} {k : Tk} {ti : Int} (slot : Int) (w : World) (h : Mine w0 w T s) (hk : s.ts[i]? = some k) (hi : ti = (i : Int)) (hl : k.sl.length ≤ 1024) (hin : slot ∈ k.sl) :
    Calls Try.prog 13 #[.pointer (some ⟨T, 0, none⟩), .int .i64 ti, .int .i64 slot] w fun e w' => e = .returned (.int .i64 9) ∧ Mine w0 w' T s := by
  obtain ⟨A, rfl, h2, h3, h4⟩ := h
  subst hi
  obtain ⟨a, ha, hK⟩ := tab_at h2 hk
  refine (hold_have slot w h2 ha hk hl hin).mono ?_
  rintro e w' ⟨rfl, q⟩
  exact ⟨rfl, A, rfl, h2.fresh q, h3.next q, h4⟩
theorem y_len {n : Int} (w : World) (h : Mine w0 w T s) (hn : n = (s.ts.length : Int)) :
    Calls Try.prog 14 #[.pointer (some ⟨T, 0, none⟩)] w fun e w' => e = .returned (.int .i64 n) ∧ w' = w := by
  obtain ⟨A, rfl, h2, h3, h4⟩ := h
  subst hn
  exact len_any w h2
end
end Go.Proofs.Ytamkmmpockmpfaa
