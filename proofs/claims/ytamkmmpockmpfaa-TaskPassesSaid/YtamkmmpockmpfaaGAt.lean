/-
  The walk of prog.At; which instruction is where in a program that may be.
-/
import Derived.Test.YtamkmmpockmpfaaGNext
namespace Go.Proofs.Ytamkmmpockmpfaa
open Go.RowKit

/-- The instruction k of the code i. -/
def atIn (p : Prg) (i k : Int) : Option In := if 0 ≤ i ∧ 0 ≤ k then (p.codes[i.toNat]?).bind fun c => c[k.toNat]? else none
def insV (x : In) : Value := .agg #[.int .u8 (x.o : Int), .int .i64 x.a, .int .i64 x.b, .int .i64 x.c, .int .i64 x.k]
def AtPost (w : World) (r : Option In) (e : Ending) (w' : World) : Prop := e = .returned (.tuple #[insV (r.getD In.zero), .bool r.isSome]) ∧ Below w.heap.size w w'

set_option maxRecDepth 100000 in
set_option maxHeartbeats 1200000 in
theorem at_any {lo hi : Nat} {v1 v2 v3 : Value} {p : Prg} (w : World) (h : PrgAt lo hi w v1 v2 v3 p) (hs : Small p) (i k : Int) :
    Calls Try.prog 52 #[.agg #[v1, v2, v3], .int .i64 i, .int .i64 k] w (AtPost w (atIn p i k)) := by
  obtain ⟨a1, c1, rfl⟩ := h.caps.slice
  obtain ⟨a2, c2, rfl⟩ := h.codes.slice
  obtain ⟨a3, c3, rfl⟩ := h.sites.slice
  have hb := below2 w (.cells #[.slice a1 p.caps.length c1, .slice a2 p.codes.length c2, .slice a3 p.sites.length c3] 26) (.cells #[.int .u8 0, .int .i64 0, .int .i64 0, .int .i64 0, .int .i64 0] 77)
  have hn := hs.codes
  have hwn : IntKind.i64.wrap ((p.codes.length : Int) - 1) = (p.codes.length : Int) - 1 := by rw [IntKind.wrap_i64]; omega
  have hw1 := fun w => within_any i 0 ((p.codes.length : Int) - 1) w
  go_enter Try.func52, Try.ntmps52
  cases hv : withinB i 0 ((p.codes.length : Int) - 1) with
  | false =>
    rw [hv] at hw1
    have HE : Hid (atIn p i k = none) := Lib.hid (by
      unfold atIn
      split
      · rename_i hik
        unfold withinB at hv
        simp [hik.1] at hv
        rw [List.getElem?_eq_none (by omega)]; rfl
      · rfl)
    clear hv
    go_wp2_with (go_at_call 46; refine (hw1 _).mono ?_; rintro e w' ⟨rfl, rfl⟩)
    refine bodyPost_ret (v := .tuple #[insV In.zero, .bool false]) (by simp [results, Try.f52, go_sem, insV, In.zero]) rfl ?_
    exact ⟨by rw [HE.out]; rfl, below2 w _ _⟩
  | true =>
    rw [hv] at hw1
    obtain ⟨m, rfl⟩ : ∃ m : Nat, i = (m : Int) := ⟨i.toNat, by unfold withinB at hv; simp at hv; omega⟩
    have hm : m < p.codes.length := by unfold withinB at hv; simp at hv; omega
    clear hv
    have hm' : (m : Int) < (p.codes.length : Int) := by omega
    have m0 : (0 : Int) ≤ (m : Int) := by omega
    obtain ⟨b, off, ra, rc, x, rfl, -, hbh, hx, hc, hr⟩ := h.codes.at hm
    have hbl : b < w.heap.size := Nat.lt_of_lt_of_le hbh h.top
    have hxl := hs.code x (List.mem_of_getElem? hx)
    have hwx : IntKind.i64.wrap ((x.length : Int) - 1) = (x.length : Int) - 1 := by rw [IntKind.wrap_i64]; omega
    have hw2 := fun w => within_any k 0 ((x.length : Int) - 1) w
    have HX := Lib.hid hx
    clear hx
    cases hv : withinB k 0 ((x.length : Int) - 1) with
    | false =>
      rw [hv] at hw2
      have HE : Hid (atIn p (m : Int) k = none) := Lib.hid (by
        unfold atIn
        split
        · rename_i hik
          rw [Int.toNat_natCast, HX.out]
          unfold withinB at hv
          simp [hik.2] at hv
          simp only [Option.bind_some]
          rw [List.getElem?_eq_none (by omega)]
        · rfl)
      clear hv
      go_wp2_with fail
      refine (hw1 _).mono ?_
      rintro e w' ⟨rfl, rfl⟩
      go_wp2_with fail
      refine (hw2 _).mono ?_
      rintro e w' ⟨rfl, rfl⟩
      go_wp2_with fail
      refine bodyPost_ret (v := .tuple #[insV In.zero, .bool false]) (by simp [results, Try.f52, go_sem, insV, In.zero]) rfl ?_
      exact ⟨by rw [HE.out]; rfl, below2 w _ _⟩
    | true =>
      rw [hv] at hw2
      obtain ⟨n, rfl⟩ : ∃ n : Nat, k = (n : Int) := ⟨k.toNat, by unfold withinB at hv; simp at hv; omega⟩
      have hn2 : n < x.length := by unfold withinB at hv; simp at hv; omega
      clear hv
      have hn' : (n : Int) < (x.length : Int) := by omega
      have n0 : (0 : Int) ≤ (n : Int) := by omega
      obtain ⟨b2, off2, y, rfl, -, hbh2, hy, -, d0, d1, d2, d3, d4⟩ := hr.at hn2
      have hbl2 : b2 < w.heap.size := Nat.lt_of_lt_of_le hbh2 h.top
      have HE : Hid (atIn p (m : Int) (n : Int) = some y) := Lib.hid (by
        unfold atIn
        rw [if_pos ⟨m0, n0⟩, Int.toNat_natCast, Int.toNat_natCast, HX.out]
        exact hy)
      clear hy hr
      go_wp2_with fail
      refine (hw1 _).mono ?_
      rintro e w' ⟨rfl, rfl⟩
      go_wp2_with fail
      refine (hw2 _).mono ?_
      rintro e w' ⟨rfl, rfl⟩
      go_wp2_with fail
      refine bodyPost_ret (v := .tuple #[insV y, .bool true]) (by simp [results, Try.f52, go_sem, insV]) rfl ?_
      exact ⟨by rw [HE.out]; rfl, below2 w _ _⟩

/-- A program of one code of one instruction, as it lies in memory. -/
structure Is (W : World) (g B : Nat) (xs : List In) : Prop where
  row : Blk W g 49 #[.slice (some ⟨B, 0, none⟩) xs.length xs.length]
  ins : Blk W B 77 (xs.flatMap In.cellsL).toArray
theorem Is.later {W W' : World} {g B n : Nat} {xs : List In} (h : Is W g B xs) (hb : Below n W W') (hn : W.heap.size ≤ n) : Is W' g B xs := ⟨h.row.later hb (Nat.lt_of_lt_of_le h.row.lt hn), h.ins.later hb (Nat.lt_of_lt_of_le h.ins.lt hn)⟩
theorem Is.alloc {W : World} {g B : Nat} {xs : List In} (h : Is W g B xs) (o : Obj) : Is (W.alloc o) g B xs := ⟨h.row.alloc o, h.ins.alloc o⟩
def one (xs : List In) : Prg := ⟨[], [xs], []⟩
theorem blk_cells {W : World} {B : Nat} {t : TypeId} {l : List Value} (h : Blk W B t l.toArray) : ∀ j u, l[j]? = some u → W.cell? ⟨B, 0 + j, none⟩ = some u := fun j u hu => by
  rw [Nat.zero_add]; exact h.cell (by simpa using hu)
theorem Is.at {W : World} {g B : Nat} {xs : List In} (h : Is W g B xs) (hx : ∀ x ∈ xs, x.ok) : PrgAt 0 W.heap.size W (.slice none 0 0) (.slice (some ⟨g, 0, none⟩) 1 1) (.slice none 0 0) (one xs) := by
  refine ⟨Nat.le_refl _, ⟨⟨rfl, none, 0, rfl, .inl rfl⟩, by simp [one]⟩, ⟨[.slice (some ⟨B, 0, none⟩) xs.length xs.length], ⟨rfl, _, 1, rfl, .inr ⟨g, 0, rfl, Nat.zero_le _, h.row.lt, blk_cells h.row⟩⟩, ?_⟩, ⟨[], rfl, ⟨rfl, none, 0, rfl, .inl rfl⟩, by simp⟩⟩
  intro k u c hu hc
  have hk : k = 0 := by have := (List.getElem?_eq_some_iff.1 hu).1; simpa using this
  subst hk
  simp only [List.getElem?_cons_zero, Option.some.injEq] at hu
  simp only [one, List.getElem?_cons_zero, Option.some.injEq] at hc
  subst hu hc
  exact ⟨⟨flat_len In.cellsL 5 (fun _ => rfl) xs, _, _, rfl, .inr ⟨B, 0, rfl, Nat.zero_le _, h.ins.lt, blk_cells h.ins⟩⟩, hx⟩
section
variable {p : Prg} {m n : Nat} {c : List In} {x : In}
theorem at_some (hc : p.codes[m]? = some c) (hx : c[n]? = some x) : atIn p m n = some x := by
  unfold atIn
  rw [if_pos ⟨by omega, by omega⟩, Int.toNat_natCast, Int.toNat_natCast, hc]
  exact hx
theorem at_next (h : checkW p = none) (hc : p.codes[m]? = some c) (hx : c[n]? = some x) : (atIn p m ((n : Int) + 1)).isSome = true ∨ ((atIn p m ((n : Int) + 1)).isSome = false ∧ (x.o = 10 ∨ x.o = 3)) := by
  have hn := (List.getElem?_eq_some_iff.1 hx).1
  by_cases hl : n + 1 < c.length
  · left
    rw [show (n : Int) + 1 = ((n + 1 : Nat) : Int) by omega, at_some hc (List.getElem?_eq_getElem hl)]; rfl
  · right
    refine ⟨?_, may_last h hc (by rw [show c.length - 1 = n by omega]; exact hx)⟩
    unfold atIn
    rw [if_pos ⟨by omega, by omega⟩, Int.toNat_natCast, hc]
    simp only [Option.bind_some]
    rw [List.getElem?_eq_none (by omega)]; rfl
theorem at_place (h : checkW p = none) (hc : p.codes[m]? = some c) (hx : c[n]? = some x) (ho : x.o = 3 ∨ x.o = 4) : (atIn p m x.k).isSome = true := by
  obtain ⟨h0, h1⟩ := may_place (may_ins h hc hx) ho
  obtain ⟨j, hj⟩ : ∃ j : Nat, x.k = (j : Int) := ⟨x.k.toNat, by omega⟩
  rw [hj, at_some hc (List.getElem?_eq_getElem (by omega))]; rfl
theorem at_first (h : checkW p = none) : (atIn p 0 0).isSome = true := by
  have h1 := may_some h
  have h2 := may_pos h (List.getElem?_eq_getElem h1)
  have := at_some (p := p) (m := 0) (n := 0) (List.getElem?_eq_getElem h1) (List.getElem?_eq_getElem h2)
  rw [show ((0 : Nat) : Int) = 0 from rfl] at this
  rw [this]; rfl
end
theorem atP_any {lo hi : Nat} {v1 v2 v3 : Value} {p : Prg} (w : World) (h : PrgAt lo hi w v1 v2 v3 p) (hs : Small p) (i k : Int) :
    Calls Try.prog 52 #[.agg #[v1, v2, v3], .int .i64 i, .int .i64 k] w fun e w' => ∃ y : In, e = .returned (.tuple #[.agg #[.int .u8 (y.o : Int), .int .i64 y.a, .int .i64 y.b, .int .i64 y.c, .int .i64 y.k], .bool (atIn p i k).isSome]) ∧ y = (atIn p i k).getD In.zero ∧ Below w.heap.size w w' :=
  (at_any w h hs i k).mono fun _ _ ⟨h1, h2⟩ => ⟨_, h1, rfl, h2⟩
end Go.Proofs.Ytamkmmpockmpfaa
