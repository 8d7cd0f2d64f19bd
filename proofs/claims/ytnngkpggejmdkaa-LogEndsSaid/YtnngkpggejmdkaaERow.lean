/-
  Rows of entries in memory; the walk of tollbarref14.Same.
-/
import Derived.Test.YtnngkpggejmdkaaECheck
namespace Go.Proofs.Ytnngkpggejmdkaa
open Go.RowKit

def En.cellsL (x : En) : List Value := [.int .i64 x.a, .int .u8 (x.k : Int), .int .i64 x.w, .int .i64 x.t, .int .i64 x.p, .int .i64 x.c, .int .i64 x.b, .int .i64 x.q, .int .i64 x.v, .int .i64 x.u, .bool x.o, .int .i64 x.e, .int .u64 (x.s : Int)]
theorem en_len (x : En) : x.cellsL.length = 13 := rfl
theorem en_one (l : List En) : ∀ u ∈ l.flatMap En.cellsL, u.oneCell' = true := by
  intro u hu; obtain ⟨x, _, hu⟩ := List.mem_flatMap.1 hu
  simp only [En.cellsL, List.mem_cons, List.not_mem_nil, or_false] at hu
  rcases hu with rfl | rfl | rfl | rfl | rfl | rfl | rfl | rfl | rfl | rfl | rfl | rfl | rfl <;> rfl
theorem flat_len {α : Type} (f : α → List Value) (n : Nat) (hf : ∀ x, (f x).length = n) (l : List α) : (l.flatMap f).length = l.length * n := by
  induction l with
  | nil => simp
  | cons x t ih => rw [List.flatMap_cons, List.length_append, ih, hf, List.length_cons, Nat.succ_mul, Nat.add_comm]
theorem flat_get {α : Type} (f : α → List Value) (n : Nat) (hf : ∀ x, (f x).length = n) (l : List α) (i j : Nat) (hj : j < n) : (l.flatMap f)[i * n + j]? = (l[i]?).bind fun x => (f x)[j]? := by
  induction l generalizing i with
  | nil => simp
  | cons x t ih =>
    rw [List.flatMap_cons]
    cases i with
    | zero => rw [Nat.zero_mul, Nat.zero_add, List.getElem?_append_left (by rw [hf]; exact hj)]; rfl
    | succ i =>
      rw [List.getElem?_append_right (by rw [hf, Nat.succ_mul]; omega), hf, show (i + 1) * n + j - n = i * n + j by rw [Nat.succ_mul]; omega, ih]
      rfl
/-- The slice value v reads as the entries l. -/
def EnRow (W : World) (v : Value) (l : List En) : Prop :=
  ∃ a cap, v = .slice a l.length cap ∧ (l.length = 0 ∨ ∃ b off, a = some ⟨b, off, none⟩ ∧ b < W.heap.size ∧ ∀ k x, l[k]? = some x → ∀ i u, x.cellsL[i]? = some u → W.cell? ⟨b, off + k * 13 + i, none⟩ = some u)
theorem EnRow.slice {W : World} {v : Value} {l : List En} (h : EnRow W v l) : ∃ a c, v = .slice a l.length c := by obtain ⟨a, c, h, _⟩ := h; exact ⟨a, c, h⟩
theorem EnRow.keep {W W' : World} {v : Value} {l : List En} (h : EnRow W v l) (hb : But [] W W') : EnRow W' v l := by
  obtain ⟨a, c, h1, h2⟩ := h
  refine ⟨a, c, h1, ?_⟩
  rcases h2 with h2 | ⟨b, off, h3, h4, h5⟩
  · exact .inl h2
  · exact .inr ⟨b, off, h3, Nat.lt_of_lt_of_le h4 hb.size, fun k x hk i u hi => hb.cell (h5 k x hk i u hi) (by simp)⟩
theorem EnRow.below {W W' : World} {v : Value} {l : List En} (h : EnRow W v l) (hb : Below W.heap.size W W') : EnRow W' v l := h.keep (But.of_below hb [])
theorem EnRow.nil (W : World) : EnRow W (.slice none 0 0) [] := ⟨none, 0, rfl, .inl rfl⟩
theorem EnRow.at {W : World} {a : Option Addr} {n c : Nat} {l : List En} (h : EnRow W (.slice a n c) l) {k : Nat} {x : En} (hk : l[k]? = some x) :
    ∃ b off, a = some ⟨b, off, none⟩ ∧ b < W.heap.size ∧ W.cell? ⟨b, off + k * 13, none⟩ = some (.int .i64 x.a) ∧ W.cell? ⟨b, off + k * 13 + 1, none⟩ = some (.int .u8 (x.k : Int)) ∧ W.cell? ⟨b, off + k * 13 + 2, none⟩ = some (.int .i64 x.w) ∧ W.cell? ⟨b, off + k * 13 + 3, none⟩ = some (.int .i64 x.t) ∧ W.cell? ⟨b, off + k * 13 + 4, none⟩ = some (.int .i64 x.p) ∧ W.cell? ⟨b, off + k * 13 + 5, none⟩ = some (.int .i64 x.c) ∧ W.cell? ⟨b, off + k * 13 + 6, none⟩ = some (.int .i64 x.b) ∧ W.cell? ⟨b, off + k * 13 + 7, none⟩ = some (.int .i64 x.q) ∧ W.cell? ⟨b, off + k * 13 + 8, none⟩ = some (.int .i64 x.v) ∧ W.cell? ⟨b, off + k * 13 + 9, none⟩ = some (.int .i64 x.u) ∧ W.cell? ⟨b, off + k * 13 + 10, none⟩ = some (.bool x.o) ∧ W.cell? ⟨b, off + k * 13 + 11, none⟩ = some (.int .i64 x.e) ∧ W.cell? ⟨b, off + k * 13 + 12, none⟩ = some (.int .u64 (x.s : Int)) := by
  obtain ⟨a', c', h1, h2⟩ := h
  have hlt := (List.getElem?_eq_some_iff.1 hk).1
  simp only [Value.slice.injEq] at h1
  rcases h2 with h2 | ⟨b, off, h3, h4, h5⟩
  · omega
  · exact ⟨b, off, h1.1.trans h3, h4, by simpa using h5 k x hk 0 _ rfl, h5 k x hk 1 _ rfl, h5 k x hk 2 _ rfl, h5 k x hk 3 _ rfl, h5 k x hk 4 _ rfl, h5 k x hk 5 _ rfl, h5 k x hk 6 _ rfl, h5 k x hk 7 _ rfl, h5 k x hk 8 _ rfl, h5 k x hk 9 _ rfl, h5 k x hk 10 _ rfl, h5 k x hk 11 _ rfl, h5 k x hk 12 _ rfl⟩
theorem EnRow.of_owns {W : World} {base : Nat} {v : Value} {l : List En} (h : W.ownsRow base 31 13 v l.length (l.flatMap En.cellsL)) : EnRow W v l := by
  rcases id h.2 with ⟨rfl, hz⟩ | ⟨g, cap, cur, rfl, _, hg, _⟩
  · exact ⟨none, 0, by rw [hz], .inl hz⟩
  · refine ⟨_, cap, rfl, .inr ⟨g, 0, rfl, (Array.getElem?_eq_some_iff.mp hg).1, fun k x hk i u hi => ?_⟩⟩
    have hi13 : i < 13 := by have := (List.getElem?_eq_some_iff.1 hi).1; rwa [en_len] at this
    have hkl := (List.getElem?_eq_some_iff.1 hk).1
    have hf := flat_get En.cellsL 13 en_len l k i hi13
    rw [hk, Option.bind_some, hi] at hf
    have := h.cellAt (k * 13 + i) (by omega)
    rw [Nat.zero_add, this, hf]
/-- One entry that is laid as a row. -/
theorem EnRow.one (W : World) (x : En) : EnRow (W.alloc (.cells #[.int .i64 x.a, .int .u8 (x.k : Int), .int .i64 x.w, .int .i64 x.t, .int .i64 x.p, .int .i64 x.c, .int .i64 x.b, .int .i64 x.q, .int .i64 x.v, .int .i64 x.u, .bool x.o, .int .i64 x.e, .int .u64 (x.s : Int)] 31)) (.slice (some ⟨W.heap.size, 0, none⟩) 1 1) [x] := by
  refine ⟨_, _, rfl, .inr ⟨W.heap.size, 0, rfl, by simp, fun k y hk i u hi => ?_⟩⟩
  match k, hk with
  | 0, hk =>
    simp only [List.getElem?_cons_zero, Option.some.injEq] at hk
    subst hk
    simp only [World.cell?, World.alloc_heap_new]
    simpa [En.cellsL] using hi
theorem take_snocE (l : List En) {k : Nat} {x : En} (hk : l[k]? = some x) : l.take (k + 1) = l.take k ++ [x] := by
  rw [List.take_add_one, hk]; rfl
set_option maxRecDepth 100000 in
theorem ne_run (y x : En) (W : World) : (binOp .neq 31 (.agg #[.int .i64 y.a, .int .u8 (y.k : Int), .int .i64 y.w, .int .i64 y.t, .int .i64 y.p, .int .i64 y.c, .int .i64 y.b, .int .i64 y.q, .int .i64 y.v, .int .i64 y.u, .bool y.o, .int .i64 y.e, .int .u64 (y.s : Int)]) (.agg #[.int .i64 x.a, .int .u8 (x.k : Int), .int .i64 x.w, .int .i64 x.t, .int .i64 x.p, .int .i64 x.c, .int .i64 x.b, .int .i64 x.q, .int .i64 x.v, .int .i64 x.u, .bool x.o, .int .i64 x.e, .int .u64 (x.s : Int)])).run Try.prog W = .ok (.bool (!En.eq y x)) W := by
  have u := Try.underlying31
  simp [go_sem]
  cases h : En.eq y x with
  | true =>
    obtain rfl := En.eq_iff.1 h
    simp
  | false =>
    have hne : y ≠ x := fun e => by rw [En.eq_iff.2 e] at h; cases h
    by_cases q_a : y.a = x.a
    case neg => simp only [if_neg q_a, Bool.not_false]
    simp only [if_pos q_a]
    by_cases q_k : (y.k : Int) = (x.k : Int)
    case neg => simp only [if_neg q_k, Bool.not_false]
    simp only [if_pos q_k]
    by_cases q_w : y.w = x.w
    case neg => simp only [if_neg q_w, Bool.not_false]
    simp only [if_pos q_w]
    by_cases q_t : y.t = x.t
    case neg => simp only [if_neg q_t, Bool.not_false]
    simp only [if_pos q_t]
    by_cases q_p : y.p = x.p
    case neg => simp only [if_neg q_p, Bool.not_false]
    simp only [if_pos q_p]
    by_cases q_c : y.c = x.c
    case neg => simp only [if_neg q_c, Bool.not_false]
    simp only [if_pos q_c]
    by_cases q_b : y.b = x.b
    case neg => simp only [if_neg q_b, Bool.not_false]
    simp only [if_pos q_b]
    by_cases q_q : y.q = x.q
    case neg => simp only [if_neg q_q, Bool.not_false]
    simp only [if_pos q_q]
    by_cases q_v : y.v = x.v
    case neg => simp only [if_neg q_v, Bool.not_false]
    simp only [if_pos q_v]
    by_cases q_u : y.u = x.u
    case neg => simp only [if_neg q_u, Bool.not_false]
    simp only [if_pos q_u]
    by_cases q_o : y.o = x.o
    case neg => simp only [if_neg q_o, Bool.not_false]
    simp only [if_pos q_o]
    by_cases q_e : y.e = x.e
    case neg => simp only [if_neg q_e, Bool.not_false]
    simp only [if_pos q_e]
    by_cases q_s : (y.s : Int) = (x.s : Int)
    case neg => simp only [if_neg q_s, Bool.not_false]
    simp only [if_pos q_s]
    have r1 : y.k = x.k := by omega
    have r12 : y.s = x.s := by omega
    clear q_k q_s
    exact absurd (by
      cases y; cases x
      simp only at q_a q_w q_t q_p q_c q_b q_q q_v q_u q_o q_e r1 r12
      subst q_a q_w q_t q_p q_c q_b q_q q_v q_u q_o q_e r1 r12
      rfl) hne
theorem ret_b {a b : Bool} (h : a = b) : Ending.returned (.bool a) = .returned (.bool b) := by rw [h]
set_option maxRecDepth 100000 in
set_option maxHeartbeats 1600000 in
theorem same_any (a b : Value) (xs ys : List En) (w : World) (ha : EnRow w a xs) (hb : EnRow w b ys) (hxl : xs.length ≤ 9223372036854775807) (hyl : ys.length ≤ 9223372036854775807) :
    Calls Try.prog 13 #[a, b] w fun e w' => e = .returned (.bool (decide (xs = ys))) ∧ Below w.heap.size w w' := by
  obtain ⟨p1, c1, rfl⟩ := ha.slice
  obtain ⟨p2, c2, rfl⟩ := hb.slice
  by_cases hl : xs.length = ys.length
  · have hl1 : ((xs.length : Int) == (ys.length : Int)) = true := by simp; omega
    have hl2 : ((xs.length : Int) != (ys.length : Int)) = false := by simp; omega
    have HL := Lib.hid hl
    clear hl
    go_enter Try.func13, Try.ntmps13
    go_wp2_with fail
    go_loopw [5] (fun i wr => ∃ k : Nat, i = .int .i64 k ∧ k ≤ xs.length ∧ Hid (xs.take k = ys.take k) ∧ Below w.heap.size w wr) (fun i _ => xs.length - (intOf i).toNat)
    case atStart => exact ⟨0, rfl, Nat.zero_le _, Lib.hid (by simp), Below.refl _ _⟩
    case round =>
      obtain ⟨k, rfl, hk, HT, hbl⟩ := hrel
      by_cases hlt : k < xs.length
      · have hlt' : (k : Int) < (xs.length : Int) := by omega
        have hlt2 : (k : Int) < (ys.length : Int) := by have := HL.out; omega
        have q0 : (0 : Int) ≤ (k : Int) := by omega
        obtain ⟨x, hx⟩ : ∃ x, xs[k]? = some x := ⟨_, List.getElem?_eq_getElem hlt⟩
        obtain ⟨y, hy⟩ : ∃ y, ys[k]? = some y := ⟨_, List.getElem?_eq_getElem (by have := HL.out; omega)⟩
        obtain ⟨b1, o1, rfl, _, x0, x1, x2, x3, x4, x5, x6, x7, x8, x9, x10, x11, x12⟩ := (ha.below hbl).at hx
        obtain ⟨b2, o2, rfl, _, y0, y1, y2, y3, y4, y5, y6, y7, y8, y9, y10, y11, y12⟩ := (hb.below hbl).at hy
        have HX := Lib.hid hx
        have HY := Lib.hid hy
        have hn := ne_run x y
        clear hx hy
        by_cases he : x = y
        · subst he
          have HT' : Hid (xs.take (k + 1) = ys.take (k + 1)) := Lib.hid (by rw [take_snocE _ HX.out, take_snocE _ HY.out, HT.out])
          rw [En.eq_refl] at hn
          go_wp2_with fail
          go_region
          go_wp2_with fail
          go_roundw
          case rel => exact ⟨k + 1, by go_num, by omega, HT', below_drewN hbl 1⟩
          case measure => simp [intOf]; omega
        · have HD : Hid (decide (xs = ys) = false) := Lib.hid (by simp; rintro rfl; exact he (by have h1 := HX.out; rw [HY.out] at h1; exact (Option.some.inj h1).symm))
          have e2 : En.eq x y = false := by rw [En.eq_decide, decide_eq_false he]
          rw [e2] at hn
          clear he e2
          go_wp2_with fail
          go_region
          go_wp2_with fail
          go_ret
          exact ⟨ret_b HD.out.symm, below_drewN hbl 1⟩
      · have hlt' : ¬ (k : Int) < (xs.length : Int) := by omega
        have HD : Hid (decide (xs = ys) = true) := Lib.hid (by
          have h1 := HT.out
          rw [List.take_of_length_le (by omega), List.take_of_length_le (by have := HL.out; omega)] at h1
          simp [h1])
        go_wp2_with fail
        go_ret
        exact ⟨ret_b HD.out.symm, hbl⟩
  · have hne : ((xs.length : Int) == (ys.length : Int)) = false := by simp; omega
    have hne2 : ((xs.length : Int) != (ys.length : Int)) = true := by simp; omega
    have HD : Hid (decide (xs = ys) = false) := Lib.hid (by simp; rintro rfl; exact hl rfl)
    clear ha hb hl
    go_enter Try.func13, Try.ntmps13
    go_wp2_with fail
    go_ret
    exact ⟨ret_b HD.out.symm, Below.refl _ _⟩
end Go.Proofs.Ytnngkpggejmdkaa
