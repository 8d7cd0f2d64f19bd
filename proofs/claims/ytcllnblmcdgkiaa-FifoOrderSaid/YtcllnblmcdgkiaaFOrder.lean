/-
  The walk of the law FifoOrder.
-/
import Derived.Deep.CutRange
import Derived.Test.YtcllnblmcdgkiaaFOrderM
namespace Go.Proofs.Ytcllnblmcdgkiaa
open Go.RowKit

def StepAt (W : World) (b off j : Nat) (d : Int × Int) : Prop :=
  W.cell? ⟨b, off + j * 2, none⟩ = some (.int .i64 d.1) ∧ W.cell? ⟨b, off + j * 2 + 1, none⟩ = some (.int .i64 d.2) ∧ I64b d.1 ∧ I64b d.2
/-- The value v is a row of these steps. -/
def Steps (w : World) (v : Value) (ss : List (Int × Int)) : Prop :=
  (ss = [] ∧ ∃ a c, v = .slice a 0 c) ∨ ∃ b off c, v = .slice (some ⟨b, off, none⟩) ss.length c ∧ 0 < ss.length ∧ b < w.heap.size ∧ ∀ j, j < ss.length → StepAt w b off j (ss[j]?.getD (0, 0))
theorem Steps.slice {w : World} {v : Value} {ss : List (Int × Int)} (h : Steps w v ss) : ∃ a c, v = .slice a ss.length c := by
  rcases h with ⟨rfl, a, c, rfl⟩ | ⟨b, off, c, rfl, _⟩
  · exact ⟨a, c, rfl⟩
  · exact ⟨_, c, rfl⟩
theorem Steps.at {w W : World} {a : Option Addr} {n c : Nat} {ss : List (Int × Int)} (h : Steps w (.slice a n c) ss) (hb : Below w.heap.size w W) {k : Nat} (hk : k < ss.length) : ∃ b off d e, a = some ⟨b, off, none⟩ ∧ b < w.heap.size ∧ StepAt W b off k (d, e) := by
  rcases h with ⟨rfl, _⟩ | ⟨b, off, c', he, _, hlt, hc⟩
  · simp at hk
  · simp only [Value.slice.injEq] at he
    obtain ⟨rfl, -, -⟩ := he
    obtain ⟨h1, h2, h3, h4⟩ := hc k hk
    exact ⟨b, off, _, _, rfl, hlt, (hb.cell (p := ⟨b, off + k * 2, none⟩) hlt).trans h1, (hb.cell (p := ⟨b, off + k * 2 + 1, none⟩) hlt).trans h2, h3, h4⟩
theorem cell2' {W : World} {C : Nat} {a b : Value} {t : TypeId} (h : W.heap[C]? = some (Obj.cells #[a, b] t (0, 0))) : W.cell? ⟨C, 0, none⟩ = some a ∧ W.cell? ⟨C, 1, none⟩ = some b := by
  simp [World.cell?, h]
theorem But.keeps {S : List Nat} {w w' : World} (h : But S w w') {p : Addr} {v : Value} (hv : w.cell? p = some v) (hn : ∀ x ∈ S, x ≠ p.block) : w'.cell? p = some v := h.cell hv (fun hm => hn _ hm rfl)

/-- What lies in memory at the head of a round: the row, and what came in and did not go, the same. -/
structure Mem (w W : World) (B m : Nat) (v : Value) (xs : List Int) : Prop where
  mine : Mine w W B m xs
  own : Own W w.heap.size v xs
section
variable {w W W' : World} {B m : Nat} {v : Value} {xs ys : List Int}
theorem Mem.fresh (h : Mem w W B m v xs) (hb : But [] W W') : Mem w W' B m v xs := ⟨h.mine.fresh hb, h.own.fresh hb⟩
theorem Mem.later (h : Mem w W B m v xs) (hb : Below W.heap.size W W') : Mem w W' B m v xs := h.fresh (But.of_below hb [])
theorem Own.turned {base : Nat} (h : Own W base v xs) {B n : Nat} {zs : List Int} (hq : Fif W B n zs) (hb : But [B] W W') : Own W' base v xs := by
  obtain ⟨cs, hB⟩ := hq.head
  refine h.but hb ?_
  simp only [List.mem_singleton]
  rintro x rfl cs' z' e
  rw [hB] at e; simp at e
theorem Mem.turn (h : Mem w W B m v xs) (hM : Mine w W' B m ys) (hb : But [B] W W') : Mine w W' B m ys ∧ Own W' w.heap.size v xs := ⟨hM, h.own.turned h.mine.fif hb⟩
theorem Mine.onto (h : Mine w W B m xs) (hr : Grew w.heap.size W W') : Mine w W' B m xs := by
  rcases hr with hr | ⟨g, cs, z, h1, h2, h3⟩
  · exact h.fresh hr
  · obtain ⟨cs', hB⟩ := h.fif.head
    refine h.beside h3 ?_ (by simpa using h2)
    simp only [List.mem_singleton]
    rintro rfl
    rw [hB] at h1; simp at h1
end
theorem push_cases (m : Nat) (xs : List Int) (k : Int) : (pushE m xs k = 0 ∧ pushX m xs k = xs ++ [k]) ∨ ((pushE m xs k == 0) = false ∧ pushX m xs k = xs ∧ (pushE m xs k = 4 → xs.length = m)) := by
  unfold pushE pushX
  by_cases h1 : k < 0 ∨ 32 ≤ k
  · rw [if_pos h1, if_pos h1]; exact .inr ⟨rfl, rfl, fun h => by simp at h⟩
  · rw [if_neg h1, if_neg h1]
    by_cases h2 : k ∈ xs
    · rw [if_pos h2, if_pos h2]; exact .inr ⟨rfl, rfl, fun h => by simp at h⟩
    · rw [if_neg h2, if_neg h2]
      by_cases h3 : xs.length = m
      · rw [if_pos h3, if_pos h3]; exact .inr ⟨rfl, rfl, fun _ => h3⟩
      · rw [if_neg h3, if_neg h3]; exact .inl ⟨rfl, rfl⟩
/-- All but d. -/
def lessD (d : Int) (xs : List Int) : List Int := xs.filter (fun x => x != d)
theorem lessD_take (d : Int) (xs : List Int) {j : Nat} {x : Int} (hx : xs[j]? = some x) : lessD d (xs.take (j + 1)) = if x = d then lessD d (xs.take j) else lessD d (xs.take j) ++ [x] := by
  have hj := (List.getElem?_eq_some_iff.1 hx).1
  rw [lessD, take_snocI xs j hj, hx, List.filter_append]
  by_cases e : x = d
  · subst e; simp [lessD]
  · simp [lessD, e]
theorem lessD_len (d : Int) (xs : List Int) : (lessD d xs).length ≤ xs.length := List.length_filter_le _ _
theorem lessD_erase {d : Int} {xs : List Int} (h : xs.Nodup) : lessD d xs = xs.erase d := by
  rw [h.erase_eq_filter, lessD]
theorem erase_less {d : Int} {xs : List Int} : ((xs.erase d).length < xs.length) ↔ d ∈ xs := by
  by_cases h : d ∈ xs
  · have := List.length_erase_of_mem h
    have := List.length_pos_of_mem h
    simp only [h, iff_true]; omega
  · rw [List.erase_of_not_mem h]; simp [h]

set_option maxRecDepth 100000 in
set_option maxHeartbeats 400000 in
theorem order_big (q : Int) (a : Option Addr) (n cap : Nat) (w : World) (hn : 300 < n) :
    Calls Try.prog 4 #[.int .u8 q, .slice a n cap] w fun e w' => e = .returned (.bool true) ∧ Below w.heap.size w w' := by
  have hl2 : (300 : Int) < (n : Int) := by omega
  go_enter Try.func4, Try.ntmps4
  go_wp2_with fail
  refine (alive_any _).mono ?_
  rintro e w1 ⟨rfl, hb⟩
  go_wp2_with fail
  go_ret
  exact ⟨rfl, hb⟩

set_option maxRecDepth 100000 in
set_option maxHeartbeats 3200000 in
theorem order_loop (q : Int) (hq0 : 0 ≤ q) (hq1 : q < 256) (a : Option Addr) (cap : Nat) (ss : List (Int × Int)) (w : World) (hl : ss.length ≤ 300) (hs : Steps w (.slice a ss.length cap) ss) :
    Calls Try.prog 4 #[.int .u8 q, .slice a ss.length cap] w fun e w' => e = .returned (.bool true) ∧ Below w.heap.size w w' := by
  have hl2 : ¬ (300 : Int) < (ss.length : Int) := by omega
  obtain ⟨m, hm⟩ : ∃ m : Nat, 1 + q % 32 = (m : Int) := ⟨(1 + q % 32).toNat, by omega⟩
  have hm0 : 1 ≤ m := by omega
  have hm1 : m ≤ 32 := by omega
  have hwq : IntKind.i64.wrap q = q := by rw [IntKind.wrap_i64]; omega
  have hwm : IntKind.i64.wrap (1 + q % 32) = (m : Int) := by rw [IntKind.wrap_i64]; omega
  have hnew := m_new (w0 := w) w m hm0 hm1 (But.refl [] w)
  go_enter Try.func4, Try.ntmps4
  go_wp2_with fail
  refine hnew.mono ?_
  rintro e w1 ⟨B, rfl, hQ, -, -⟩
  clear hnew hl2 hwq hwm hm
  have hF : Mem w w1 B m (.slice none ([] : List Int).length 0) [] := ⟨hQ, Own.nil _ _⟩
  clear hQ
  go_wp2_with fail
  go_loopw [8, 9] (fun pv iv wr => ∃ (k : Nat) (xs : List Int) (p : Option Addr) (pc : Nat), k ≤ ss.length ∧ pv = .slice p xs.length pc ∧ iv = .int .i64 (k : Int) ∧ Mem w wr B m (.slice p xs.length pc) xs) (fun _ iv _ => ss.length - (intOf iv).toNat)
  case atStart => exact ⟨0, [], none, 0, Nat.zero_le _, rfl, rfl, hF⟩
  case round =>
    clear hF
    obtain ⟨k, xs, p, pc, hk, rfl, rfl, hF⟩ := hrel
    by_cases hlt : k < ss.length
    · have hlt' : (k : Int) < (ss.length : Int) := by omega
      have k0 : (0 : Int) ≤ (k : Int) := by omega
      obtain ⟨b, off, d, v, rfl, hb, hd, hv, hdb, hvb⟩ := hs.at hF.mine.below hlt
      clear hs
      have hlist := fun W (h : Mem w W B m (.slice p xs.length pc) xs) => list_any W h.mine.fif
      go_wp2_with fail
      have hF1 : Mem w (wr.alloc (.cells #[.int .i64 d, .int .i64 v] 33)) B m (.slice p xs.length pc) xs := hF.fresh ((But.refl [] wr).alloc _)
      obtain ⟨x0, x1⟩ := cell2' (World.alloc_heap_new wr (.cells #[.int .i64 d, .int .i64 v] 33))
      have hDl : wr.heap.size < (wr.alloc (.cells #[.int .i64 d, .int .i64 v] 33)).heap.size := by simp
      have hDB : B ≠ wr.heap.size := by have := hF.mine.fif.lt; omega
      clear hF hd hv
      generalize wr.alloc (.cells #[.int .i64 d, .int .i64 v] 33) = wy at *
      generalize wr.heap.size = D at *
      refine (hlist _ hF1).mono ?_
      rintro e w3 ⟨wv, rfl, hown, hb3⟩
      have hF3 := hF1.later hb3
      have y0 := (hb3.cell (p := ⟨D, 0, none⟩) hDl).trans x0
      have y1 := (hb3.cell (p := ⟨D, 1, none⟩) hDl).trans x1
      have hBy := hF1.mine.fif.lt
      clear hF1 x0 x1 hb3 hlist hDl
      generalize wy.heap.size = n0 at hown hBy
      go_upto_region 13 with fail
      iterate 10 go_step
      clear y0
      obtain ⟨wp, wc, rfl⟩ := (RowI.of_owns hown).slice
      go_cut [8] from 37 to 152 (fun pv wx => ∃ (xs : List Int) (p : Option Addr) (pc : Nat), pv = .slice p xs.length pc ∧ Mem w wx B m (.slice p xs.length pc) xs)
      case first =>
        have hle := hF3.mine.fif.le
        have hsz := hF3.mine.below.size
        by_cases e0 : d = 0
        · subst e0
          rcases push_cases m xs v with ⟨hE, hX⟩ | ⟨hE, hX, h4⟩
          · have hpush := m_push v w3 hF3.mine hE.symm hX.symm
            go_wp2_with fail
            refine hpush.mono ?_
            rintro e w4 ⟨rfl, hM, hb4⟩
            clear hpush
            obtain ⟨hM, hO⟩ := hF3.turn hM hb4
            have y4 := hb4.keeps y1 (by simpa using hDB)
            have hsz4 := hM.below.size
            clear hF3 hb4 y1 hown
            go_wp2_with (at_builtin; refine wpList_onto rfl _ _ rfl w.heap.size _ xs v rfl (hO.fresh ((But.refl [] w4).alloc _)) ⟨w4.heap.size, 0, none⟩ 1 rfl (cell_one_new _ _ _) ?c1 ?c2 ?_)
            case c1 => omega
            case c2 => first | omega | (simp; omega)
            intro v' w5 hO5 hr
            have hM5 := (hM.fresh ((But.refl [] w4).alloc (.cells #[.int .i64 v] 3))).onto hr
            obtain ⟨p', c', rfl⟩ := hO5.slice
            clear hM hO hr y4
            go_wp2_with fail
            go_meet
            case rel => exact ⟨xs ++ [v], p', c', rfl, hM5, hO5⟩
          · have hpush := m_push v w3 hF3.mine rfl hX.symm
            generalize pushE m xs v = e at hpush hE h4
            go_wp2_with fail
            refine hpush.mono ?_
            rintro e9 w4 ⟨rfl, hM, hb4⟩
            clear hpush
            obtain ⟨hM, hO⟩ := hF3.turn hM hb4
            have hw4 := RowI.of_owns (own_keep hown hb4 (by simpa using hBy))
            clear hF3 hb4 y1 hown
            have hMF : Mem w w4 B m (.slice p xs.length pc) xs := ⟨hM, hO⟩
            clear hM hO
            go_wp2_with fail
            refine (list_any _ hMF.mine.fif).mono ?_
            rintro e9 w5 ⟨lv, rfl, hown5, hb5⟩
            have hMF5 := hMF.later hb5
            have hrow := RowI.of_owns hown5
            have hw5 := hw4.below hb5
            have hsame := same_any _ _ _ _ _ hrow hw5 (by omega) (by omega)
            simp only [decide_true] at hsame
            clear hMF hown5 hb5 hw4
            go_wp2_with fail
            refine hsame.mono ?_
            rintro e9 w6 ⟨rfl, hb6⟩
            have hMF6 := hMF5.later hb6
            clear hMF5 hsame hrow hw5 hb6
            by_cases he4 : e = 4
            · subst he4
              have hll : ((xs.length : Int) != (m : Int)) = false := by rw [h4 rfl]; simp
              clear hE h4
              go_wp2_with fail
              go_meet
              case rel => exact ⟨xs, p, pc, rfl, hMF6⟩
            · have he4' : (e == 4) = false := by simpa using he4
              go_wp2_with fail
              go_meet
              case rel => exact ⟨xs, p, pc, rfl, hMF6⟩
        by_cases e1 : d = 1
        · subst e1
          cases xs with
          | nil =>
            go_wp2_with fail
            refine (m_pop (x := 0) (e := 3) (ys := []) _ hF3.mine rfl rfl rfl).mono ?_
            rintro e9 w4 ⟨rfl, hM, hb4⟩
            have hMF : Mem w w4 B m (.slice p ([] : List Int).length pc) [] := ⟨(hF3.turn hM hb4).1, (hF3.turn hM hb4).2⟩
            clear hF3 hM hb4
            go_wp2_with fail
            go_meet
            case rel => exact ⟨[], p, pc, rfl, hMF⟩
          | cons y t =>
            have hpop := m_pop (x := y) (e := 0) (ys := t) w3 hF3.mine rfl (by simp [popE]) rfl
            go_wp2_with fail
            refine hpop.mono ?_
            rintro e9 w4 ⟨rfl, hM, hb4⟩
            obtain ⟨hM, hO⟩ := hF3.turn hM hb4
            obtain ⟨g, o, c, h1, h2, h3⟩ := hO.tail
            have hh := hO.at (k := 0) (by simp)
            obtain ⟨g', o', c', h1', hcell⟩ := hh
            rw [List.length_cons] at h1 h1'
            simp only [Value.slice.injEq] at h1 h1'
            obtain ⟨rfl, -, rfl⟩ := h1
            obtain ⟨he, -, -⟩ := h1'
            simp only [Option.some.injEq, Addr.mk.injEq] at he
            obtain ⟨rfl, rfl, -⟩ := he
            simp only [Nat.add_zero, List.getElem?_cons_zero, Option.getD_some] at hcell
            have hyy : (y != y) = false := by simp
            have q1 : decide ((0 : Int) < (t.length : Int) + 1) = true := decide_eq_true (by omega)
            have q2 : (0 : Int) < (t.length : Int) + 1 := by omega
            have q3 : (1 : Int) ≤ (t.length : Int) + 1 := by omega
            have q4 : (t.length : Int) + 1 ≤ (pc : Int) := by omega
            clear hF3 hb4 hO hpop hown
            rcases h3 with ⟨h4, rfl, h5⟩ | ⟨h4, h5⟩
            · subst h4
              have hMF : Mem w w4 B m (.slice (some ⟨g, o, none⟩) 0 0) [] := ⟨hM, h5⟩
              clear hM h5
              go_wp2_with fail
              go_meet
              case rel => exact ⟨[], _, 0, rfl, hMF⟩
            · have h6 : ¬ pc = 1 := h4
              have h7 : ¬ (pc : Int) = 1 := by omega
              have hMF : Mem w w4 B m (.slice (some ⟨g, o + 1, none⟩) t.length (pc - 1)) t := ⟨hM, h5⟩
              clear hM h5
              go_wp2_with fail
              go_meet
              case rel => exact ⟨t, _, _, by first | rfl | simp, hMF⟩
        by_cases e2 : d = 2
        · subst e2
          obtain ⟨e, he⟩ : ∃ e, e = dropE xs v := ⟨_, rfl⟩
          have hdrop := m_drop v w3 hF3.mine he rfl
          have HN := Lib.hid hF3.mine.fif.nd
          have HLT : Hid (decide (((lessD v xs).length : Int) < (xs.length : Int)) = decide (v ∈ xs)) := Lib.hid (by
            have := erase_less (d := v) (xs := xs)
            rw [← lessD_erase HN.out] at this
            by_cases hm : v ∈ xs
            · have := this.2 hm; simp only [hm, decide_true, decide_eq_true_eq]; omega
            · have h9 : ¬ (lessD v xs).length < xs.length := fun h => hm (this.1 h)
              simp only [hm, decide_false, decide_eq_false_iff_not]; omega)
          have HE := Lib.hid he
          clear he
          go_wp2_with fail
          refine hdrop.mono ?_
          rintro e9 w4 ⟨rfl, hM, hb4⟩
          clear hdrop
          have hP := hF3.turn hM hb4
          have y4 := hb4.keeps y1 (by simpa using hDB)
          have hDl : D < w4.heap.size := World.block_lt_of_cell? w4 _ y4
          have hsz4 := hM.below.size
          clear hF3 hb4 y1 hown hM
          go_wp2_with fail
          go_loopw [16, 17] (fun lv jv wi => ∃ (j : Nat) (lp : Option Addr) (lc : Nat), j ≤ xs.length ∧ lv = .slice lp (lessD v (xs.take j)).length lc ∧ jv = .int .i64 (j : Int) ∧ Below w4.heap.size w4 wi ∧ wi.ownsRow w4.heap.size 3 1 (.slice lp (lessD v (xs.take j)).length lc) (lessD v (xs.take j)).length (I64 (lessD v (xs.take j)))) (fun _ jv _ => xs.length - (intOf jv).toNat)
          case atStart => exact ⟨0, none, 0, Nat.zero_le _, rfl, rfl, Below.refl _ _, World.ownsRow_nil _ _ _ _⟩
          case round =>
            obtain ⟨j, lp, lc, hj, rfl, rfl, hbl, hl⟩ := hrel
            obtain ⟨hM, hO⟩ := hP
            have hO1 := hO.fresh (But.of_below hbl [])
            have z1 := (hbl.cell (p := ⟨D, 1, none⟩) hDl).trans y4
            have hsz5 := hbl.size
            clear hO y4
            by_cases hlj : j < xs.length
            · have hlj' : (j : Int) < (xs.length : Int) := by omega
              have j0 : (0 : Int) ≤ (j : Int) := by omega
              obtain ⟨y, hy⟩ : ∃ y, xs[j]? = some y := ⟨_, List.getElem?_eq_getElem hlj⟩
              obtain ⟨g, o, c', he, hcell⟩ := hO1.at hlj
              simp only [Value.slice.injEq] at he
              obtain ⟨rfl, -, -⟩ := he
              rw [hy] at hcell
              simp only [Option.getD_some] at hcell
              have ht := lessD_take v xs hy
              have hll : (lessD v (xs.take j)).length ≤ 32 := by have := lessD_len v (xs.take j); simp at this; omega
              clear hy hO1 hM
              by_cases e : y = v
              · have HT : Hid (lessD v (xs.take (j + 1)) = lessD v (xs.take j)) := Lib.hid (by rw [ht, if_pos e])
                clear ht
                subst e
                have e1 : (y != y) = false := by simp
                go_wp2_with fail
                go_quiet (fail)
                go_wp2_with fail
                go_roundw
                case rel => exact ⟨j + 1, lp, lc, by omega, by rw [HT.out], by go_num, below_drewN hbl _, by rw [HT.out]; exact hl⟩
                case measure => simp [intOf]; omega
              · have e1 : (y != v) = true := by simpa using e
                have HT : Hid (lessD v (xs.take (j + 1)) = lessD v (xs.take j) ++ [y]) := Lib.hid (by rw [ht, if_neg e])
                clear ht
                obtain ⟨i0, hi, hz0, hz1, hz2⟩ := info_parts infoInt
                go_wp2_with fail
                go_quiet (fail)
                have hld : (wr.drewN nq).ownsRow w4.heap.size 3 1 (.slice lp (lessD v (xs.take j)).length lc) (lessD v (xs.take j)).length (I64 (lessD v (xs.take j))) := hl
                have hbd : Below w4.heap.size w4 (wr.drewN nq) := below_drewN hbl _
                have hcd : (wr.drewN nq).cell? ⟨g, o + j, none⟩ = some (.int .i64 y) := hcell
                clear hcell hl z1 hbl
                generalize wr.drewN nq = wd at hld hbd hcd ⊢
                have hsd := Lib.hid hbd.size
                go_wp2_with (at_builtin; refine wpList_append_own _ rfl _ _ 29 rfl w4.heap.size 3 i0 (.int .i64 0) 1 8 Try.underlying29 hi hz0 hz1 hz2 rfl (by decide) _ _ _ rfl (hld.alloc _) ⟨wd.heap.size, 0, none⟩ 1 1 [.int .i64 y] rfl rfl ?c1 ?c2 ?c3 ?c4 ?c5 ?_)
                case c1 => exact cell_one_new _ _ _
                case c2 => first | rfl | (intro x hx; simp at hx; subst hx; rfl)
                case c3 => unfold maxLen; omega
                case c4 => omega
                case c5 => have := hsd.out; first | omega | (simp; omega)
                intro v' w5 hown5 hgrow _
                have hb5 : Below w4.heap.size w4 w5 := (hbd.alloc (by have := hsd.out; omega) _).grown hgrow (by have := hsd.out; simp; omega) (fun k hk => by have := (hld.lt k hk).1; omega)
                obtain ⟨g', cap', rfl⟩ := ownsRow_succ hown5
                clear hld hgrow hbd
                go_wp2_with fail
                go_roundw
                case rel => exact ⟨j + 1, some ⟨g', 0, none⟩, cap', by omega, by rw [HT.out]; simp, by go_num, hb5, by rw [HT.out, I64_snoc]; simpa using hown5⟩
                case measure => simp [intOf]; omega
            · obtain rfl : j = xs.length := by omega
              have hlj' : ¬ ((xs.length : Int) < (xs.length : Int)) := by omega
              rw [List.take_length] at hl ⊢
              have hM5 := hM.later hbl
              rw [← lessD_erase HN.out] at hM5
              have hll : (lessD v xs).length ≤ 32 := by have := lessD_len v xs; omega
              have hO5 : Own wr w.heap.size (.slice lp (lessD v xs).length lc) (lessD v xs) := (Own.of_owns hl).low hsz4
              have hMF : Mem w wr B m (.slice lp (lessD v xs).length lc) (lessD v xs) := ⟨hM5, hO5⟩
              have HE2 := HE.out
              have HL2 := HLT.out
              clear hl hO1 hM hM5 hO5 z1 hbl HE HLT
              by_cases hm : v ∈ xs
              · obtain rfl : e = 0 := by rw [HE2, dropE, if_pos hm]
                simp only [hm, decide_true] at HL2
                have hl9 : ((lessD v xs).length : Int) < (xs.length : Int) := of_decide_eq_true HL2
                clear HE2
                go_wp2_with fail
                go_meet
                case rel => exact ⟨lessD v xs, lp, lc, rfl, hMF⟩
              · obtain rfl : e = 3 := by rw [HE2, dropE, if_neg hm]
                simp only [hm, decide_false] at HL2
                have hl9 : ¬ ((lessD v xs).length : Int) < (xs.length : Int) := of_decide_eq_false HL2
                clear HE2
                go_wp2_with fail
                go_meet
                case rel => exact ⟨lessD v xs, lp, lc, rfl, hMF⟩
        · have e0' : (d == 0) = false := by simpa using e0
          have e1' : (d == 1) = false := by simpa using e1
          have e2' : (d == 2) = false := by simpa using e2
          go_wp2_with fail
          go_meet
          case rel => exact ⟨xs, p, pc, rfl, hF3⟩
      case rest =>
        obtain ⟨xs', p', pc', rfl, hMF⟩ := hcut
        clear hF3 hown y1
        have hle := hMF.mine.fif.le
        have hxx : ((xs'.length : Int) != (xs'.length : Int)) = false := by simp
        have hlx : ¬ (m : Int) < (xs'.length : Int) := by omega
        have hlx2 : decide ((m : Int) < (xs'.length : Int)) = false := by simp; omega
        have hlen := len_any _ hMF.mine.fif
        go_wp2_with fail
        refine hlen.mono ?_
        rintro e w6 ⟨rfl, rfl⟩
        clear hlen
        go_wp2_with fail
        go_roundw
        case rel => exact ⟨k + 1, xs', p', pc', by omega, rfl, by go_num, hMF⟩
        case measure => simp [intOf]; omega
    · obtain rfl : k = ss.length := by omega
      have hlt' : ¬ ((ss.length : Int) < (ss.length : Int)) := by omega
      have hle := hF.mine.fif.le
      clear hs hk hl
      go_wp2_with fail
      refine (list_any _ hF.mine.fif).mono ?_
      rintro e w5 ⟨lv, rfl, hown5, hb5⟩
      have hF5 := hF.later hb5
      have hrow := RowI.of_owns hown5
      have hsame := same_any _ _ _ _ _ hrow hF5.own.row (by omega) (by omega)
      simp only [decide_true] at hsame
      clear hF hown5 hb5
      go_wp2_with fail
      refine hsame.mono ?_
      rintro e w6 ⟨rfl, hb6⟩
      have hbe6 := (hF5.later hb6).mine.below
      clear hF5 hsame hrow hb6
      go_wp2_with fail
      refine (alive_any _).mono ?_
      rintro e w7 ⟨rfl, hb7⟩
      have hbe := hbe6.trans (hb7.mono hbe6.size)
      clear hbe6 hb7
      go_wp2_with fail
      go_ret
      exact ⟨rfl, hbe⟩

theorem order_any (q : Int) (hq0 : 0 ≤ q) (hq1 : q < 256) (v : Value) (ss : List (Int × Int)) (w : World) (hs : Steps w v ss) :
    Calls Try.prog 4 #[.int .u8 q, v] w fun e w' => e = .returned (.bool true) ∧ Below w.heap.size w w' := by
  obtain ⟨a, c, rfl⟩ := hs.slice
  by_cases hn : 300 < ss.length
  · exact order_big q a _ c w hn
  · exact order_loop q hq0 hq1 a c ss w (by omega) hs
end Go.Proofs.Ytcllnblmcdgkiaa
