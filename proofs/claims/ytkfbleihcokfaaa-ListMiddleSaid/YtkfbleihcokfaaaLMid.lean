/-
  The walk of the law ListMiddle.
-/
import Derived.Maps.AppendAt
import Derived.Test.YtkfbleihcokfaaaLSteps
namespace Go.Proofs.Ytkfbleihcokfaaa
open Go.RowKit

section
variable {w W W' : World} {B M base n : Nat} {q : List Int} {v : Value} {xs : List Value}
/-- A row of the call's own has grown: the queue is as it was. -/
theorem mine_app (h : Mine w W B M q) (hrow : W.ownsRow base 3 1 v n xs) (hB : B < base) (hM : M < base) {tmp : Obj} (hg : (W.alloc tmp).grownBy W' v.ownBlock) : Mine w W' B M q := by
  have h1 := h.fresh ((But.refl [] W).alloc tmp)
  cases hv : v.ownBlock with
  | none => rw [hv] at hg; exact h1.fresh (But.of_none hg [])
  | some g =>
    rw [hv] at hg
    have hge := (hrow.lt g hv).1
    have hw := h.ownB
    exact h1.beside (But.of_some (S := [g]) hg (by simp)) (by simp; omega) (by simp; omega) (by simp; omega)
end
theorem put_cases (xs : List Int) (x : Int) : (putE xs x = 0 ∧ putX xs x = xs ++ [x]) ∨ ((putE xs x == 0) = false ∧ putX xs x = xs) := by
  unfold putE putX
  by_cases h1 : x < 0 ∨ 1024 ≤ x
  · rw [if_pos h1, if_pos h1]; exact .inr ⟨rfl, rfl⟩
  · rw [if_neg h1, if_neg h1]
    by_cases h2 : x ∈ xs
    · rw [if_pos h2, if_pos h2]; exact .inr ⟨rfl, rfl⟩
    · rw [if_neg h2, if_neg h2]; exact .inl ⟨rfl, rfl⟩
theorem owns_low {W : World} {a b : Nat} (hab : b ≤ a) {e : TypeId} {size : Nat} {v : Value} {k : Nat} {xs : List Value} (h : W.ownsRow a e size v k xs) : W.ownsRow b e size v k xs :=
  ⟨h.1, h.2.imp id fun ⟨g, c, d, e1, e2, r⟩ => ⟨g, c, d, e1, Nat.le_trans hab e2, r⟩⟩
/-- All but d. -/
def lessD (d : Int) (xs : List Int) : List Int := xs.filter (fun x => x != d)
theorem lessD_take (d : Int) (xs : List Int) {j : Nat} {x : Int} (hx : xs[j]? = some x) : lessD d (xs.take (j + 1)) = if x = d then lessD d (xs.take j) else lessD d (xs.take j) ++ [x] := by
  have hj := (List.getElem?_eq_some_iff.1 hx).1
  rw [lessD, take_snocI xs j hj, hx, List.filter_append]
  by_cases e : x = d
  · subst e; simp [lessD]
  · simp [lessD, e]
theorem lessD_len (d : Int) (xs : List Int) : (lessD d xs).length ≤ xs.length := List.length_filter_le _ _
theorem lessD_erase {d : Int} {xs : List Int} (h : xs.Nodup) : lessD d xs = xs.erase d := by
  rw [h.erase_eq_filter, lessD]
theorem erase_less {d : Int} {xs : List Int} : ((xs.erase d).length < xs.length) ↔ d ∈ xs := by
  by_cases h : d ∈ xs
  · have := List.length_erase_of_mem h
    have := List.length_pos_of_mem h
    simp only [h, iff_true]; omega
  · rw [List.erase_of_not_mem h]; simp [h]

set_option maxRecDepth 100000 in
set_option maxHeartbeats 400000 in
theorem mid_big (a b : Option Addr) (n m c d : Nat) (w : World) (hn : 200 < n ∨ 200 < m) :
    Calls Try.prog 4 #[.slice a n c, .slice b m d] w fun e w' => e = .returned (.bool true) ∧ Below w.heap.size w w' := by
  by_cases h : 200 < n
  · have hl2 : (200 : Int) < (n : Int) := by omega
    go_enter Try.func4, Try.ntmps4
    go_wp2_with fail
    refine (alive_any _).mono ?_
    rintro e w1 ⟨rfl, hb⟩
    go_wp2_with fail
    go_ret
    exact ⟨rfl, hb⟩
  · have hl2 : ¬ (200 : Int) < (n : Int) := by omega
    have hl3 : decide ((200 : Int) < (n : Int)) = false := by simpa using hl2
    have hm2 : (200 : Int) < (m : Int) := by omega
    have hm3 : decide ((200 : Int) < (m : Int)) = true := by simpa using hm2
    go_enter Try.func4, Try.ntmps4
    go_wp2_with fail
    refine (alive_any _).mono ?_
    rintro e w1 ⟨rfl, hb⟩
    go_wp2_with fail
    go_ret
    exact ⟨rfl, hb⟩

set_option maxRecDepth 100000 in
set_option maxHeartbeats 3200000 in
theorem mid_loop (a b : Option Addr) (c d : Nat) (ps ds : List Int) (w : World) (hp : ps.length ≤ 200) (hd : ds.length ≤ 200) (hps : RowI w (.slice a ps.length c) ps) (hds : RowI w (.slice b ds.length d) ds) (hib : ∀ x ∈ ds, I64b x) :
    Calls Try.prog 4 #[.slice a ps.length c, .slice b ds.length d] w fun e w' => e = .returned (.bool true) ∧ Below w.heap.size w w' := by
  obtain ⟨i0, hi, hz0, hz1, hz2⟩ := info_parts infoInt
  have hl2 : ¬ (200 : Int) < (ps.length : Int) := by omega
  have hl3 : decide ((200 : Int) < (ps.length : Int)) = false := by simpa using hl2
  have hm2 : ¬ (200 : Int) < (ds.length : Int) := by omega
  have hm3 : decide ((200 : Int) < (ds.length : Int)) = false := by simpa using hm2
  go_enter Try.func4, Try.ntmps4
  go_wp2_with fail
  refine (m_new _ (But.refl [] w)).mono ?_
  rintro e w2 ⟨B, M, rfl, hQ, -, -, -⟩
  obtain ⟨base, hbase⟩ : ∃ base, base = w2.heap.size := ⟨_, rfl⟩
  have hB : B < base := by have := hQ.que.ltB; omega
  have hM : M < base := by have := hQ.que.ltM; omega
  have hsz : base ≤ w2.heap.size := by omega
  clear hl2 hl3 hm2 hm3 hbase
  go_wp2_with fail
  go_loopw [6, 7] (fun pv iv wr => ∃ (k : Nat) (xs : List Int) (p : Option Addr) (pc : Nat), k ≤ ps.length ∧ xs.length ≤ k ∧ pv = .slice p xs.length pc ∧ iv = .int .i64 (k : Int) ∧ Mine w wr B M xs ∧ base ≤ wr.heap.size ∧ wr.ownsRow base 3 1 (.slice p xs.length pc) xs.length (I64 xs)) (fun _ iv _ => ps.length - (intOf iv).toNat)
  case atStart => exact ⟨0, [], none, 0, Nat.zero_le _, Nat.le_refl _, rfl, rfl, hQ, hsz, World.ownsRow_nil _ _ _ _⟩
  case round =>
    clear hQ hsz
    obtain ⟨k, xs, p, pc, hk, hxk, rfl, rfl, hQ, hsz, hown⟩ := hrel
    by_cases hlt : k < ps.length
    · have hlt' : (k : Int) < (ps.length : Int) := by omega
      obtain ⟨ab, ao, rfl, hab, hcell⟩ := (hps.below hQ.below).at hlt
      have habw : ab < w.heap.size := by
        rcases hps with ⟨h0, _⟩ | ⟨_, _, _, he, _, h2, _⟩
        · rw [h0] at hlt; simp at hlt
        · simp only [Value.slice.injEq, Option.some.injEq, Addr.mk.injEq] at he; omega
      have k0 : (0 : Int) ≤ (k : Int) := by omega
      generalize ps[k]?.getD 0 = x at hcell
      rcases put_cases xs x with ⟨hE, hX⟩ | ⟨hE, hX⟩
      · go_wp2_with fail
        refine (m_put x _ hQ rfl rfl).mono ?_
        rintro e w3 ⟨rfl, hQ3, hb3⟩
        rw [hX] at hQ3
        rw [hE]
        have hown3 := own_keep hown hb3 (by simp; omega)
        have hsz3 : base ≤ w3.heap.size := Nat.le_trans hsz hb3.size
        have hcell3 := hb3.cell hcell (by have := hQ.ownB; have := hQ.ownM; simp; omega)
        clear hQ hown hb3 hcell hsz
        go_wp2_with (at_builtin; refine wpList_append_own _ rfl _ _ 27 rfl base 3 i0 (.int .i64 0) 1 8 Try.underlying27 hi hz0 hz1 hz2 rfl (by decide) _ _ _ rfl (hown3.alloc _) ⟨w3.heap.size, 0, none⟩ 1 1 [.int .i64 x] rfl rfl ?c1 ?c2 ?c3 ?c4 ?c5 ?_)
        case c1 => exact cell_one_new _ _ _
        case c2 => first | rfl | (intro x hx; simp at hx; subst hx; rfl)
        case c3 => unfold maxLen; omega
        case c4 => omega
        case c5 => first | omega | (simp; omega)
        intro v' w4 hown4 hgrow _
        have hQ4 := mine_app hQ3 hown3 hB hM hgrow
        have hsz4 : base ≤ w4.heap.size := by have := hgrow.size; simp at this; omega
        obtain ⟨g', cap', rfl⟩ := ownsRow_succ hown4
        clear hQ3 hown3 hgrow hcell3
        go_wp2_with fail
        go_roundw
        case rel => exact ⟨k + 1, xs ++ [x], some ⟨g', 0, none⟩, cap', by omega, by simp; omega, by simp, by go_num, hQ4, hsz4, by rw [I64_snoc]; simpa using hown4⟩
        case measure => simp [intOf]; omega
      · go_wp2_with fail
        refine (m_put x _ hQ rfl rfl).mono ?_
        rintro e w3 ⟨rfl, hQ3, hb3⟩
        rw [hX] at hQ3
        have hown3 := own_keep hown hb3 (by simp; omega)
        have hsz3 : base ≤ w3.heap.size := Nat.le_trans hsz hb3.size
        clear hQ hown hb3 hcell hsz
        go_wp2_with fail
        go_roundw
        case rel => exact ⟨k + 1, xs, p, pc, by omega, by omega, rfl, by go_num, hQ3, hsz3, hown3⟩
        case measure => simp [intOf]; omega
    · obtain rfl : k = ps.length := by omega
      have hlt' : ¬ ((ps.length : Int) < (ps.length : Int)) := by omega
      have hxl : xs.length ≤ 200 := by omega
      clear hps hk hxk
      go_wp2_with fail
      clear hp
      go_loopw [6, 8] (fun pv iv wr => ∃ (k : Nat) (xs : List Int) (p : Option Addr) (pc : Nat), k ≤ ds.length ∧ xs.length ≤ 200 ∧ pv = .slice p xs.length pc ∧ iv = .int .i64 (k : Int) ∧ Mine w wr B M xs ∧ base ≤ wr.heap.size ∧ wr.ownsRow base 3 1 (.slice p xs.length pc) xs.length (I64 xs)) (fun _ iv _ => ds.length - (intOf iv).toNat)
      case atStart => exact ⟨0, xs, p, pc, Nat.zero_le _, hxl, rfl, rfl, hQ, hsz, hown⟩
      case round =>
        clear hQ hsz hown hxl
        obtain ⟨k, xs, p, pc, hk, hxl, rfl, rfl, hQ, hsz, hown⟩ := hrel
        by_cases hlt : k < ds.length
        · have hlt' : (k : Int) < (ds.length : Int) := by omega
          obtain ⟨x, hx⟩ : ∃ x, x = ds[k]?.getD 0 := ⟨_, rfl⟩
          have hxb : I64b x := hib x (by rw [hx, List.getElem?_eq_getElem hlt]; simp)
          obtain ⟨ab, ao, rfl, habw, hcell0⟩ := hds.at hlt
          rw [← hx] at hcell0
          have k0 : (0 : Int) ≤ (k : Int) := by omega
          have hrow := RowI.of_owns hown
          obtain ⟨n1, hn1⟩ : ∃ n1, n1 = wr.heap.size := ⟨_, rfl⟩
          have hbn : base ≤ n1 := by omega
          have hn1' : n1 ≤ wr.heap.size := by omega
          have HN1 := Lib.hid hn1
          clear hx hn1
          go_wp2_with fail
          go_loopw [9, 10] (fun lv jv wi => ∃ (j : Nat) (lp : Option Addr) (lc : Nat), j ≤ xs.length ∧ lv = .slice lp (lessD x (xs.take j)).length lc ∧ jv = .int .i64 (j : Int) ∧ Below n1 wr wi ∧ wi.ownsRow n1 3 1 (.slice lp (lessD x (xs.take j)).length lc) (lessD x (xs.take j)).length (I64 (lessD x (xs.take j)))) (fun _ jv _ => xs.length - (intOf jv).toNat)
          case atStart => exact ⟨0, none, 0, Nat.zero_le _, rfl, rfl, Below.refl _ _, World.ownsRow_nil _ _ _ _⟩
          case round =>
            obtain ⟨j, lp, lc, hj, rfl, rfl, hbl, hl⟩ := hrel
            have hQi := hQ.later (by rw [← HN1.out]; exact hbl)
            by_cases hlj : j < xs.length
            · have hlj' : (j : Int) < (xs.length : Int) := by omega
              have j0 : (0 : Int) ≤ (j : Int) := by omega
              obtain ⟨y, hy⟩ : ∃ y, xs[j]? = some y := ⟨_, List.getElem?_eq_getElem hlj⟩
              obtain ⟨pb, po, rfl, hpb, hpc⟩ := hrow.at hlj
              rw [hy] at hpc
              simp only [Option.getD_some] at hpc
              have hpc1 := hbl.cell (p := ⟨pb, po + j, none⟩) (by have := HN1.out; simp; omega) |>.trans hpc
              have hcell := hQi.below.cell (p := ⟨ab, ao + k, none⟩) habw |>.trans hcell0
              have ht := lessD_take x xs hy
              have hll : (lessD x (xs.take j)).length ≤ 200 := by have := lessD_len x (xs.take j); simp at this; omega
              have hbs := hbl.size
              clear hy hpc
              by_cases e : y = x
              · have HT : Hid (lessD x (xs.take (j + 1)) = lessD x (xs.take j)) := Lib.hid (by rw [ht, if_pos e])
                clear ht
                subst e
                have e1 : (y != y) = false := by simp
                go_wp2_with fail
                go_quiet (fail)
                go_wp2_with fail
                go_roundw
                case rel => exact ⟨j + 1, lp, lc, by omega, by rw [HT.out], by go_num, hbl.trans ⟨rfl, rfl, rfl, Nat.le_refl _, fun _ _ => rfl⟩, by rw [HT.out]; exact hl⟩
                case measure => simp [intOf]; omega
              · have e1 : (y != x) = true := by simpa using e
                have HT : Hid (lessD x (xs.take (j + 1)) = lessD x (xs.take j) ++ [y]) := Lib.hid (by rw [ht, if_neg e])
                clear ht
                go_wp2_with fail
                go_quiet (fail)
                have hld : (wr.drewN nq).ownsRow n1 3 1 (.slice lp (lessD x (xs.take j)).length lc) (lessD x (xs.take j)).length (I64 (lessD x (xs.take j))) := hl
                have hbd : Below n1 wr (wr.drewN nq) := ⟨rfl, rfl, rfl, Nat.le_refl _, fun _ _ => rfl⟩
                have hcd : (wr.drewN nq).cell? ⟨pb, po + j, none⟩ = some (.int .i64 y) := hpc1
                have hsd : Hid ((wr.drewN nq).heap.size = wr.heap.size) := Lib.hid rfl
                clear hcell hpc1 hl hQi
                generalize wr.drewN nq = wd at hld hbd hcd hsd ⊢
                have hbl2 := hbl.trans hbd
                go_wp2_with (at_builtin; refine wpList_append_own _ rfl _ _ 27 rfl n1 3 i0 (.int .i64 0) 1 8 Try.underlying27 hi hz0 hz1 hz2 rfl (by decide) _ _ _ rfl (hld.alloc _) ⟨wd.heap.size, 0, none⟩ 1 1 [.int .i64 y] rfl rfl ?c1 ?c2 ?c3 ?c4 ?c5 ?_)
                case c1 => exact cell_one_new _ _ _
                case c2 => first | rfl | (intro x hx; simp at hx; subst hx; rfl)
                case c3 => unfold maxLen; omega
                case c4 => omega
                case c5 => have := hsd.out; first | omega | (simp; omega)
                intro v' w4 hown4 hgrow _
                have hb4 : Below n1 _ w4 := (hbl2.alloc (by have := hsd.out; omega) _).grown hgrow (by have := hsd.out; simp; omega) (fun k hk => by have := (hld.lt k hk).1; omega)
                obtain ⟨g', cap', rfl⟩ := ownsRow_succ hown4
                clear hld hgrow hbl hbl2
                go_wp2_with fail
                go_roundw
                case rel => exact ⟨j + 1, some ⟨g', 0, none⟩, cap', by omega, by rw [HT.out]; simp, by go_num, hb4, by rw [HT.out, I64_snoc]; simpa using hown4⟩
                case measure => simp [intOf]; omega
            · obtain rfl : j = xs.length := by omega
              have hlj' : ¬ ((xs.length : Int) < (xs.length : Int)) := by omega
              rw [List.take_length] at hl ⊢
              have HN := Lib.hid hQi.que.nd
              have hcell := hQi.below.cell (p := ⟨ab, ao + k, none⟩) habw |>.trans hcell0
              have hll : (lessD x xs).length ≤ 200 := by have := lessD_len x xs; omega
              have hbs := hbl.size
              have hmem := erase_less (d := x) (xs := xs)
              rw [← lessD_erase HN.out] at hmem
              have hhas : ∀ (W : World), Mine w W B M (lessD x xs) → Calls Try.prog 19 #[.pointer (some ⟨B, 0, none⟩), .int .i64 x] W fun e w' => e = .returned (.bool false) ∧ But [] W w' := fun W hW => by
                have := has_any x hxb W hW.que
                have hn : x ∉ lessD x xs := by simp [lessD]
                simpa only [hn, decide_false] using this
              clear hQ hown hrow hbl
              by_cases hm : x ∈ xs
              · have hE : dropE xs x = 0 := by simp [dropE, hm]
                have hlt2 : ((lessD x xs).length : Int) < (xs.length : Int) := by have := hmem.2 hm; omega
                have hdl : decide (((lessD x xs).length : Int) < (xs.length : Int)) = true := by simpa using hlt2
                clear hmem
                go_wp2_with fail
                refine (m_drop x hxb _ hQi rfl rfl).mono ?_
                rintro e w3 ⟨rfl, hQ3, hb3⟩
                rw [← lessD_erase HN.out] at hQ3
                rw [hE]
                have hl3 := own_keep hl hb3 (by simp; omega)
                have hcell3 := hb3.cell hcell (by have := hQi.ownB; have := hQi.ownM; simp; omega)
                have hs3 := hb3.size
                clear hQi hl hb3 hcell hE
                go_wp2_with fail
                refine (hhas _ hQ3).mono ?_
                rintro e w4 ⟨rfl, hb4⟩
                have hQ4 := hQ3.fresh hb4
                have hl4 := own_keep hl3 hb4 (by simp)
                have hs4 := hb4.size
                clear hQ3 hl3 hb4 hcell3 hhas
                go_wp2_with fail
                go_roundw
                case rel => exact ⟨k + 1, lessD x xs, lp, lc, by omega, hll, rfl, by go_num, hQ4, by omega, owns_low (by omega) hl4⟩
                case measure => simp [intOf]; omega
              · have hE : dropE xs x = 3 := by simp [dropE, hm]
                have hlt2 : ¬ ((lessD x xs).length : Int) < (xs.length : Int) := by have := mt hmem.1 hm; omega
                have hdl : decide (((lessD x xs).length : Int) < (xs.length : Int)) = false := by simpa using hlt2
                clear hmem
                go_wp2_with fail
                refine (m_drop x hxb _ hQi rfl rfl).mono ?_
                rintro e w3 ⟨rfl, hQ3, hb3⟩
                rw [← lessD_erase HN.out] at hQ3
                rw [hE]
                have hl3 := own_keep hl hb3 (by simp; omega)
                have hcell3 := hb3.cell hcell (by have := hQi.ownB; have := hQi.ownM; simp; omega)
                have hs3 := hb3.size
                clear hQi hl hb3 hcell hE
                go_wp2_with fail
                refine (hhas _ hQ3).mono ?_
                rintro e w4 ⟨rfl, hb4⟩
                have hQ4 := hQ3.fresh hb4
                have hl4 := own_keep hl3 hb4 (by simp)
                have hs4 := hb4.size
                clear hQ3 hl3 hb4 hcell3 hhas
                go_wp2_with fail
                go_roundw
                case rel => exact ⟨k + 1, lessD x xs, lp, lc, by omega, hll, rfl, by go_num, hQ4, by omega, owns_low (by omega) hl4⟩
                case measure => simp [intOf]; omega
        · obtain rfl : k = ds.length := by omega
          have hlt' : ¬ ((ds.length : Int) < (ds.length : Int)) := by omega
          have hrow := RowI.of_owns hown
          clear hds hk hib hrow hd hsz
          go_wp2_with fail
          go_loopw [11] (fun iv wr => ∃ j : Nat, j ≤ xs.length ∧ iv = .int .i64 (j : Int) ∧ Mine w wr B M (xs.drop j) ∧ wr.ownsRow base 3 1 (.slice p xs.length pc) xs.length (I64 xs)) (fun iv _ => xs.length - (intOf iv).toNat)
          case atStart => exact ⟨0, Nat.zero_le _, rfl, hQ, hown⟩
          case round =>
            clear hQ hown
            obtain ⟨j, hj, rfl, hQ, hown⟩ := hrel
            by_cases hlj : j < xs.length
            · have hlj' : (j : Int) < (xs.length : Int) := by omega
              have j0 : (0 : Int) ≤ (j : Int) := by omega
              obtain ⟨x, t, hxt⟩ : ∃ x t, xs.drop j = x :: t := by
                cases h : xs.drop j with
                | nil => have := congrArg List.length h; simp at this; omega
                | cons x t => exact ⟨x, t, rfl⟩
              have hx : xs[j]? = some x := by
                have := List.getElem?_drop (xs := xs) (i := j) (j := 0)
                rw [hxt] at this
                simpa using this.symm
              have ht : Hid (t = xs.drop (j + 1)) := Lib.hid (by rw [← List.tail_drop, hxt]; rfl)
              rw [hxt] at hQ
              have hxx : (x != x) = false := by simp
              clear hxt
              go_wp2_with fail
              refine (m_pop (i := x) (k := 0) (ys := t) _ hQ rfl rfl rfl).mono ?_
              rintro e w3 ⟨rfl, hQ3, hb3⟩
              have hown3 := own_keep hown hb3 (by simp; omega)
              obtain ⟨pb, po, rfl, hpb, hpc⟩ := (RowI.of_owns hown3).at hlj
              rw [hx] at hpc
              simp only [Option.getD_some] at hpc
              clear hQ hown hb3 hx
              go_wp2_with fail
              go_roundw
              case rel => exact ⟨j + 1, by omega, by go_num, by rw [← ht.out]; exact hQ3, hown3⟩
              case measure => simp [intOf]; omega
            · obtain rfl : j = xs.length := by omega
              have hlj' : ¬ ((xs.length : Int) < (xs.length : Int)) := by omega
              rw [List.drop_length] at hQ
              clear hown
              go_wp2_with fail
              refine (m_pop (i := 0) (k := 3) (ys := []) _ hQ rfl rfl rfl).mono ?_
              rintro e w3 ⟨rfl, hQ3, -⟩
              clear hQ
              go_wp2_with fail
              refine (alive_any _).mono ?_
              rintro e w7 ⟨rfl, hb7⟩
              have hbe := (hQ3.later hb7).below
              clear hQ3 hb7
              go_wp2_with fail
              go_ret
              exact ⟨rfl, hbe⟩

theorem mid_any (u v : Value) (ps ds : List Int) (w : World) (hps : RowI w u ps) (hds : RowI w v ds) (hib : ∀ x ∈ ds, I64b x) :
    Calls Try.prog 4 #[u, v] w fun e w' => e = .returned (.bool true) ∧ Below w.heap.size w w' := by
  obtain ⟨a, c, rfl⟩ := hps.slice
  obtain ⟨b, d, rfl⟩ := hds.slice
  by_cases hn : 200 < ps.length ∨ 200 < ds.length
  · exact mid_big a b _ _ c d w hn
  · exact mid_loop a b c d ps ds w (by omega) (by omega) hps hds hib
end Go.Proofs.Ytkfbleihcokfaaa
