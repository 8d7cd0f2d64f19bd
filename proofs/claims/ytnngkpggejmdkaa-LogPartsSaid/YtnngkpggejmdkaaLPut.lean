/-
  The walks of New, Put.
-/
import Derived.Test.YtnngkpggejmdkaaLEnd
import Derived.Deep.RegionLaw
import Derived.Maps.AppendAt
namespace Go.Proofs.Ytnngkpggejmdkaa
open Go.RowKit

theorem new_any (w : World) :
    Calls Try.prog 6 #[] w fun e w' => e = .returned (.pointer (some ⟨w.heap.size, 0, none⟩)) ∧ LogAt w' w.heap.size w.heap.size (.slice none 0 0) [] ∧ Below w.heap.size w w' := by
  have hb := below1 w (.cells #[.slice none 0 0] 47)
  have h := Boxed.new w 47 (.slice none 0 0)
  go_enter Try.func6, Try.ntmps6
  go_wp2_with fail
  go_ret
  exact ⟨rfl, ⟨h, World.ownsRow_nil _ _ _ _⟩, hb⟩

/-- append onto a row of the call's own, as one step of a region that draws; where the row then lies. -/
theorem step_append_at {P : Program} {ops : Array Oper} {o : Oper} {a : Act} {w : World} {K : Act → World → Prop} {Q : Exit → Act → World → Prop} {E : Prop}
    (hg : o.guard = none) (s x : Operand) (t : TypeId) (ho : o.op = .call { callee := .builtin .append, args := #[s, x], argTypes := #[t, t] })
    (base : Nat) (e : TypeId) (i : TypeInfo) (z : Value) (size bytes : Nat) (ht : P.underlying t = some (.slice e)) (hi : P.info? e = some i) (hz : i.zero = some z)
    (hsize : i.size = size) (hby : i.bytes = bytes) (hzs : z.cells.size = size) (hsz : 0 < size)
    (v : Value) (n : Nat) (xs : List Value) (hs : a.eval s = v) (hown : w.ownsRow base e size v n xs)
    (ad : Addr) (m c : Nat) (news : List Value) (hx : a.eval x = .slice (some ad) m c) (hl : news.length = m * size) (hnews : ∀ j u, news[j]? = some u → w.cell? (ad.add j) = some u) (h1 : ∀ u ∈ news, u.oneCell' = true)
    (h63 : n + m ≤ maxLen) (hbytes : (n + m) * bytes ≤ 140737488355328) (hbase : base ≤ w.heap.size)
    (h : ∀ v' w', w'.ownsRow base e size v' (n + m) (xs ++ news) → w.grownBy w' v.ownBlock → (v'.ownBlock = v.ownBlock ∨ v'.ownBlock = some w.heap.size) → K (a.put o.dst v') w') :
    if Region.wanted o (yielded ops a.tmps) = true then Oper.wp P o a w K Q else E := by
  have hw : Region.wanted o (yielded ops a.tmps) = true := by simp [Region.wanted, hg]
  rw [if_pos hw]
  obtain ⟨v', w', hr, h2, h3, _, h5⟩ := run_append_own_at (P := P) w base t o.type e i z size bytes ht hi hz hsize hby hzs hsz v n xs hown ad m c news hl hnews h1 h63 hbytes hbase
  unfold Oper.wp execOp
  simp only [ho, resolve, invoke, builtin, Sem.run_bind, Sem.run_pure, Result.andThen_ok, List.map_toArray, List.map_cons, List.map_nil, hs, hx, hr]
  exact h v' w' h2 h3 h5
/-- What may have been turned by Put: the log, its row. -/
def logBlocks (B : Nat) (v : Value) : List Nat := B :: v.ownBlock.toList
/-- What Put leaves. -/
def PutPost (w : World) (b B : Nat) (lv : Value) (xs : List En) (x : En) (e : Ending) (w' : World) : Prop :=
  e = .returned (.int .i64 (putE xs x)) ∧ ∃ v, LogAt w' b B v (putX xs x) ∧ But (logBlocks B lv) w w' ∧ (v.ownBlock = lv.ownBlock ∨ ∃ g, v.ownBlock = some g ∧ w.heap.size ≤ g)
section
variable {b B : Nat} {lv : Value} {xs : List En}
theorem put_not {w w' : World} {x : En} (hL : LogAt w b B lv xs) (h : putE xs x ≠ 0) (hb : Below w.heap.size w w') {n : Int} (hn : putE xs x = n) : PutPost w b B lv xs x (.returned (.int .i64 n)) w' :=
  ⟨by rw [hn], lv, by rw [putX_not h]; exact hL.below hb, But.of_below hb _, .inl rfl⟩
theorem app_at {w W w1 : World} {tmp : Obj} {x : En} {v' : Value} (hL : LogAt W b B lv xs) (hb : Below w.heap.size w W) (h0 : putE xs x = 0)
    (ho : w1.ownsRow b 31 13 v' (xs.length + 1) (flatE xs ++ x.cellsL)) (hgd : (W.alloc tmp).drew.grownBy w1 lv.ownBlock) (hat : v'.ownBlock = lv.ownBlock ∨ v'.ownBlock = some (W.alloc tmp).drew.heap.size) :
    PutPost w b B lv xs x (.returned (.int .i64 0)) (w1.setCell ⟨B, 0, none⟩ v') := by
  have hg : (W.alloc tmp).grownBy w1 lv.ownBlock := ⟨hgd.os, hgd.tape, hgd.output, hgd.size, hgd.block⟩
  have hs : (W.alloc tmp).drew.heap.size = W.heap.size + 1 := World.size_alloc W tmp
  rw [hs] at hat
  have hne := (hL.head.alloc tmp).not_row (by decide) (hL.row.alloc tmp)
  have h1 : Boxed w1 B 47 lv := (hL.head.alloc tmp).kept hg hne
  have ho2 : w1.ownsRow b 31 13 v' (xs ++ [x]).length ((xs ++ [x]).flatMap En.cellsL) := by
    rw [List.length_append, show (xs ++ [x]).flatMap En.cellsL = flatE xs ++ x.cellsL from flatE_snoc xs x]; exact ho
  refine ⟨by rw [h0], v', ?_, ?_, ?_⟩
  · rw [putX_ok h0]
    exact ⟨h1.set _, ho2.kept (grownBy_setCell' w1 B v') (.inr (h1.not_row (by decide) ho2).symm)⟩
  · have g1 : But (logBlocks B lv) w W := But.of_below hb _
    have g2 : But (logBlocks B lv) W (W.alloc tmp) := (But.refl _ W).alloc tmp
    have g3 : But (logBlocks B lv) (W.alloc tmp) w1 := ⟨hg.os, hg.tape, hg.output, hg.size, fun k hk hn => hg.block k hk (fun e => hn (by unfold logBlocks; rw [← e]; simp))⟩
    have g4 : But (logBlocks B lv) w1 (w1.setCell ⟨B, 0, none⟩ v') := (But.refl _ w1).set (p := ⟨B, 0, none⟩) (.inl (by simp [logBlocks])) v'
    exact ((g1.next g2).next g3).next g4
  · rcases hat with h | h
    · exact .inl h
    · exact .inr ⟨_, h, by have := hb.size; omega⟩

set_option maxRecDepth 100000 in
set_option maxHeartbeats 2000000 in
theorem put_any (x : En) (w : World) (hL : LogAt w b B lv xs) (hl : xs.length ≤ 900) (hx : ∀ x ∈ xs, x.ok) (hxk : x.ok) (hbw : b ≤ w.heap.size) :
    Calls Try.prog 7 #[.pointer (some ⟨B, 0, none⟩), x.val] w (PutPost w b B lv xs x) := by
  obtain ⟨i0, hi, hz0, hz1, hz2⟩ := info_parts infoEntry
  obtain ⟨wf, hwf⟩ : ∃ wf, wf = w.alloc (.cells #[.int .i64 x.a, .int .u8 (x.k : Int), .int .i64 x.w, .int .i64 x.t, .int .i64 x.p, .int .i64 x.c, .int .i64 x.b, .int .i64 x.q, .int .i64 x.v, .int .i64 x.u, .bool x.o, .int .i64 x.e, .int .u64 (x.s : Int)] 31) := ⟨_, rfl⟩
  have hB0 : Below w.heap.size w wf := by rw [hwf]; exact below1 w _
  have hX : EnAt wf w.heap.size x := by rw [hwf]; exact enAt_new w x
  have hLf := hL.below hB0
  have hkX : ∀ W, Below wf.heap.size wf W → EnAt W w.heap.size x := fun W hW => hX.of_block (hW.block _ hX.lt)
  have hkS : ∀ W, Below wf.heap.size wf W → W.cell? ⟨w.heap.size, 0, none⟩ = some (.int .i64 x.a) ∧ W.cell? ⟨w.heap.size, 1, none⟩ = some (.int .u8 (x.k : Int)) ∧ W.cell? ⟨w.heap.size, 2, none⟩ = some (.int .i64 x.w) ∧ W.cell? ⟨w.heap.size, 3, none⟩ = some (.int .i64 x.t) ∧ W.cell? ⟨w.heap.size, 4, none⟩ = some (.int .i64 x.p) ∧ W.cell? ⟨w.heap.size, 5, none⟩ = some (.int .i64 x.c) ∧ W.cell? ⟨w.heap.size, 6, none⟩ = some (.int .i64 x.b) ∧ W.cell? ⟨w.heap.size, 7, none⟩ = some (.int .i64 x.q) ∧ W.cell? ⟨w.heap.size, 8, none⟩ = some (.int .i64 x.v) ∧ W.cell? ⟨w.heap.size, 9, none⟩ = some (.int .i64 x.u) ∧ W.cell? ⟨w.heap.size, 10, none⟩ = some (.bool x.o) ∧ W.cell? ⟨w.heap.size, 11, none⟩ = some (.int .i64 x.e) ∧ W.cell? ⟨w.heap.size, 12, none⟩ = some (.int .u64 (x.s : Int)) ∧ Below wf.heap.size wf W := fun W hW => by
    have h := hkX W hW
    exact ⟨h.c0, h.c1, h.c2, h.c3, h.c4, h.c5, h.c6, h.c7, h.c8, h.c9, h.c10, h.c11, h.c12, hW⟩
  have r0 : Below wf.heap.size wf wf.drew := (Below.refl _ _).drew
  have ck : ∀ W, Below wf.heap.size wf W → Calls Try.prog 11 #[.agg #[.int .i64 x.a, .int .u8 (x.k : Int), .int .i64 x.w, .int .i64 x.t, .int .i64 x.p, .int .i64 x.c, .int .i64 x.b, .int .i64 x.q, .int .i64 x.v, .int .i64 x.u, .bool x.o, .int .i64 x.e, .int .u64 (x.s : Int)]] W fun e w' => e = .returned (.int .i64 (checkE x)) ∧ Below wf.heap.size wf w' := fun W hW =>
    (check_any x hxk W).mono fun e w' ⟨h1, h2⟩ => ⟨h1, below_nx hW h2 (Nat.le_refl _)⟩
  have ce : ∀ W, Below wf.heap.size wf W → Calls Try.prog 20 #[.pointer (some ⟨B, 0, none⟩)] W fun e w' => e = .returned (.int .i64 (endV xs)) ∧ Below wf.heap.size wf w' := fun W hW =>
    (end_any W (hLf.below hW) (by omega) hx).mono fun e w' ⟨h1, h2⟩ => ⟨h1, below_nx hW h2 (Nat.le_refl _)⟩
  unfold En.val
  go_enter Try.func7, Try.ntmps7
  go_upto_region 3 with fail
  rw [← hwf]
  clear hwf
  go_cut [8] from 9 to 18 (fun bv W => bv = .bool (!decide (okB x = true ∧ endV xs ≤ x.a)) ∧ Below wf.heap.size wf W)
  case first =>
    cases hok : okB x with
    | false =>
      have hck : checkE x = 2 := by unfold checkE; rw [hok]; rfl
      rw [hck] at ck
      have HD : Hid ((!decide (okB x = true ∧ endV xs ≤ x.a)) = true) := Lib.hid (by rw [hok]; simp)
      clear hok hck
      have c0 := hX.c0
      have c1 := hX.c1
      have c2 := hX.c2
      have c3 := hX.c3
      have c4 := hX.c4
      have c5 := hX.c5
      have c6 := hX.c6
      have c7 := hX.c7
      have c8 := hX.c8
      have c9 := hX.c9
      have c10 := hX.c10
      have c11 := hX.c11
      have c12 := hX.c12
      first
        | (go_region_with (go_at_call 11; with_reducible refine (ck _ r0).mono ?_; rintro e w2 ⟨rfl, hb2⟩))
        | fail "x"
      all_goals go_wp2_with fail
      all_goals go_meet
      all_goals exact ⟨by rw [HD.out], hb2⟩
    | true =>
      have hck : checkE x = 0 := by unfold checkE; rw [hok]; rfl
      rw [hck] at ck
      clear hck
      by_cases hle : endV xs ≤ x.a
      · have HD : Hid ((!decide (okB x = true ∧ endV xs ≤ x.a)) = false) := Lib.hid (by rw [hok]; simp [hle])
        have hd : decide (x.a < endV xs) = false := by simp; omega
        clear hok
        obtain ⟨ev, hev⟩ : ∃ ev, ev = endV xs := ⟨_, rfl⟩
        rw [← hev] at ce hle hd
        clear hev
        go_region_held3 (fun W => W.cell? ⟨w.heap.size, 0, none⟩ = some (.int .i64 x.a) ∧ W.cell? ⟨w.heap.size, 1, none⟩ = some (.int .u8 (x.k : Int)) ∧ W.cell? ⟨w.heap.size, 2, none⟩ = some (.int .i64 x.w) ∧ W.cell? ⟨w.heap.size, 3, none⟩ = some (.int .i64 x.t) ∧ W.cell? ⟨w.heap.size, 4, none⟩ = some (.int .i64 x.p) ∧ W.cell? ⟨w.heap.size, 5, none⟩ = some (.int .i64 x.c) ∧ W.cell? ⟨w.heap.size, 6, none⟩ = some (.int .i64 x.b) ∧ W.cell? ⟨w.heap.size, 7, none⟩ = some (.int .i64 x.q) ∧ W.cell? ⟨w.heap.size, 8, none⟩ = some (.int .i64 x.v) ∧ W.cell? ⟨w.heap.size, 9, none⟩ = some (.int .i64 x.u) ∧ W.cell? ⟨w.heap.size, 10, none⟩ = some (.bool x.o) ∧ W.cell? ⟨w.heap.size, 11, none⟩ = some (.int .i64 x.e) ∧ W.cell? ⟨w.heap.size, 12, none⟩ = some (.int .u64 (x.s : Int)) ∧ Below wf.heap.size wf W)
            ((refine hkS _ ?_; with_reducible first | exact r0 | exact hb2 | exact hb3))
            ((first
              | (go_at_call 11; with_reducible refine (ck _ r0).mono ?_; rintro e w2 ⟨rfl, hb2⟩)
              | (go_at_call 20; with_reducible refine (ce _ hb2).mono ?_; rintro e w3 ⟨rfl, hb3⟩)))
        all_goals go_wp2_with fail
        all_goals go_meet
        all_goals exact ⟨by rw [HD.out], hb3⟩
      · have HD : Hid ((!decide (okB x = true ∧ endV xs ≤ x.a)) = true) := Lib.hid (by rw [hok]; simp [hle])
        have hd : decide (x.a < endV xs) = true := by simp; omega
        clear hok
        obtain ⟨ev, hev⟩ : ∃ ev, ev = endV xs := ⟨_, rfl⟩
        rw [← hev] at ce hle hd
        clear hev
        go_region_held3 (fun W => W.cell? ⟨w.heap.size, 0, none⟩ = some (.int .i64 x.a) ∧ W.cell? ⟨w.heap.size, 1, none⟩ = some (.int .u8 (x.k : Int)) ∧ W.cell? ⟨w.heap.size, 2, none⟩ = some (.int .i64 x.w) ∧ W.cell? ⟨w.heap.size, 3, none⟩ = some (.int .i64 x.t) ∧ W.cell? ⟨w.heap.size, 4, none⟩ = some (.int .i64 x.p) ∧ W.cell? ⟨w.heap.size, 5, none⟩ = some (.int .i64 x.c) ∧ W.cell? ⟨w.heap.size, 6, none⟩ = some (.int .i64 x.b) ∧ W.cell? ⟨w.heap.size, 7, none⟩ = some (.int .i64 x.q) ∧ W.cell? ⟨w.heap.size, 8, none⟩ = some (.int .i64 x.v) ∧ W.cell? ⟨w.heap.size, 9, none⟩ = some (.int .i64 x.u) ∧ W.cell? ⟨w.heap.size, 10, none⟩ = some (.bool x.o) ∧ W.cell? ⟨w.heap.size, 11, none⟩ = some (.int .i64 x.e) ∧ W.cell? ⟨w.heap.size, 12, none⟩ = some (.int .u64 (x.s : Int)) ∧ Below wf.heap.size wf W)
            ((refine hkS _ ?_; with_reducible first | exact r0 | exact hb2 | exact hb3))
            ((first
              | (go_at_call 11; with_reducible refine (ck _ r0).mono ?_; rintro e w2 ⟨rfl, hb2⟩)
              | (go_at_call 20; with_reducible refine (ce _ hb2).mono ?_; rintro e w3 ⟨rfl, hb3⟩)))
        all_goals go_wp2_with fail
        all_goals go_meet
        all_goals exact ⟨by rw [HD.out], hb3⟩
  case rest =>
    obtain ⟨rfl, hb⟩ := hcut
    by_cases hg : okB x = true ∧ endV xs ≤ x.a
    · have hd : (!decide (okB x = true ∧ endV xs ≤ x.a)) = false := by simp [hg]
      rw [hd]
      clear hd
      have hc := ended_any wc (hLf.below hb) (by omega) hx
      cases he : endedB xs with
      | true =>
        rw [he] at hc
        have hp := putE_full hg he
        have hfin : ∀ W, Below w.heap.size w W → PutPost w b B lv xs x (.returned (.int .i64 6)) W := fun W hW => put_not hL (by rw [hp]; decide) hW hp
        clear hp hg he
        go_wp2_with fail
        refine hc.mono ?_
        rintro e w2 ⟨rfl, hb2⟩
        have hW := below_nx (below_nx hB0 hb (Nat.le_refl _)) hb2 (Nat.le_refl _)
        go_wp2_with fail
        go_ret
        exact hfin _ hW
      | false =>
        rw [he] at hc
        have h0 := putE_ok hg he
        clear hg he
        go_wp2_with fail
        refine hc.mono ?_
        rintro e w2 ⟨rfl, hb2⟩
        have hb02 := below_nx hb hb2 (Nat.le_refl _)
        have hW := below_nx hB0 hb02 (Nat.le_refl _)
        have hL2 := hL.below hW
        have hX2 := hkX w2 hb02
        have hbs : b ≤ w2.heap.size := Nat.le_trans hbw hW.size
        have hlc := hL2.head.cell
        have hlf := hL2.head.frozen
        obtain ⟨va, vc, rfl⟩ := owns_slice hL2.row
        have c0 := hX2.c0
        have c1 := hX2.c1
        have c2 := hX2.c2
        have c3 := hX2.c3
        have c4 := hX2.c4
        have c5 := hX2.c5
        have c6 := hX2.c6
        have c7 := hX2.c7
        have c8 := hX2.c8
        have c9 := hX2.c9
        have c10 := hX2.c10
        have c11 := hX2.c11
        have c12 := hX2.c12
        have hne := fun (j : Nat) (u : Value) (hj : x.cellsL[j]? = some u) => en_cell (enAt_new w2 x) j u hj
        have h1 : ∀ u ∈ x.cellsL, u.oneCell' = true := by simpa using en_one [x]
        clear hX2 hkX hkS ck ce r0
        have hrow2 : (w2.alloc (.cells #[.int .i64 x.a, .int .u8 (x.k : Int), .int .i64 x.w, .int .i64 x.t, .int .i64 x.p, .int .i64 x.c, .int .i64 x.b, .int .i64 x.q, .int .i64 x.v, .int .i64 x.u, .bool x.o, .int .i64 x.e, .int .u64 (x.s : Int)] 31)).drew.ownsRow b 31 13 (.slice va xs.length vc) xs.length (flatE xs) := (hL2.row.alloc _).drew
        have hbx : ∀ w1, (w2.alloc (.cells #[.int .i64 x.a, .int .u8 (x.k : Int), .int .i64 x.w, .int .i64 x.t, .int .i64 x.p, .int .i64 x.c, .int .i64 x.b, .int .i64 x.q, .int .i64 x.v, .int .i64 x.u, .bool x.o, .int .i64 x.e, .int .u64 (x.s : Int)] 31)).drew.grownBy w1 (Value.slice va xs.length vc).ownBlock → Boxed w1 B 47 (.slice va xs.length vc) := fun w1 hg => (show Boxed (w2.alloc (.cells #[.int .i64 x.a, .int .u8 (x.k : Int), .int .i64 x.w, .int .i64 x.t, .int .i64 x.p, .int .i64 x.c, .int .i64 x.b, .int .i64 x.q, .int .i64 x.v, .int .i64 x.u, .bool x.o, .int .i64 x.e, .int .u64 (x.s : Int)] 31)).drew B 47 (.slice va xs.length vc) from hL2.head.alloc _).kept hg ((hL2.head.alloc (.cells #[.int .i64 x.a, .int .u8 (x.k : Int), .int .i64 x.w, .int .i64 x.t, .int .i64 x.p, .int .i64 x.c, .int .i64 x.b, .int .i64 x.q, .int .i64 x.v, .int .i64 x.u, .bool x.o, .int .i64 x.e, .int .u64 (x.s : Int)] 31)).not_row (by decide) (hL2.row.alloc _))
        have hlcA := (hL2.head.alloc (.cells #[.int .i64 x.a, .int .u8 (x.k : Int), .int .i64 x.w, .int .i64 x.t, .int .i64 x.p, .int .i64 x.c, .int .i64 x.b, .int .i64 x.q, .int .i64 x.v, .int .i64 x.u, .bool x.o, .int .i64 x.e, .int .u64 (x.s : Int)] 31)).cell
        have hBl := hL2.lt
        have hsz2 : b ≤ (w2.alloc (.cells #[.int .i64 x.a, .int .u8 (x.k : Int), .int .i64 x.w, .int .i64 x.t, .int .i64 x.p, .int .i64 x.c, .int .i64 x.b, .int .i64 x.q, .int .i64 x.v, .int .i64 x.u, .bool x.o, .int .i64 x.e, .int .u64 (x.s : Int)] 31)).drew.heap.size := by show b ≤ (w2.alloc (.cells #[.int .i64 x.a, .int .u8 (x.k : Int), .int .i64 x.w, .int .i64 x.t, .int .i64 x.p, .int .i64 x.c, .int .i64 x.b, .int .i64 x.q, .int .i64 x.v, .int .i64 x.u, .bool x.o, .int .i64 x.e, .int .u64 (x.s : Int)] 31)).heap.size; simp; omega
        have hne2 : ∀ (j : Nat) (u : Value), x.cellsL[j]? = some u → (w2.alloc (.cells #[.int .i64 x.a, .int .u8 (x.k : Int), .int .i64 x.w, .int .i64 x.t, .int .i64 x.p, .int .i64 x.c, .int .i64 x.b, .int .i64 x.q, .int .i64 x.v, .int .i64 x.u, .bool x.o, .int .i64 x.e, .int .u64 (x.s : Int)] 31)).drew.cell? (Addr.add ⟨w2.heap.size, 0, none⟩ j) = some u := hne
        go_wp2_with fail
        go_region_law (first
          | (refine step_append_at rfl (.tmp 26) (.tmp 28) 22 rfl b 31 i0 (.agg #[.int .i64 0, .int .u8 0, .int .i64 0, .int .i64 0, .int .i64 0, .int .i64 0, .int .i64 0, .int .i64 0, .int .i64 0, .int .i64 0, .bool false, .int .i64 0, .int .u64 0]) 13 104 Try.underlying22 hi hz0 hz1 hz2 rfl (by decide) (.slice va xs.length vc) xs.length (flatE xs) rfl hrow2 ⟨w2.heap.size, 0, none⟩ 1 1 x.cellsL rfl rfl hne2 h1 (by unfold maxLen; omega) (by omega) hsz2 ?_
             intro v1 w1 hown1 hg1 hat1
             obtain ⟨g1, cap1, rfl⟩ := ownsRow_succ hown1
             have hv1 := (hbx w1 hg1).cell
             have hf1 := (hbx w1 hg1).frozen))
        all_goals go_wp2_with fail
        all_goals go_ret
        all_goals exact app_at hL2 hW h0 hown1 hg1 hat1
    · have hp := putE_bad hg
      have hd : (!decide (okB x = true ∧ endV xs ≤ x.a)) = true := by simp [hg]
      have hfin : ∀ W, Below w.heap.size w W → PutPost w b B lv xs x (.returned (.int .i64 2)) W := fun W hW => put_not hL (by rw [hp]; decide) hW hp
      rw [hd]
      clear hp hg hd
      go_wp2_with fail
      go_ret
      exact hfin _ (below_nx hB0 hb (Nat.le_refl _))
end
end Go.Proofs.Ytnngkpggejmdkaa
