/-
  The walks of getRow of numbers, cases, instructions; of getSite, getCode.
-/
import Derived.Test.YtakgcienodigpaaGreatKGrow
import Derived.Test.YtakgcienodigpaaGreatKGetI
import Derived.Test.YtakgcienodigpaaGreatKRow
namespace Go.Proofs.YtakgcienodigpaaGreat
open Go.RowKit Oct

set_option maxRecDepth 100000 in
set_option maxHeartbeats 1600000 in
theorem getRowInt_any (pb Bs kb M : Nat) (s : List UInt8) (w : World) (h : Rdr w pb Bs kb M s) :
    Calls Tryz.prog 24 #[.agg #[F1 pb, F2 pb, F3 kb], .int .i64 6, .func (.func 25) #[] #[]] w (GetPost w pb Bs kb M (fun W v (l : List Int) => OwnInts w.heap.size W v l) (rdL 6 (rdZ 8) s)) := by
  obtain ⟨u1, u2, u3, u4⟩ := h.lt
  obtain ⟨i0, hi, hz0, hz1, hz2⟩ := info_parts infoInt
  obtain ⟨hR, hX, hb0⟩ := rbox h
  have c0 := hX.cell (k := 0) (v := F1 pb) rfl
  have hnum := number_any 6 pb Bs kb M s (by omega) _ hR
  cases ho : rdN 6 s with
  | none =>
    have hc := get_bad hnum ho
    have HO := Lib.hid (rdL_bad (f := rdZ 8) ho)
    clear ho
    go_enter Tryz.func24, Tryz.ntmps24
    go_wp2_with fail
    refine hc.mono ?_
    rintro e w1 ⟨rfl, hb, s', hS⟩
    exact ⟨rfl, post_bad HO.out (hb0.next hb) hS⟩
  | some q =>
    obtain ⟨n, r0⟩ := q
    have hc := get_ok hnum ho
    have hnm : n ≤ 6 := (rdN_some.1 ho).2
    have HO := Lib.hid ho
    clear ho hnum
    go_enter Tryz.func24, Tryz.ntmps24
    go_wp2_with fail
    refine hc.mono ?_
    rintro e w1 ⟨v, rfl, rfl, hb, hR1⟩
    have hX1 := hX.over hR (by decide) hb
    have hN1 : RBut Bs M w w1 := hb0.next hb
    have hs1 := hN1.size
    have HO2 : Hid (rdRow (rdZ 8) n r0 = (rdRow (rdZ 8) (n - 0) r0).map fun q => ([] ++ q.1, q.2)) := Lib.hid (by simp)
    clear hc hb hX hR c0 hb0
    go_wp2_with fail
    go_loopw [6, 11] (fun lv iv wr => ∃ (k : Nat) (pre : List Int) (r : List UInt8), k ≤ n ∧ iv = .int .i64 (k : Int) ∧ OwnInts w.heap.size wr lv pre ∧ Rdr wr pb Bs kb M r ∧ RBut Bs M w wr ∧ Blk wr w.heap.size 61 #[F1 pb, F2 pb, F3 kb] ∧ Hid (pre.length = k) ∧ Hid (rdRow (rdZ 8) n r0 = (rdRow (rdZ 8) (n - k) r).map fun q => (pre ++ q.1, q.2))) (fun _ iv _ => n - (intOf iv).toNat)
    case atStart => exact ⟨0, [], r0, Nat.zero_le _, rfl, World.ownsRow_nil _ _ _ _, hR1, hN1, hX1, Lib.hid rfl, HO2⟩
    case round =>
      clear HO2 hR1 hN1 hX1 hs1
      obtain ⟨k, pre, r, hk, rfl, hO, hRr, hNr, hXr, HL, HP⟩ := hrel
      by_cases hlt : k < n
      · have hlt' : (k : Int) < (n : Int) := by omega
        have hw2 : IntKind.i64.wrap ((k : Int) + 1) = (k : Int) + 1 := by rw [IntKind.wrap_i64]; omega
        have c0 := hXr.cell (k := 0) (v := F1 pb) rfl
        have c1 := hXr.cell (k := 1) (v := F2 pb) rfl
        have c2 := hXr.cell (k := 2) (v := F3 kb) rfl
        have hsr := hNr.size
        have hone := getCapacity_any pb Bs kb M r _ hRr
        cases hr : (rdZ 8) r with
        | none =>
          have hc := get_bad hone hr
          have HB := Lib.hid (rdL_of (f := rdZ 8) HO.out (row_none hlt HP.out hr))
          clear hr hone
          go_wp2_with fail
          refine hc.mono ?_
          rintro e w2 ⟨rfl, hb, s', hS⟩
          exact ⟨rfl, post_bad HB.out (hNr.next hb) hS⟩
        | some q =>
          obtain ⟨x, r'⟩ := q
          have hc := get_ok hone hr
          have HP' := Lib.hid (row_next hlt HP.out hr)
          clear hr hone
          go_wp2_with fail
          refine hc.mono ?_
          rintro e w2 ⟨v, rfl, rfl, hb, hR2⟩
          have hO2 := owns_over hO hRr (by decide) hb
          have hX2 := hXr.over hRr (by decide) hb
          have hN2 := hNr.next hb
          have hs2 := hN2.size
          clear hc hb c0 c1 c2 hO hXr hNr hRr
          have hB3 : Below w2.heap.size w2 (w2.alloc (.cells #[.int .i64 x] 3)) := (Below.refl _ _).alloc (Nat.le_refl _) _
          have hO3 : OwnInts w.heap.size (w2.alloc (.cells #[.int .i64 x] 3)) _ pre := owns_fresh hO2 hB3
          have hX3 := hX2.later hB3 hX2.lt
          have hB := blk_new w2 3 #[.int .i64 x]
          have hpl : pre.length ≤ 1000 := by have := HL.out; omega
          obtain ⟨hrow, hsp⟩ := hO3.split
          have hne : ∀ (j : Nat) u, ([.int .i64 x] : List Value)[j]? = some u → (w2.alloc (.cells #[.int .i64 x] 3)).cell? (Addr.add ⟨w2.heap.size, 0, none⟩ j) = some u := fun j u hj => by
            rw [show Addr.add ⟨w2.heap.size, 0, none⟩ j = ⟨w2.heap.size, j, none⟩ by by_cases e : j = 0 <;> simp [Addr.add, e]]
            exact hB.cell (by simpa using hj)
          go_wp2_with (at_builtin; refine wpList_append_own _ rfl _ _ 22 rfl w.heap.size 3 i0 (.int .i64 0) 1 8 Tryz.underlying22 hi hz0 hz1 hz2 rfl (by decide) _ _ _ rfl hrow ⟨w2.heap.size, 0, none⟩ 1 1 ([.int .i64 x]) rfl rfl hne ?c2 ?c3 ?c4 ?c5 ?_)
          case c2 => intro u hu; simp at hu; subst hu; rfl
          case c3 => unfold maxLen; omega
          case c4 => omega
          case c5 => first | omega | (simp; omega)
          intro v' w4 hown' hgrow _
          have hB4 : Below w.heap.size (w2.alloc (.cells #[.int .i64 x] 3)) w4 := grown_below hrow hgrow (by simp; omega)
          have hX4 := grown_other hrow hgrow hX3 (by decide)
          have hR4 := (hR2.later hB3 (Nat.le_refl _)).under hB4 u1 u2 u3 u4
          have hN4 : RBut Bs M w w4 := but_below (hN2.next (But.of_below hB3 _)) hB4
          have hO4 := hsp _ _ x hown' hgrow
          have HL' : Hid ((pre ++ [x]).length = k + 1) := Lib.hid (by rw [List.length_append, HL.out]; rfl)
          clear hown' hgrow hrow hsp hO2 hO3 hX2 hX3 hN2 hR2 hB4 hB hB3 hne
          go_wp2_with fail
          go_roundw
          case rel => exact ⟨k + 1, pre ++ [x], r', by omega, by go_num, hO4, hR4, hN4, hX4, HL', HP'⟩
          case measure => simp [intOf]; omega
      · have hlt' : ¬ (k : Int) < (n : Int) := by omega
        have HE := Lib.hid (rdL_of (f := rdZ 8) HO.out (row_done hlt HP.out))
        go_wp2_with fail
        go_ret
        exact post_ok HE.out hO hNr hRr

set_option maxRecDepth 100000 in
set_option maxHeartbeats 1600000 in
theorem getRowCase_any (pb Bs kb M : Nat) (s : List UInt8) (w : World) (h : Rdr w pb Bs kb M s) :
    Calls Tryz.prog 62 #[.agg #[F1 pb, F2 pb, F3 kb], .int .i64 6, .func (.func 63) #[] #[]] w (GetPost w pb Bs kb M (fun W v (l : List Cas) => OwnCases w.heap.size W v l) (rdL 6 (rdCase 7) s)) := by
  obtain ⟨u1, u2, u3, u4⟩ := h.lt
  obtain ⟨i0, hi, hz0, hz1, hz2⟩ := info_parts infoCase
  obtain ⟨hR, hX, hb0⟩ := rbox h
  have c0 := hX.cell (k := 0) (v := F1 pb) rfl
  have hnum := number_any 6 pb Bs kb M s (by omega) _ hR
  cases ho : rdN 6 s with
  | none =>
    have hc := get_bad hnum ho
    have HO := Lib.hid (rdL_bad (f := rdCase 7) ho)
    clear ho
    go_enter Tryz.func62, Tryz.ntmps62
    go_wp2_with fail
    refine hc.mono ?_
    rintro e w1 ⟨rfl, hb, s', hS⟩
    exact ⟨rfl, post_bad HO.out (hb0.next hb) hS⟩
  | some q =>
    obtain ⟨n, r0⟩ := q
    have hc := get_ok hnum ho
    have hnm : n ≤ 6 := (rdN_some.1 ho).2
    have HO := Lib.hid ho
    clear ho hnum
    go_enter Tryz.func62, Tryz.ntmps62
    go_wp2_with fail
    refine hc.mono ?_
    rintro e w1 ⟨v, rfl, rfl, hb, hR1⟩
    have hX1 := hX.over hR (by decide) hb
    have hN1 : RBut Bs M w w1 := hb0.next hb
    have hs1 := hN1.size
    have HO2 : Hid (rdRow (rdCase 7) n r0 = (rdRow (rdCase 7) (n - 0) r0).map fun q => ([] ++ q.1, q.2)) := Lib.hid (by simp)
    clear hc hb hX hR c0 hb0
    go_wp2_with fail
    go_loopw [6, 11] (fun lv iv wr => ∃ (k : Nat) (pre : List Cas) (r : List UInt8), k ≤ n ∧ iv = .int .i64 (k : Int) ∧ OwnCases w.heap.size wr lv pre ∧ Rdr wr pb Bs kb M r ∧ RBut Bs M w wr ∧ Blk wr w.heap.size 61 #[F1 pb, F2 pb, F3 kb] ∧ Hid (pre.length = k) ∧ Hid (rdRow (rdCase 7) n r0 = (rdRow (rdCase 7) (n - k) r).map fun q => (pre ++ q.1, q.2))) (fun _ iv _ => n - (intOf iv).toNat)
    case atStart => exact ⟨0, [], r0, Nat.zero_le _, rfl, World.ownsRow_nil _ _ _ _, hR1, hN1, hX1, Lib.hid rfl, HO2⟩
    case round =>
      clear HO2 hR1 hN1 hX1 hs1
      obtain ⟨k, pre, r, hk, rfl, hO, hRr, hNr, hXr, HL, HP⟩ := hrel
      by_cases hlt : k < n
      · have hlt' : (k : Int) < (n : Int) := by omega
        have hw2 : IntKind.i64.wrap ((k : Int) + 1) = (k : Int) + 1 := by rw [IntKind.wrap_i64]; omega
        have c0 := hXr.cell (k := 0) (v := F1 pb) rfl
        have c1 := hXr.cell (k := 1) (v := F2 pb) rfl
        have c2 := hXr.cell (k := 2) (v := F3 kb) rfl
        have hsr := hNr.size
        have hone := getCase_any pb Bs kb M r _ hRr
        cases hr : (rdCase 7) r with
        | none =>
          have hc := get_bad hone hr
          have HB := Lib.hid (rdL_of (f := rdCase 7) HO.out (row_none hlt HP.out hr))
          clear hr hone
          go_wp2_with fail
          refine hc.mono ?_
          rintro e w2 ⟨rfl, hb, s', hS⟩
          exact ⟨rfl, post_bad HB.out (hNr.next hb) hS⟩
        | some q =>
          obtain ⟨x, r'⟩ := q
          have hc := get_ok hone hr
          have HP' := Lib.hid (row_next hlt HP.out hr)
          clear hr hone
          go_wp2_with fail
          refine hc.mono ?_
          rintro e w2 ⟨v, rfl, rfl, hb, hR2⟩
          have hO2 := owns_over hO hRr (by decide) hb
          have hX2 := hXr.over hRr (by decide) hb
          have hN2 := hNr.next hb
          have hs2 := hN2.size
          clear hc hb c0 c1 c2 hO hXr hNr hRr
          have hB3 : Below w2.heap.size w2 (w2.alloc (.cells #[.bool x.s, .int .i64 x.c, .int .i64 x.v, .int .i64 x.o] 52)) := (Below.refl _ _).alloc (Nat.le_refl _) _
          have hO3 : OwnCases w.heap.size (w2.alloc (.cells #[.bool x.s, .int .i64 x.c, .int .i64 x.v, .int .i64 x.o] 52)) _ pre := owns_fresh hO2 hB3
          have hX3 := hX2.later hB3 hX2.lt
          have hB := blk_new w2 52 #[.bool x.s, .int .i64 x.c, .int .i64 x.v, .int .i64 x.o]
          have hpl : pre.length ≤ 1000 := by have := HL.out; omega
          obtain ⟨hrow, hsp⟩ := OwnCases.split hO3
          have hne : ∀ (j : Nat) u, (Cas.cellsL x : List Value)[j]? = some u → (w2.alloc (.cells #[.bool x.s, .int .i64 x.c, .int .i64 x.v, .int .i64 x.o] 52)).cell? (Addr.add ⟨w2.heap.size, 0, none⟩ j) = some u := fun j u hj => by
            rw [show Addr.add ⟨w2.heap.size, 0, none⟩ j = ⟨w2.heap.size, j, none⟩ by by_cases e : j = 0 <;> simp [Addr.add, e]]
            exact hB.cell (by simpa [Cas.cellsL] using hj)
          go_wp2_with (at_builtin; refine wpList_append_own _ rfl _ _ 38 rfl w.heap.size 52 i0 (.agg #[.bool false, .int .i64 0, .int .i64 0, .int .i64 0]) 4 32 Tryz.underlying38 hi hz0 hz1 hz2 rfl (by decide) _ _ _ rfl hrow ⟨w2.heap.size, 0, none⟩ 1 1 (Cas.cellsL x) rfl rfl hne ?c2 ?c3 ?c4 ?c5 ?_)
          case c2 => simpa using case_one [x]
          case c3 => unfold maxLen; omega
          case c4 => omega
          case c5 => first | omega | (simp; omega)
          intro v' w4 hown' hgrow _
          have hB4 : Below w.heap.size (w2.alloc (.cells #[.bool x.s, .int .i64 x.c, .int .i64 x.v, .int .i64 x.o] 52)) w4 := grown_below hrow hgrow (by simp; omega)
          have hX4 := grown_other hrow hgrow hX3 (by decide)
          have hR4 := (hR2.later hB3 (Nat.le_refl _)).under hB4 u1 u2 u3 u4
          have hN4 : RBut Bs M w w4 := but_below (hN2.next (But.of_below hB3 _)) hB4
          have hO4 := hsp _ _ x hown' hgrow
          have HL' : Hid ((pre ++ [x]).length = k + 1) := Lib.hid (by rw [List.length_append, HL.out]; rfl)
          clear hown' hgrow hrow hsp hO2 hO3 hX2 hX3 hN2 hR2 hB4 hB hB3 hne
          go_wp2_with fail
          go_roundw
          case rel => exact ⟨k + 1, pre ++ [x], r', by omega, by go_num, hO4, hR4, hN4, hX4, HL', HP'⟩
          case measure => simp [intOf]; omega
      · have hlt' : ¬ (k : Int) < (n : Int) := by omega
        have HE := Lib.hid (rdL_of (f := rdCase 7) HO.out (row_done hlt HP.out))
        go_wp2_with fail
        go_ret
        exact post_ok HE.out hO hNr hRr

set_option maxRecDepth 100000 in
set_option maxHeartbeats 1600000 in
theorem getRowIns_any (pb Bs kb M : Nat) (s : List UInt8) (w : World) (h : Rdr w pb Bs kb M s) :
    Calls Tryz.prog 64 #[.agg #[F1 pb, F2 pb, F3 kb], .int .i64 40, .func (.func 65) #[] #[]] w (GetPost w pb Bs kb M (fun W v (l : List In) => OwnCode w.heap.size W v l) (rdL 40 (rdIns 7) s)) := by
  obtain ⟨u1, u2, u3, u4⟩ := h.lt
  obtain ⟨i0, hi, hz0, hz1, hz2⟩ := info_parts infoIns
  obtain ⟨hR, hX, hb0⟩ := rbox h
  have c0 := hX.cell (k := 0) (v := F1 pb) rfl
  have hnum := number_any 40 pb Bs kb M s (by omega) _ hR
  cases ho : rdN 40 s with
  | none =>
    have hc := get_bad hnum ho
    have HO := Lib.hid (rdL_bad (f := rdIns 7) ho)
    clear ho
    go_enter Tryz.func64, Tryz.ntmps64
    go_wp2_with fail
    refine hc.mono ?_
    rintro e w1 ⟨rfl, hb, s', hS⟩
    exact ⟨rfl, post_bad HO.out (hb0.next hb) hS⟩
  | some q =>
    obtain ⟨n, r0⟩ := q
    have hc := get_ok hnum ho
    have hnm : n ≤ 40 := (rdN_some.1 ho).2
    have HO := Lib.hid ho
    clear ho hnum
    go_enter Tryz.func64, Tryz.ntmps64
    go_wp2_with fail
    refine hc.mono ?_
    rintro e w1 ⟨v, rfl, rfl, hb, hR1⟩
    have hX1 := hX.over hR (by decide) hb
    have hN1 : RBut Bs M w w1 := hb0.next hb
    have hs1 := hN1.size
    have HO2 : Hid (rdRow (rdIns 7) n r0 = (rdRow (rdIns 7) (n - 0) r0).map fun q => ([] ++ q.1, q.2)) := Lib.hid (by simp)
    clear hc hb hX hR c0 hb0
    go_wp2_with fail
    go_loopw [6, 11] (fun lv iv wr => ∃ (k : Nat) (pre : List In) (r : List UInt8), k ≤ n ∧ iv = .int .i64 (k : Int) ∧ OwnCode w.heap.size wr lv pre ∧ Rdr wr pb Bs kb M r ∧ RBut Bs M w wr ∧ Blk wr w.heap.size 61 #[F1 pb, F2 pb, F3 kb] ∧ Hid (pre.length = k) ∧ Hid (rdRow (rdIns 7) n r0 = (rdRow (rdIns 7) (n - k) r).map fun q => (pre ++ q.1, q.2))) (fun _ iv _ => n - (intOf iv).toNat)
    case atStart => exact ⟨0, [], r0, Nat.zero_le _, rfl, World.ownsRow_nil _ _ _ _, hR1, hN1, hX1, Lib.hid rfl, HO2⟩
    case round =>
      clear HO2 hR1 hN1 hX1 hs1
      obtain ⟨k, pre, r, hk, rfl, hO, hRr, hNr, hXr, HL, HP⟩ := hrel
      by_cases hlt : k < n
      · have hlt' : (k : Int) < (n : Int) := by omega
        have hw2 : IntKind.i64.wrap ((k : Int) + 1) = (k : Int) + 1 := by rw [IntKind.wrap_i64]; omega
        have c0 := hXr.cell (k := 0) (v := F1 pb) rfl
        have c1 := hXr.cell (k := 1) (v := F2 pb) rfl
        have c2 := hXr.cell (k := 2) (v := F3 kb) rfl
        have hsr := hNr.size
        have hone := getIns_any pb Bs kb M r _ hRr
        cases hr : (rdIns 7) r with
        | none =>
          have hc := get_bad hone hr
          have HB := Lib.hid (rdL_of (f := rdIns 7) HO.out (row_none hlt HP.out hr))
          clear hr hone
          go_wp2_with fail
          refine hc.mono ?_
          rintro e w2 ⟨rfl, hb, s', hS⟩
          exact ⟨rfl, post_bad HB.out (hNr.next hb) hS⟩
        | some q =>
          obtain ⟨x, r'⟩ := q
          have hc := get_ok hone hr
          have HP' := Lib.hid (row_next hlt HP.out hr)
          clear hr hone
          go_wp2_with fail
          refine hc.mono ?_
          rintro e w2 ⟨v, rfl, rfl, hb, hR2⟩
          have hO2 := owns_over hO hRr (by decide) hb
          have hX2 := hXr.over hRr (by decide) hb
          have hN2 := hNr.next hb
          have hs2 := hN2.size
          clear hc hb c0 c1 c2 hO hXr hNr hRr
          have hB3 : Below w2.heap.size w2 (w2.alloc (.cells #[.int .u8 (x.o : Int), .int .i64 x.a, .int .i64 x.b, .int .i64 x.c, .int .i64 x.k] 42)) := (Below.refl _ _).alloc (Nat.le_refl _) _
          have hO3 : OwnCode w.heap.size (w2.alloc (.cells #[.int .u8 (x.o : Int), .int .i64 x.a, .int .i64 x.b, .int .i64 x.c, .int .i64 x.k] 42)) _ pre := owns_fresh hO2 hB3
          have hX3 := hX2.later hB3 hX2.lt
          have hB := blk_new w2 42 #[.int .u8 (x.o : Int), .int .i64 x.a, .int .i64 x.b, .int .i64 x.c, .int .i64 x.k]
          have hpl : pre.length ≤ 1000 := by have := HL.out; omega
          obtain ⟨hrow, hsp⟩ := OwnCode.split hO3
          have hne : ∀ (j : Nat) u, (In.cellsL x : List Value)[j]? = some u → (w2.alloc (.cells #[.int .u8 (x.o : Int), .int .i64 x.a, .int .i64 x.b, .int .i64 x.c, .int .i64 x.k] 42)).cell? (Addr.add ⟨w2.heap.size, 0, none⟩ j) = some u := fun j u hj => by
            rw [show Addr.add ⟨w2.heap.size, 0, none⟩ j = ⟨w2.heap.size, j, none⟩ by by_cases e : j = 0 <;> simp [Addr.add, e]]
            exact hB.cell (by simpa [In.cellsL] using hj)
          go_wp2_with (at_builtin; refine wpList_append_own _ rfl _ _ 37 rfl w.heap.size 42 i0 (.agg #[.int .u8 0, .int .i64 0, .int .i64 0, .int .i64 0, .int .i64 0]) 5 40 Tryz.underlying37 hi hz0 hz1 hz2 rfl (by decide) _ _ _ rfl hrow ⟨w2.heap.size, 0, none⟩ 1 1 (In.cellsL x) rfl rfl hne ?c2 ?c3 ?c4 ?c5 ?_)
          case c2 => simpa using ins_one [x]
          case c3 => unfold maxLen; omega
          case c4 => omega
          case c5 => first | omega | (simp; omega)
          intro v' w4 hown' hgrow _
          have hB4 : Below w.heap.size (w2.alloc (.cells #[.int .u8 (x.o : Int), .int .i64 x.a, .int .i64 x.b, .int .i64 x.c, .int .i64 x.k] 42)) w4 := grown_below hrow hgrow (by simp; omega)
          have hX4 := grown_other hrow hgrow hX3 (by decide)
          have hR4 := (hR2.later hB3 (Nat.le_refl _)).under hB4 u1 u2 u3 u4
          have hN4 : RBut Bs M w w4 := but_below (hN2.next (But.of_below hB3 _)) hB4
          have hO4 := hsp _ _ x hown' hgrow
          have HL' : Hid ((pre ++ [x]).length = k + 1) := Lib.hid (by rw [List.length_append, HL.out]; rfl)
          clear hown' hgrow hrow hsp hO2 hO3 hX2 hX3 hN2 hR2 hB4 hB hB3 hne
          go_wp2_with fail
          go_roundw
          case rel => exact ⟨k + 1, pre ++ [x], r', by omega, by go_num, hO4, hR4, hN4, hX4, HL', HP'⟩
          case measure => simp [intOf]; omega
      · have hlt' : ¬ (k : Int) < (n : Int) := by omega
        have HE := Lib.hid (rdL_of (f := rdIns 7) HO.out (row_done hlt HP.out))
        go_wp2_with fail
        go_ret
        exact post_ok HE.out hO hNr hRr

theorem getCode_any (pb Bs kb M : Nat) (s : List UInt8) (w : World) (h : Rdr w pb Bs kb M s) :
    Calls Tryz.prog 29 #[.agg #[F1 pb, F2 pb, F3 kb]] w (GetPost w pb Bs kb M (fun W v (l : List In) => OwnCode w.heap.size W v l) (rdCode 7 s)) := by
  obtain ⟨hR, hX, hb0⟩ := rbox h
  have c0 := hX.cell (k := 0) (v := F1 pb) rfl
  have c1 := hX.cell (k := 1) (v := F2 pb) rfl
  have c2 := hX.cell (k := 2) (v := F3 kb) rfl
  have hc := getRowIns_any pb Bs kb M s _ hR
  cases ho : rdL 40 (rdIns 7) s with
  | none =>
    have hc := get_bad hc ho
    have HO : Hid (rdCode 7 s = none) := Lib.hid ho
    clear ho
    go_enter Tryz.func29, Tryz.ntmps29
    go_wp2_with fail
    refine hc.mono ?_
    rintro e w1 ⟨rfl, hb, s', hS⟩
    exact ⟨rfl, post_bad HO.out (hb0.next hb) hS⟩
  | some p =>
    obtain ⟨x, r⟩ := p
    have hc := get_ok hc ho
    have HO : Hid (rdCode 7 s = some (x, r)) := Lib.hid ho
    clear ho
    go_enter Tryz.func29, Tryz.ntmps29
    go_wp2_with fail
    refine hc.mono ?_
    rintro e w1 ⟨v, rfl, hO, hb, hR1⟩
    obtain ⟨ga, gc, rfl⟩ := owns_slice hO
    clear hc
    go_wp2_with fail
    go_ret
    exact post_ok HO.out (owns_base hO (by simp)) (hb0.next hb) hR1
/-- A site that was read. -/
def siteRes (base : Nat) (W : World) (v : Value) (x : Sit) : Prop := ∃ (ga : Option Addr) (gc : Nat), v = .agg #[.slice ga x.cs.length gc, .bool x.d] ∧ OwnCases base W (.slice ga x.cs.length gc) x.cs
set_option maxRecDepth 100000 in
set_option maxHeartbeats 1600000 in
theorem getSite_any (pb Bs kb M : Nat) (s : List UInt8) (w : World) (h : Rdr w pb Bs kb M s) :
    Calls Tryz.prog 27 #[.agg #[F1 pb, F2 pb, F3 kb]] w (GetPost w pb Bs kb M (fun W v (x : Sit) => siteRes w.heap.size W v x) (rdSite 7 s)) := by
  obtain ⟨wf, hwf⟩ : ∃ wf, wf = (w.alloc (.cells #[F1 pb, F2 pb, F3 kb] 61)).alloc (.cells #[.slice none 0 0, .bool false] 40) := ⟨_, rfl⟩
  have hB0 : Below w.heap.size w wf := by rw [hwf]; exact below2 w _ _
  have hR0 := h.later hB0 (Nat.le_refl _)
  have hX0 : Blk wf w.heap.size 61 #[F1 pb, F2 pb, F3 kb] := by rw [hwf]; exact (blk_new w _ _).alloc _
  have hC0 : Blk wf (w.heap.size + 1) 40 #[.slice none 0 0, .bool false] := by rw [hwf]; exact blk_at (World.size_alloc _ _).symm
  have hN0 : RBut Bs M w wf := But.of_below hB0 _
  have hs0 := hB0.size
  have c0 := hX0.cell (k := 0) (v := F1 pb) rfl
  have c1 := hX0.cell (k := 1) (v := F2 pb) rfl
  have c2 := hX0.cell (k := 2) (v := F3 kb) rfl
  rw [hwf] at c0 c1 c2
  have hf := getFlag_any pb Bs kb M s _ hR0
  go_enter Tryz.func27, Tryz.ntmps27
  cases ho : rdF s with
  | none =>
    have hc := get_bad hf ho
    have HO : Hid (rdSite 7 s = none) := Lib.hid (by simp [rdSite, ho])
    clear ho
    go_wp2_with fail
    rw [← hwf]
    refine hc.mono ?_
    rintro e w1 ⟨rfl, hb, s', hS⟩
    exact ⟨rfl, post_bad HO.out (hN0.next hb) hS⟩
  | some q =>
    obtain ⟨d, s1⟩ := q
    have hc := get_ok hf ho
    have p0 := Lib.hid ho
    clear ho hf
    go_wp2_with fail
    rw [← hwf]
    clear hwf
    refine hc.mono ?_
    rintro e w1 ⟨v, rfl, rfl, hb, hR1⟩
    have hX1 := hX0.over hR0 (by decide) hb
    have hC1 := hC0.over hR0 (by decide) hb
    have hN1 := hN0.next hb
    have d1 := hC1.cell (k := 1) (v := .bool false) rfl
    have f1 := hC1.frozen 1
    have hcs := But.cellset (W := w1) (B := w.heap.size + 1) (k := 1) (v := .bool d)
    have hR2 := hR1.beside hC1 (by decide) hcs
    have hC2 := hC1.set 1 (.bool d)
    have hX2 : Blk (w1.setCell ⟨w.heap.size + 1, 1, none⟩ (.bool d)) w.heap.size 61 #[F1 pb, F2 pb, F3 kb] := (hcs.block _ hX1.lt (by simp)).trans hX1
    have hN2 := rbut_own hN1 hcs (by simp)
    have hs2 := hN2.size
    have e0 := hX2.cell (k := 0) (v := F1 pb) rfl
    have e1 := hX2.cell (k := 1) (v := F2 pb) rfl
    have e2 := hX2.cell (k := 2) (v := F3 kb) rfl
    have hg := getRowCase_any pb Bs kb M s1 _ hR2
    clear hc hb hX0 hC0 hN0 hR0 hX1 hC1 hN1 hR1 hcs c0 c1 c2
    cases ho : rdL 6 (rdCase 7) s1 with
    | none =>
      have hc := get_bad hg ho
      have HO : Hid (rdSite 7 s = none) := Lib.hid (by simp [rdSite, p0.out, ho])
      clear ho
      go_wp2_with fail
      refine hc.mono ?_
      rintro e w2 ⟨rfl, hb, s', hS⟩
      exact ⟨rfl, post_bad HO.out (hN2.next hb) hS⟩
    | some q =>
      obtain ⟨cs, s2⟩ := q
      have hc := get_ok hg ho
      have HO : Hid (rdSite 7 s = some (⟨cs, d⟩, s2)) := Lib.hid (by simp [rdSite, p0.out, ho])
      clear ho hg
      go_wp2_with fail
      refine hc.mono ?_
      rintro e w3 ⟨v, rfl, hO, hb, hR3⟩
      obtain ⟨ga, gc, rfl⟩ := owns_slice hO
      have hC3 := hC2.over hR2 (by decide) hb
      have hN3 := hN2.next hb
      have d0 := hC3.cell (k := 0) (v := .slice none 0 0) rfl
      have g0 := hC3.frozen 0
      have hcs := But.cellset (W := w3) (B := w.heap.size + 1) (k := 0) (v := .slice ga cs.length gc)
      have hC4 := hC3.set 0 (.slice ga cs.length gc)
      have hR4 := hR3.beside hC3 (by decide) hcs
      have hN4 := rbut_own hN3 hcs (by simp)
      have hO4 := owns_beside (k := 0) hO (show w3.heap[w.heap.size + 1]? = _ from hC3) (by decide) (.slice ga cs.length gc)
      have q0 := hC4.cell (k := 0) (v := .slice ga cs.length gc) rfl
      have q1 := hC4.cell (k := 1) (v := .bool d) rfl
      have z0 := hC4.frozen 0
      have z1 := hC4.frozen 1
      have hC5 := (hC4.set 0 (.slice ga cs.length gc)).set 1 (.bool d)
      have hcs5 : But [w.heap.size + 1] (w3.setCell ⟨w.heap.size + 1, 0, none⟩ (.slice ga cs.length gc)) (((w3.setCell ⟨w.heap.size + 1, 0, none⟩ (.slice ga cs.length gc)).setCell ⟨w.heap.size + 1, 0, none⟩ (.slice ga cs.length gc)).setCell ⟨w.heap.size + 1, 1, none⟩ (.bool d)) := ((But.refl [w.heap.size + 1] _).set (p := ⟨w.heap.size + 1, 0, none⟩) (.inl (by simp)) _).set (p := ⟨w.heap.size + 1, 1, none⟩) (.inl (by simp)) _
      have hR5 := hR4.beside hC4 (by decide) hcs5
      have hN5 := rbut_own hN4 hcs5 (by simp)
      have hO5 := owns_beside (k := 1) (owns_beside (k := 0) hO4 (show (w3.setCell ⟨w.heap.size + 1, 0, none⟩ (.slice ga cs.length gc)).heap[w.heap.size + 1]? = _ from hC4) (by decide) (.slice ga cs.length gc)) (show ((w3.setCell ⟨w.heap.size + 1, 0, none⟩ (.slice ga cs.length gc)).setCell ⟨w.heap.size + 1, 0, none⟩ (.slice ga cs.length gc)).heap[w.heap.size + 1]? = _ from hC4.set 0 (.slice ga cs.length gc)) (by decide) (.bool d)
      have y0 := hC5.cell (k := 0) (v := .slice ga cs.length gc) rfl
      have y1 := hC5.cell (k := 1) (v := .bool d) rfl
      clear hc hb hC2 hC3 hC4 hC5 hN3 hN4 hR4 hO4 hcs hcs5 hR2 hX2 hN2 e0 e1 e2
      go_wp2_with fail
      refine bodyPost_ret (v := .agg #[.slice ga cs.length gc, .bool d]) (by simp [results, Tryz.f27, go_sem, y0, y1]) rfl ?_
      exact post_ok HO.out ⟨ga, gc, rfl, owns_base hO5 (by simpa using hs2)⟩ hN5 hR5
end Go.Proofs.YtakgcienodigpaaGreat
