/-
  The walks of getRow of sites, codes.
-/
import Derived.Test.YtakgcienodigpaaGreatKGetR
namespace Go.Proofs.YtakgcienodigpaaGreat
open Go.RowKit Oct

set_option maxRecDepth 100000 in
set_option maxHeartbeats 1600000 in
theorem getRowSite_any (pb Bs kb M : Nat) (s : List UInt8) (w : World) (h : Rdr w pb Bs kb M s) :
    Calls Tryz.prog 26 #[.agg #[F1 pb, F2 pb, F3 kb], .int .i64 12, .func (.func 27) #[] #[]] w (GetPost w pb Bs kb M (fun W v (l : List Sit) => OwnSites w.heap.size W v l) (rdL 12 (rdSite 7) s)) := by
  obtain ⟨u1, u2, u3, u4⟩ := h.lt
  obtain ⟨i0, hi, hz0, hz1, hz2⟩ := info_parts infoSite
  obtain ⟨hR, hX, hb0⟩ := rbox h
  have c0 := hX.cell (k := 0) (v := F1 pb) rfl
  have hnum := number_any 12 pb Bs kb M s (by omega) _ hR
  cases ho : rdN 12 s with
  | none =>
    have hc := get_bad hnum ho
    have HO := Lib.hid (rdL_bad (f := rdSite 7) ho)
    clear ho
    go_enter Tryz.func26, Tryz.ntmps26
    go_wp2_with fail
    refine hc.mono ?_
    rintro e w1 ⟨rfl, hb, s', hS⟩
    exact ⟨rfl, post_bad HO.out (hb0.next hb) hS⟩
  | some q =>
    obtain ⟨n, r0⟩ := q
    have hc := get_ok hnum ho
    have hnm : n ≤ 12 := (rdN_some.1 ho).2
    have HO := Lib.hid ho
    clear ho hnum
    go_enter Tryz.func26, Tryz.ntmps26
    go_wp2_with fail
    refine hc.mono ?_
    rintro e w1 ⟨v, rfl, rfl, hb, hR1⟩
    have hX1 := hX.over hR (by decide) hb
    have hN1 : RBut Bs M w w1 := hb0.next hb
    have hs1 := hN1.size
    have HO2 : Hid (rdRow (rdSite 7) n r0 = (rdRow (rdSite 7) (n - 0) r0).map fun q => ([] ++ q.1, q.2)) := Lib.hid (by simp)
    clear hc hb hX hR c0 hb0
    go_wp2_with fail
    go_loopw [6, 11] (fun lv iv wr => ∃ (k : Nat) (pre : List Sit) (r : List UInt8), k ≤ n ∧ iv = .int .i64 (k : Int) ∧ OwnSites w.heap.size wr lv pre ∧ Rdr wr pb Bs kb M r ∧ RBut Bs M w wr ∧ Blk wr w.heap.size 61 #[F1 pb, F2 pb, F3 kb] ∧ Hid (pre.length = k) ∧ Hid (rdRow (rdSite 7) n r0 = (rdRow (rdSite 7) (n - k) r).map fun q => (pre ++ q.1, q.2))) (fun _ iv _ => n - (intOf iv).toNat)
    case atStart => exact ⟨0, [], r0, Nat.zero_le _, rfl, ⟨[], World.ownsRow_nil _ _ _ _, by simp⟩, hR1, hN1, hX1, Lib.hid rfl, HO2⟩
    case round =>
      clear HO2 hR1 hN1 hX1 hs1
      obtain ⟨k, pre, r, hk, rfl, hO, hRr, hNr, hXr, HL, HP⟩ := hrel
      by_cases hlt : k < n
      · have hlt' : (k : Int) < (n : Int) := by omega
        have hw2 : IntKind.i64.wrap ((k : Int) + 1) = (k : Int) + 1 := by rw [IntKind.wrap_i64]; omega
        have c0 := hXr.cell (k := 0) (v := F1 pb) rfl
        have c1 := hXr.cell (k := 1) (v := F2 pb) rfl
        have c2 := hXr.cell (k := 2) (v := F3 kb) rfl
        have hsr := hNr.size
        have hone := getSite_any pb Bs kb M r _ hRr
        cases hr : (rdSite 7) r with
        | none =>
          have hc := get_bad hone hr
          have HB := Lib.hid (rdL_of (f := rdSite 7) HO.out (row_none hlt HP.out hr))
          clear hr hone
          go_wp2_with fail
          refine hc.mono ?_
          rintro e w2 ⟨rfl, hb, s', hS⟩
          exact ⟨rfl, post_bad HB.out (hNr.next hb) hS⟩
        | some q =>
          obtain ⟨x, r'⟩ := q
          have hc := get_ok hone hr
          have HP' := Lib.hid (row_next hlt HP.out hr)
          clear hr hone
          go_wp2_with fail
          refine hc.mono ?_
          rintro e w2 ⟨v, rfl, ⟨ga, gc, rfl, hu⟩, hb, hR2⟩
          have hO2 := hO.over hRr hb
          have hX2 := hXr.over hRr (by decide) hb
          have hN2 := hNr.next hb
          have hs2 := hN2.size
          clear hc hb c0 c1 c2 hO hXr hNr hRr
          have hu2 := owns_base hu hsr
          have hu3 := owns_fresh hu2 ((Below.refl _ w2).alloc (Nat.le_refl _) (.cells #[.slice ga x.cs.length gc, .bool x.d] 40))
          have hB3 : Below w2.heap.size w2 (w2.alloc (.cells #[.slice ga x.cs.length gc, .bool x.d] 40)) := (Below.refl _ _).alloc (Nat.le_refl _) _
          have hO3 : OwnSites w.heap.size (w2.alloc (.cells #[.slice ga x.cs.length gc, .bool x.d] 40)) _ pre := hO2.fresh hB3
          have hX3 := hX2.later hB3 hX2.lt
          have hB := blk_new w2 40 #[.slice ga x.cs.length gc, .bool x.d]
          have hpl : pre.length ≤ 1000 := by have := HL.out; omega
          obtain ⟨us, hrow, hsp⟩ := OwnSites.split hO3
          have hne : ∀ (j : Nat) u, ([.slice ga x.cs.length gc, .bool x.d] : List Value)[j]? = some u → (w2.alloc (.cells #[.slice ga x.cs.length gc, .bool x.d] 40)).cell? (Addr.add ⟨w2.heap.size, 0, none⟩ j) = some u := fun j u hj => by
            rw [show Addr.add ⟨w2.heap.size, 0, none⟩ j = ⟨w2.heap.size, j, none⟩ by by_cases e : j = 0 <;> simp [Addr.add, e]]
            exact hB.cell (by simpa using hj)
          go_wp2_with (at_builtin; refine wpList_append_own _ rfl _ _ 24 rfl w.heap.size 40 i0 (.agg #[.slice none 0 0, .bool false]) 2 32 Tryz.underlying24 hi hz0 hz1 hz2 rfl (by decide) _ _ _ rfl hrow ⟨w2.heap.size, 0, none⟩ 1 1 ([.slice ga x.cs.length gc, .bool x.d]) rfl rfl hne ?c2 ?c3 ?c4 ?c5 ?_)
          case c2 => intro u hu; simp at hu; rcases hu with rfl | rfl <;> rfl
          case c3 => unfold maxLen; omega
          case c4 => omega
          case c5 => first | omega | (simp; omega)
          intro v' w4 hown' hgrow _
          have hB4 : Below w.heap.size (w2.alloc (.cells #[.slice ga x.cs.length gc, .bool x.d] 40)) w4 := grown_below hrow hgrow (by simp; omega)
          have hX4 := grown_other hrow hgrow hX3 (by decide)
          have hR4 := (hR2.later hB3 (Nat.le_refl _)).under hB4 u1 u2 u3 u4
          have hN4 : RBut Bs M w w4 := but_below (hN2.next (But.of_below hB3 _)) hB4
          have hO4 := hsp _ _ _ x hu3 hown' hgrow
          have HL' : Hid ((pre ++ [x]).length = k + 1) := Lib.hid (by rw [List.length_append, HL.out]; rfl)
          clear hown' hgrow hrow hsp hO2 hO3 hX2 hX3 hN2 hR2 hB4 hB hB3 hne
          go_wp2_with fail
          go_roundw
          case rel => exact ⟨k + 1, pre ++ [x], r', by omega, by go_num, hO4, hR4, hN4, hX4, HL', HP'⟩
          case measure => simp [intOf]; omega
      · have hlt' : ¬ (k : Int) < (n : Int) := by omega
        have HE := Lib.hid (rdL_of (f := rdSite 7) HO.out (row_done hlt HP.out))
        go_wp2_with fail
        go_ret
        exact post_ok HE.out hO hNr hRr

set_option maxRecDepth 100000 in
set_option maxHeartbeats 1600000 in
theorem getRowCode_any (pb Bs kb M : Nat) (s : List UInt8) (w : World) (h : Rdr w pb Bs kb M s) :
    Calls Tryz.prog 28 #[.agg #[F1 pb, F2 pb, F3 kb], .int .i64 8, .func (.func 29) #[] #[]] w (GetPost w pb Bs kb M (fun W v (l : List (List In)) => OwnCodes w.heap.size W v l) (rdL 8 (rdCode 7) s)) := by
  obtain ⟨u1, u2, u3, u4⟩ := h.lt
  obtain ⟨i0, hi, hz0, hz1, hz2⟩ := info_parts infoCode
  obtain ⟨hR, hX, hb0⟩ := rbox h
  have c0 := hX.cell (k := 0) (v := F1 pb) rfl
  have hnum := number_any 8 pb Bs kb M s (by omega) _ hR
  cases ho : rdN 8 s with
  | none =>
    have hc := get_bad hnum ho
    have HO := Lib.hid (rdL_bad (f := rdCode 7) ho)
    clear ho
    go_enter Tryz.func28, Tryz.ntmps28
    go_wp2_with fail
    refine hc.mono ?_
    rintro e w1 ⟨rfl, hb, s', hS⟩
    exact ⟨rfl, post_bad HO.out (hb0.next hb) hS⟩
  | some q =>
    obtain ⟨n, r0⟩ := q
    have hc := get_ok hnum ho
    have hnm : n ≤ 8 := (rdN_some.1 ho).2
    have HO := Lib.hid ho
    clear ho hnum
    go_enter Tryz.func28, Tryz.ntmps28
    go_wp2_with fail
    refine hc.mono ?_
    rintro e w1 ⟨v, rfl, rfl, hb, hR1⟩
    have hX1 := hX.over hR (by decide) hb
    have hN1 : RBut Bs M w w1 := hb0.next hb
    have hs1 := hN1.size
    have HO2 : Hid (rdRow (rdCode 7) n r0 = (rdRow (rdCode 7) (n - 0) r0).map fun q => ([] ++ q.1, q.2)) := Lib.hid (by simp)
    clear hc hb hX hR c0 hb0
    go_wp2_with fail
    go_loopw [6, 11] (fun lv iv wr => ∃ (k : Nat) (pre : List (List In)) (r : List UInt8), k ≤ n ∧ iv = .int .i64 (k : Int) ∧ OwnCodes w.heap.size wr lv pre ∧ Rdr wr pb Bs kb M r ∧ RBut Bs M w wr ∧ Blk wr w.heap.size 61 #[F1 pb, F2 pb, F3 kb] ∧ Hid (pre.length = k) ∧ Hid (rdRow (rdCode 7) n r0 = (rdRow (rdCode 7) (n - k) r).map fun q => (pre ++ q.1, q.2))) (fun _ iv _ => n - (intOf iv).toNat)
    case atStart => exact ⟨0, [], r0, Nat.zero_le _, rfl, ⟨[], World.ownsRow_nil _ _ _ _, by simp⟩, hR1, hN1, hX1, Lib.hid rfl, HO2⟩
    case round =>
      clear HO2 hR1 hN1 hX1 hs1
      obtain ⟨k, pre, r, hk, rfl, hO, hRr, hNr, hXr, HL, HP⟩ := hrel
      by_cases hlt : k < n
      · have hlt' : (k : Int) < (n : Int) := by omega
        have hw2 : IntKind.i64.wrap ((k : Int) + 1) = (k : Int) + 1 := by rw [IntKind.wrap_i64]; omega
        have c0 := hXr.cell (k := 0) (v := F1 pb) rfl
        have c1 := hXr.cell (k := 1) (v := F2 pb) rfl
        have c2 := hXr.cell (k := 2) (v := F3 kb) rfl
        have hsr := hNr.size
        have hone := getCode_any pb Bs kb M r _ hRr
        cases hr : (rdCode 7) r with
        | none =>
          have hc := get_bad hone hr
          have HB := Lib.hid (rdL_of (f := rdCode 7) HO.out (row_none hlt HP.out hr))
          clear hr hone
          go_wp2_with fail
          refine hc.mono ?_
          rintro e w2 ⟨rfl, hb, s', hS⟩
          exact ⟨rfl, post_bad HB.out (hNr.next hb) hS⟩
        | some q =>
          obtain ⟨x, r'⟩ := q
          have hc := get_ok hone hr
          have HP' := Lib.hid (row_next hlt HP.out hr)
          clear hr hone
          go_wp2_with fail
          refine hc.mono ?_
          rintro e w2 ⟨v, rfl, hu, hb, hR2⟩
          have hO2 := hO.over hRr hb
          have hX2 := hXr.over hRr (by decide) hb
          have hN2 := hNr.next hb
          have hs2 := hN2.size
          clear hc hb c0 c1 c2 hO hXr hNr hRr
          obtain ⟨ga, gc, rfl⟩ := owns_slice hu
          have hu2 := owns_base hu hsr
          have hu3 := owns_fresh hu2 ((Below.refl _ w2).alloc (Nat.le_refl _) (.cells #[.slice ga x.length gc] 37))
          have hB3 : Below w2.heap.size w2 (w2.alloc (.cells #[.slice ga x.length gc] 37)) := (Below.refl _ _).alloc (Nat.le_refl _) _
          have hO3 : OwnCodes w.heap.size (w2.alloc (.cells #[.slice ga x.length gc] 37)) _ pre := hO2.fresh hB3
          have hX3 := hX2.later hB3 hX2.lt
          have hB := blk_new w2 37 #[.slice ga x.length gc]
          have hpl : pre.length ≤ 1000 := by have := HL.out; omega
          obtain ⟨us, hrow, hsp⟩ := OwnCodes.split hO3
          have hne : ∀ (j : Nat) u, ([.slice ga x.length gc] : List Value)[j]? = some u → (w2.alloc (.cells #[.slice ga x.length gc] 37)).cell? (Addr.add ⟨w2.heap.size, 0, none⟩ j) = some u := fun j u hj => by
            rw [show Addr.add ⟨w2.heap.size, 0, none⟩ j = ⟨w2.heap.size, j, none⟩ by by_cases e : j = 0 <;> simp [Addr.add, e]]
            exact hB.cell (by simpa using hj)
          go_wp2_with (at_builtin; refine wpList_append_own _ rfl _ _ 23 rfl w.heap.size 37 i0 (.slice none 0 0) 1 24 Tryz.underlying23 hi hz0 hz1 hz2 rfl (by decide) _ _ _ rfl hrow ⟨w2.heap.size, 0, none⟩ 1 1 ([.slice ga x.length gc]) rfl rfl hne ?c2 ?c3 ?c4 ?c5 ?_)
          case c2 => intro u hu; simp at hu; subst hu; rfl
          case c3 => unfold maxLen; omega
          case c4 => omega
          case c5 => first | omega | (simp; omega)
          intro v' w4 hown' hgrow _
          have hB4 : Below w.heap.size (w2.alloc (.cells #[.slice ga x.length gc] 37)) w4 := grown_below hrow hgrow (by simp; omega)
          have hX4 := grown_other hrow hgrow hX3 (by decide)
          have hR4 := (hR2.later hB3 (Nat.le_refl _)).under hB4 u1 u2 u3 u4
          have hN4 : RBut Bs M w w4 := but_below (hN2.next (But.of_below hB3 _)) hB4
          have hO4 := hsp _ _ _ x hu3 hown' hgrow
          have HL' : Hid ((pre ++ [x]).length = k + 1) := Lib.hid (by rw [List.length_append, HL.out]; rfl)
          clear hown' hgrow hrow hsp hO2 hO3 hX2 hX3 hN2 hR2 hB4 hB hB3 hne
          go_wp2_with fail
          go_roundw
          case rel => exact ⟨k + 1, pre ++ [x], r', by omega, by go_num, hO4, hR4, hN4, hX4, HL', HP'⟩
          case measure => simp [intOf]; omega
      · have hlt' : ¬ (k : Int) < (n : Int) := by omega
        have HE := Lib.hid (rdL_of (f := rdCode 7) HO.out (row_done hlt HP.out))
        go_wp2_with fail
        go_ret
        exact post_ok HE.out hO hNr hRr
end Go.Proofs.YtakgcienodigpaaGreat
