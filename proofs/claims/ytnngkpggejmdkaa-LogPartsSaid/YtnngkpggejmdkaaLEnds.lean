/-
  The law LogEnds.
-/
import Derived.Test.YtnngkpggejmdkaaLAlive
import Derived.Test.YtnngkpggejmdkaaLSmall
import Derived.Test.YtnngkpggejmdkaaLDoor
namespace Go.Proofs.Ytnngkpggejmdkaa
open Go.RowKit

theorem tells_calls {K : Nat} {args : Array Value} {w : World} {xs : List En} {P : En → Bool} (h : Calls Try.prog K args w (Tells w xs P)) :
    Calls Try.prog K args w fun e w' => ∃ a c, e = .returned (.slice a (xs.filter P).length c) ∧ EnRow w' (.slice a (xs.filter P).length c) (xs.filter P) ∧ Below w.heap.size w w' := by
  refine h.mono ?_
  rintro e w' ⟨v, rfl, h1, h2⟩
  obtain ⟨a, c, rfl⟩ := owns_slice h1
  exact ⟨a, c, rfl, EnRow.of_owns h1, h2⟩
theorem all_any {b B : Nat} {lv : Value} {xs : List En} (w : World) (hL : LogAt w b B lv xs) (hl : xs.length ≤ 1000) (hx : ∀ x ∈ xs, x.ok) :
    Calls Try.prog 8 #[.pointer (some ⟨B, 0, none⟩)] w fun e w' => ∃ a c, e = .returned (.slice a xs.length c) ∧ EnRow w' (.slice a xs.length c) xs ∧ Below w.heap.size w w' := by
  have h := tells_calls (list_any w hL hl hx)
  rwa [filt_all] at h
theorem zero_eq {z : Int} (h : z ≠ 0) : (z == 0) = false := by simpa using h

set_option maxRecDepth 100000 in
set_option maxHeartbeats 4000000 in
theorem ends_any (v : Value) (l : List En) (w : World) (hr : EnRow w v l) (hok : ∀ x ∈ l, x.ok) :
    Calls Try.prog 4 #[v] w fun e w' => e = .returned (.bool true) ∧ Below w.heap.size w w' := by
  obtain ⟨a, c, rfl⟩ := hr.slice
  go_enter Try.func4, Try.ntmps4
  by_cases h200 : l.length ≤ 200
  case neg =>
    have hgt : (200 : Int) < (l.length : Int) := by omega
    clear hr
    go_wp2_with fail
    refine (lalive_any _).mono ?_
    rintro e w1 ⟨rfl, hb⟩
    go_wp2_with fail
    go_ret
    exact ⟨rfl, hb⟩
  case pos =>
  have hle : ¬ (200 : Int) < (l.length : Int) := by omega
  have hnew := new_any w
  obtain ⟨B, hB⟩ : ∃ B, B = w.heap.size := ⟨_, rfl⟩
  rw [← hB] at hnew
  have hBw : w.heap.size ≤ B := by omega
  clear hB
  go_wp2_with fail
  refine hnew.mono ?_
  clear hnew
  rintro e w1 ⟨rfl, hL1, hb1⟩
  have hb1' : Below w.heap.size w w1 := hb1.mono hBw
  go_wp2_with fail
  go_loopw [4] (fun iv wr => ∃ (i : Nat) (xs : List En) (u : Value), iv = .int .i64 (i : Int) ∧ i ≤ l.length ∧ LogAt wr B B u xs ∧ Hid (Good xs) ∧ xs.length ≤ i ∧ (∀ x ∈ xs, x.ok) ∧ Below w.heap.size w wr) (fun iv _ => l.length - (intOf iv).toNat)
  case atStart => exact ⟨0, [], _, rfl, Nat.zero_le _, hL1, Lib.hid good_nil, Nat.le_refl _, by simp, hb1'⟩
  case round =>
    clear hL1 hb1 hb1'
    obtain ⟨i, xs, u, rfl, hi, hL, HG, hxl, hxo, hbl⟩ := hrel
    by_cases hlt : i < l.length
    · have hlt' : (i : Int) < (l.length : Int) := by omega
      have q0 : (0 : Int) ≤ (i : Int) := by omega
      obtain ⟨x, hx⟩ : ∃ x, l[i]? = some x := ⟨_, List.getElem?_eq_getElem hlt⟩
      have hxk := hok x (List.mem_of_getElem? hx)
      have hce := ended_any wr hL (by omega) hxo
      have HGn := Lib.hid (good_put HG.out x)
      have hxon := putX_mem hxo hxk
      have hxln := putX_len xs x
      have HE0 : Hid (endedB xs = true → putE xs x ≠ 0) := Lib.hid putE_ended
      generalize endedB xs = eb at hce HE0
      go_wp2_with fail
      refine hce.mono ?_
      clear hce
      rintro e w2 ⟨rfl, hb2⟩
      have hL2 := hL.below hb2
      have hbl2 := below_nx hbl hb2 (Nat.le_refl _)
      have hcp := put_any x w2 hL2 (by omega) hxo hxk (Nat.le_of_lt hL2.lt)
      unfold En.val at hcp
      obtain ⟨b1, o1, rfl, _, x0, x1, x2, x3, x4, x5, x6, x7, x8, x9, x10, x11, x12⟩ := (hr.below hbl2).at hx
      have HX := Lib.hid hx
      clear hx hL hbl hb2
      go_wp2_with fail
      refine hcp.mono ?_
      clear hcp
      rintro e w3 ⟨rfl, u3, hL3, hb3, _⟩
      have hbl3 := but_low hbl2 hL2 hb3 (Nat.le_refl _) hBw hBw
      clear x0 x1 x2 x3 x4 x5 x6 x7 x8 x9 x10 x11 x12 hL2 hbl2 hb3
      cases eb with
      | true =>
        have hz := zero_eq (HE0.out rfl)
        generalize putE xs x = q at hz
        go_wp2_with fail
        go_roundw
        case rel => exact ⟨i + 1, _, u3, by go_num, by omega, hL3, HGn, by omega, hxon, hbl3⟩
        case measure => simp [intOf]; omega
      | false =>
        generalize putE xs x = q
        go_wp2_with fail
        go_roundw
        case rel => exact ⟨i + 1, _, u3, by go_num, by omega, hL3, HGn, by omega, hxon, hbl3⟩
        case measure => simp [intOf]; omega
    · have hlt' : ¬ (i : Int) < (l.length : Int) := by omega
      have hxl2 : xs.length ≤ 200 := by omega
      clear hxl hlt hr hok
      have hcc := tells_calls (commits_any wr hL (by omega) hxo)
      have HF : Hid (∀ (j : Nat) (x : En), (xs.filter isCom)[j]? = some x → x.k = 11 → j + 1 = (xs.filter isCom).length) := Lib.hid fun j x h1 h2 => some_last HG.out isCom h1 h2
      have hcl : (xs.filter isCom).length ≤ 200 := Nat.le_trans (List.length_filter_le _ _) hxl2
      generalize xs.filter isCom = cs at hcc HF hcl
      go_wp2_with fail
      refine hcc.mono ?_
      clear hcc
      rintro e w2 ⟨ca, cc, rfl, hcr, hb2⟩
      have hL2 := hL.below hb2
      have hbl2 := below_nx hbl hb2 (Nat.le_refl _)
      clear hL hbl hb2
      go_wp2_with fail
      go_loopw [8] (fun jv wr2 => ∃ j : Nat, jv = .int .i64 (j : Int) ∧ j ≤ cs.length ∧ wr2 = w2) (fun jv _ => cs.length - (intOf jv).toNat)
      case atStart => exact ⟨0, rfl, Nat.zero_le _, rfl⟩
      case round =>
        obtain ⟨j, rfl, hj, rfl⟩ := hrel
        by_cases hjt : j < cs.length
        · have hjt' : (j : Int) < (cs.length : Int) := by omega
          have q0 : (0 : Int) ≤ (j : Int) := by omega
          have hw : IntKind.i64.wrap ((cs.length : Int) - 1) = (cs.length : Int) - 1 := by rw [IntKind.wrap_i64]; omega
          obtain ⟨x, hx⟩ : ∃ x, cs[j]? = some x := ⟨_, List.getElem?_eq_getElem hjt⟩
          obtain ⟨b1, o1, rfl, _, x0, x1, _⟩ := hcr.at hx
          by_cases hk : x.k = 11
          · have hke : ((x.k : Int) == 11) = true := by rw [hk]; rfl
            have hjl := HF.out j x hx hk
            have hjn : ((j : Int) != (cs.length : Int) - 1) = false := by simp; omega
            clear hx hk hjl
            go_wp2_with fail
            go_roundw
            case rel => exact ⟨j + 1, by go_num, by omega, by first | rfl | trivial⟩
            case measure => simp [intOf]; omega
          · have hke : ((x.k : Int) == 11) = false := by simp; omega
            clear hx hk
            go_wp2_with fail
            go_roundw
            case rel => exact ⟨j + 1, by go_num, by omega, by first | rfl | trivial⟩
            case measure => simp [intOf]; omega
        · have hjt' : ¬ (j : Int) < (cs.length : Int) := by omega
          clear HF hcr hjt
          have hla := all_any wr hL2 (by omega) hxo
          go_wp2_with fail
          refine hla.mono ?_
          clear hla
          rintro e w3 ⟨la, lc, rfl, hlr, hb3⟩
          have hL3 := hL2.below hb3
          have hbl3 := below_nx hbl2 hb3 (Nat.le_refl _)
          have hfr := from_any _ xs w3 hlr (by omega) hxo HG.out
          obtain ⟨Y, hY⟩ : ∃ Y, Y = w3.heap.size := ⟨_, rfl⟩
          rw [← hY] at hfr
          have HYl : Hid (w.heap.size ≤ Y) := Lib.hid (by rw [hY]; exact hbl3.size)
          have hb34 : ∀ W, Below Y w3 W → Below w3.heap.size w3 W := fun W h => by rw [hY] at h; exact h
          clear hY hL2 hbl2 hb3 hlr
          go_wp2_with fail
          refine hfr.mono ?_
          clear hfr
          rintro e w4 ⟨rfl, ⟨u4, hM4⟩, hb4'⟩
          have hb4 := hb34 _ hb4'
          have hL4 := hL3.below hb4
          have hbl4 := below_nx hbl3 hb4 (Nat.le_refl _)
          have hc5 := all_any w4 hM4 (by omega) hxo
          clear hL3 hbl3 hb4' hb4 hb34
          go_wp2_with fail
          refine hc5.mono ?_
          clear hc5
          rintro e w5 ⟨a5, d5, rfl, hr5, hb5⟩
          have hL5 := hL4.below hb5
          have hM5 := hM4.below hb5
          have hbl5 := below_nx hbl4 hb5 (Nat.le_refl _)
          have hc6 := all_any w5 hL5 (by omega) hxo
          clear hL4 hM4 hbl4 hb5
          go_wp2_with fail
          refine hc6.mono ?_
          clear hc6
          rintro e w6 ⟨a6, d6, rfl, hr6, hb6⟩
          have hL6 := hL5.below hb6
          have hM6 := hM5.below hb6
          have hbl6 := below_nx hbl5 hb6 (Nat.le_refl _)
          have hc7 := same_any _ _ xs xs w6 (hr5.below hb6) hr6 (by omega) (by omega)
          have ht : decide (xs = xs) = true := by simp
          rw [ht] at hc7
          clear hL5 hM5 hbl5 hb6 hr5 hr6 ht
          go_wp2_with fail
          refine hc7.mono ?_
          clear hc7
          rintro e w7 ⟨rfl, hb7⟩
          have hL7 := hL6.below hb7
          have hM7 := hM6.below hb7
          have hbl7 := below_nx hbl6 hb7 (Nat.le_refl _)
          have hc8 := ended_any w7 hM7 (by omega) hxo
          clear hL6 hM6 hbl6 hb7
          go_wp2_with fail
          refine hc8.mono ?_
          clear hc8
          rintro e w8 ⟨rfl, hb8⟩
          have hL8 := hL7.below hb8
          have hM8 := hM7.below hb8
          have hbl8 := below_nx hbl7 hb8 (Nat.le_refl _)
          have hc9 := ended_any w8 hL8 (by omega) hxo
          clear hL7 hM7 hbl7 hb8
          go_wp2_with fail
          refine hc9.mono ?_
          clear hc9
          rintro e w9 ⟨rfl, hb9⟩
          have hL9 := hL8.below hb9
          have hM9 := hM8.below hb9
          have hbl9 := below_nx hbl8 hb9 (Nat.le_refl _)
          have hc10 := end_any w9 hM9 (by omega) hxo
          clear hL8 hM8 hbl8 hb9
          generalize endedB xs = eb
          go_wp2_with fail
          refine hc10.mono ?_
          clear hc10
          rintro e w10 ⟨rfl, hb10⟩
          have hL10 := hL9.below hb10
          have hbl10 := below_nx hbl9 hb10 (Nat.le_refl _)
          have hc11 := end_any w10 hL10 (by omega) hxo
          clear hL9 hM9 hbl9 hb10
          go_wp2_with fail
          refine hc11.mono ?_
          clear hc11
          rintro e w11 ⟨rfl, hb11⟩
          have hbl11 := below_nx hbl10 hb11 (Nat.le_refl _)
          clear hL10 hbl10 hb11
          generalize endV xs = ev
          go_wp2_with fail
          refine (lalive_any _).mono ?_
          rintro e w12 ⟨rfl, hb12⟩
          have hbl12 := below_nx hbl11 hb12 (Nat.le_refl _)
          go_wp2_with fail
          go_ret
          exact ⟨rfl, hbl12⟩
end Go.Proofs.Ytnngkpggejmdkaa
