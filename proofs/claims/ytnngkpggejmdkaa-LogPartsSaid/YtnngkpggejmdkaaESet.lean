/-
  The walks of set.bit, Has, Of.
-/
import Derived.Test.YtnngkpggejmdkaaSMath
import Derived.Test.YtnngkpggejmdkaaEBase
namespace Go.Proofs.Ytnngkpggejmdkaa
open Go.RowKit SetM

theorem below_nx {n : Nat} {w w1 w2 : World} (h : Below n w w1) (k : Below w1.heap.size w1 w2) (hn : n ≤ w.heap.size) : Below n w w2 :=
  ⟨k.os.trans h.os, k.tape.trans h.tape, k.output.trans h.output, Nat.le_trans h.size k.size, fun i hi => (k.block i (Nat.lt_of_lt_of_le hi (Nat.le_trans hn h.size))).trans (h.block i hi)⟩
theorem ret_hu {x y : Int} {w : World} (h : Hid (x = y)) : Ending.returned (.int .u64 x) = .returned (.int .u64 y) ∧ w = w := ⟨by rw [h.out], rfl⟩
theorem ret_hb {x y : Bool} {w : World} (h : Hid (x = y)) : Ending.returned (.bool x) = .returned (.bool y) ∧ w = w := ⟨by rw [h.out], rfl⟩
theorem bit_any (k : Int) (h1 : -9223372036854775808 ≤ k) (h2 : k ≤ 9223372036854775807) (w : World) :
    Calls Try.prog 50 #[.int .i64 k] w fun e w' => e = .returned (.int .u64 (bitOf k : Nat)) ∧ w' = w := by
  go_enter Try.func50, Try.ntmps50
  by_cases hneg : k < 0
  · go_wp2_with fail
    go_ret
    rw [bitOf_out (by omega)]
    exact ⟨rfl, rfl⟩
  · have HE := Lib.hid (shl_bit (k := k) (by omega))
    go_wp2_with fail
    go_ret
    exact ret_hu HE

theorem has_any (s : Nat) (k : Int) (hs : s < 18446744073709551616) (h1 : -9223372036854775808 ≤ k) (h2 : k ≤ 9223372036854775807) (w : World) :
    Calls Try.prog 46 #[.int .u64 s, .int .i64 k] w fun e w' => e = .returned (.bool (has s k)) ∧ w' = w := by
  have HE := Lib.hid (and_has hs k)
  go_enter Try.func46, Try.ntmps46
  go_wp2_with fail
  refine (bit_any k h1 h2 _).mono ?_
  rintro e w1 ⟨rfl, rfl⟩
  go_wp2_with fail
  go_ret
  exact ret_hb HE

/-- The slice value v reads as the numbers xs. -/
def RowI (w : World) (v : Value) (xs : List Int) : Prop :=
  (xs = [] ∧ ∃ a cap, v = .slice a 0 cap) ∨
  (∃ b off cap, v = .slice (some ⟨b, off, none⟩) xs.length cap ∧ 0 < xs.length ∧ b < w.heap.size ∧ ∀ j, j < xs.length → w.cell? ⟨b, off + j, none⟩ = some (.int .i64 (xs[j]?.getD 0)))

theorem RowI.below {w w' : World} {v : Value} {xs : List Int} (h : RowI w v xs) (hb : Below w.heap.size w w') : RowI w' v xs := by
  rcases h with h | ⟨b, off, cap, h1, h0, h2, h3⟩
  · exact .inl h
  · exact .inr ⟨b, off, cap, h1, h0, Nat.lt_of_lt_of_le h2 hb.size, fun j hj => (hb.cell (p := ⟨b, off + j, none⟩) h2).trans (h3 j hj)⟩

theorem take_snocI (xs : List Int) (k : Nat) (hk : k < xs.length) : xs.take (k + 1) = xs.take k ++ [xs[k]?.getD 0] := by
  rw [List.take_add_one, List.getElem?_eq_getElem hk]; rfl
theorem mem_of_getDI {xs : List Int} {k : Nat} (h : k < xs.length) : xs[k]?.getD 0 ∈ xs := by rw [List.getElem?_eq_getElem h]; simp
/-- Each one is an int. -/
def Ints (xs : List Int) : Prop := ∀ x ∈ xs, -9223372036854775808 ≤ x ∧ x ≤ 9223372036854775807

theorem of_any (v : Value) (xs : List Int) (w : World) (hr : RowI w v xs) (hx : Ints xs) (hlen : xs.length ≤ 1000) :
    Calls Try.prog 38 #[v] w fun e w' => e = .returned (.int .u64 (ofL xs : Nat)) ∧ w' = w := by
  rcases hr with ⟨rfl, a, cap, rfl⟩ | ⟨b, off, cap, rfl, h0, hb, hc⟩
  · go_enter Try.func38, Try.ntmps38
    go_wp2_with fail
    refine wp_loop_rounds 1 ?_
    rw [rounds_succ]
    go_wp2_with fail
    go_ret
    exact ⟨rfl, rfl⟩
  · go_enter Try.func38, Try.ntmps38
    go_wp2_with fail
    go_loop [2, 7] (fun sv i => ∃ k s : Nat, k ≤ xs.length ∧ i = .int .i64 k ∧ sv = .int .u64 s ∧ s < 18446744073709551616 ∧ Hid (s = ofL (xs.take k))) (fun _ i => xs.length - (intOf i).toNat)
    case atStart => exact ⟨0, 0, Nat.zero_le _, rfl, rfl, by omega, Lib.hid rfl⟩
    case round =>
      obtain ⟨k, s, hk, rfl, rfl, hs, HS⟩ := hrel
      by_cases hlt : k < xs.length
      · have hlt' : (k : Int) < (xs.length : Int) := by omega
        have hcell : w.cell? ⟨b, off + k, none⟩ = some (.int .i64 (xs[k]?.getD 0)) := hc k hlt
        have hxk := hx _ (mem_of_getDI hlt)
        have HT := Lib.hid (take_snocI xs k hlt)
        obtain ⟨x, hxe⟩ : ∃ x, x = xs[k]?.getD 0 := ⟨_, rfl⟩
        rw [← hxe] at hcell hxk HT
        clear hxe hc
        have HO : Hid (withN s x = ofL (xs.take (k + 1))) := Lib.hid (by rw [HT.out, ofL_snoc, HS.out])
        have hor := or_with hs x
        have hwl := withN_lt hs x
        go_wp2_with fail
        refine (bit_any x hxk.1 hxk.2 _).mono ?_
        rintro e w1 ⟨rfl, rfl⟩
        go_wp2_with fail
        go_round
        case rel => exact ⟨k + 1, withN s x, by omega, by go_num, rfl, hwl, HO⟩
        case measure => simp [intOf]; omega
      · have hlt' : ¬ (k : Int) < (xs.length : Int) := by omega
        obtain rfl : k = xs.length := by omega
        have HF : Hid ((s : Int) = (ofL xs : Nat)) := Lib.hid (by have := HS.out; rw [List.take_length] at this; rw [this])
        clear hc hx hlt
        go_wp2_with fail
        go_ret
        exact ret_hu HF
/-- A slice that is written out. -/
theorem of_lit (w : World) (b : Nat) (cs : Array Value) (n : Nat) (hbw : b = w.heap.size) (hn : n = cs.size) (hc : cs = (cs.toList.map fun v => Value.int .i64 (intOf v)).toArray) (hb : Ints (cs.toList.map intOf)) (hs : n ≤ 1000) (h0 : 0 < n) :
    Calls Try.prog 38 #[.slice (some ⟨b, 0, none⟩) n n] (w.alloc (.cells cs 3)) fun e w' => e = .returned (.int .u64 (ofL (cs.toList.map intOf) : Nat)) ∧ w' = w.alloc (.cells cs 3) := by
  subst hbw
  have hl : (cs.toList.map intOf).length = n := by rw [List.length_map, hn]; simp
  refine of_any _ _ _ (.inr ⟨w.heap.size, 0, n, by rw [hl], by rw [hl]; exact h0, by simp, fun j hj => ?_⟩) hb (by rw [hl]; exact hs)
  rw [hl] at hj
  simp only [World.cell?, World.alloc_heap_new]
  rw [Nat.zero_add]
  have : cs[j]? = some (Value.int .i64 ((cs.toList.map intOf)[j]?.getD 0)) := by
    rw [hc]
    simp only [List.getElem?_toArray, List.getElem?_map]
    have hj' : j < cs.toList.length := by simpa [← hn] using hj
    rw [List.getElem?_eq_getElem (by simpa using hj')]
    simp [intOf]
  simpa using this
end Go.Proofs.Ytnngkpggejmdkaa
