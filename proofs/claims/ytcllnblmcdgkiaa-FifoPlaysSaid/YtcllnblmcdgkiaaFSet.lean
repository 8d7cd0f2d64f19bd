/-
  Tasks as a set: the walks of set.bit, set.Of, fifo.Set and tollbarref08's Set.
-/
import Derived.Laws.ShiftsVarLaws
import Derived.Test.YtcllnblmcdgkiaaFRef
namespace Go.Proofs.Ytcllnblmcdgkiaa
open Go.RowKit

def bitOf (k : Int) : Nat := if 0 ≤ k ∧ k < 64 then 2 ^ k.toNat else 0
def withN (s : Nat) (k : Int) : Nat := s ||| bitOf k
def ofL (l : List Int) : Nat := l.foldl withN 0

theorem bitOf_in {k : Int} (h0 : 0 ≤ k) (h1 : k < 64) : bitOf k = 2 ^ k.toNat := by rw [bitOf, if_pos ⟨h0, h1⟩]
theorem bitOf_out {k : Int} (h : ¬ (0 ≤ k ∧ k < 64)) : bitOf k = 0 := by rw [bitOf, if_neg h]
theorem bitOf_lt (k : Int) : bitOf k < 18446744073709551616 := by
  by_cases h : 0 ≤ k ∧ k < 64
  · rw [bitOf_in h.1 h.2, show (18446744073709551616 : Nat) = 2 ^ 64 from rfl]
    exact Nat.pow_lt_pow_right (by decide) (by omega)
  · rw [bitOf_out h]; decide

theorem withN_lt {s : Nat} (hs : s < 18446744073709551616) (k : Int) : withN s k < 18446744073709551616 :=
  Nat.or_lt_two_pow (n := 64) hs (bitOf_lt k)
theorem ofL_lt (l : List Int) : ofL l < 18446744073709551616 := by
  have : ∀ (l : List Int) (s : Nat), s < 18446744073709551616 → l.foldl withN s < 18446744073709551616 := by
    intro l; induction l with
    | nil => intro s h; exact h
    | cons k l ih => intro s h; exact ih _ (withN_lt h k)
  exact this l 0 (by decide)
theorem ofL_snoc (l : List Int) (k : Int) : ofL (l ++ [k]) = withN (ofL l) k := by simp [ofL]

theorem shl_bit {k : Int} (h0 : 0 ≤ k) : IntKind.u64.wrap ((2 : Int) ^ min k.toNat 64) = (bitOf k : Nat) := by
  rw [IntKind.wrap_u64, u64_shl_one_var k h0]
  by_cases h : 64 ≤ k
  · rw [if_pos h, bitOf_out (by omega)]; rfl
  · rw [if_neg h, bitOf_in h0 (by omega)]; simp
theorem or_with {s : Nat} (hs : s < 18446744073709551616) (k : Int) : bits .or .u64 (s : Int) (bitOf k : Nat) = (withN s k : Nat) := u64_or_nat s (bitOf k) hs (bitOf_lt k)

theorem ret_u64 {x y : Int} {w : World} (h : Hid (x = y)) : Ending.returned (.int .u64 x) = .returned (.int .u64 y) ∧ w = w := ⟨by rw [h.out], rfl⟩
theorem bit_any (k : Int) (h1 : -9223372036854775808 ≤ k) (h2 : k ≤ 9223372036854775807) (w : World) :
    Calls Try.prog 30 #[.int .i64 k] w fun e w' => e = .returned (.int .u64 (bitOf k : Nat)) ∧ w' = w := by
  go_enter Try.func30, Try.ntmps30
  by_cases hneg : k < 0
  · go_wp2_with fail
    go_ret
    rw [bitOf_out (by omega)]
    exact ⟨rfl, rfl⟩
  · have HE := Lib.hid (shl_bit (k := k) (by omega))
    go_wp2_with fail
    go_ret
    exact ret_u64 HE

theorem mem_of_getDI {xs : List Int} {k : Nat} (h : k < xs.length) : xs[k]?.getD 0 ∈ xs := by rw [List.getElem?_eq_getElem h]; simp
theorem of_any (v : Value) (xs : List Int) (w : World) (hr : RowI w v xs) (hx : Ints xs) (hlen : xs.length ≤ 1000) :
    Calls Try.prog 28 #[v] w fun e w' => e = .returned (.int .u64 (ofL xs : Nat)) ∧ w' = w := by
  rcases hr with ⟨rfl, a, cap, rfl⟩ | ⟨b, off, cap, rfl, h0, hb, hc⟩
  · go_enter Try.func28, Try.ntmps28
    go_wp2_with fail
    refine wp_loop_rounds 1 ?_
    rw [rounds_succ]
    go_wp2_with fail
    go_ret
    exact ⟨rfl, rfl⟩
  · go_enter Try.func28, Try.ntmps28
    go_wp2_with fail
    go_loop [2, 7] (fun sv i => ∃ k s : Nat, k ≤ xs.length ∧ i = .int .i64 k ∧ sv = .int .u64 s ∧ s < 18446744073709551616 ∧ Hid (s = ofL (xs.take k))) (fun _ i => xs.length - (intOf i).toNat)
    case atStart => exact ⟨0, 0, Nat.zero_le _, rfl, rfl, by omega, Lib.hid rfl⟩
    case round =>
      obtain ⟨k, s, hk, rfl, rfl, hs, HS⟩ := hrel
      by_cases hlt : k < xs.length
      · have hlt' : (k : Int) < (xs.length : Int) := by omega
        have hcell : w.cell? ⟨b, off + k, none⟩ = some (.int .i64 (xs[k]?.getD 0)) := hc k hlt
        have hxk := hx _ (mem_of_getDI hlt)
        have HT := Lib.hid (take_snocI xs k hlt)
        obtain ⟨x, hxe⟩ : ∃ x, x = xs[k]?.getD 0 := ⟨_, rfl⟩
        rw [← hxe] at hcell hxk HT
        clear hxe hc
        have HO : Hid (withN s x = ofL (xs.take (k + 1))) := Lib.hid (by rw [HT.out, ofL_snoc, HS.out])
        have hor := or_with hs x
        have hwl := withN_lt hs x
        go_wp2_with fail
        refine (bit_any x hxk.1 hxk.2 _).mono ?_
        rintro e w1 ⟨rfl, rfl⟩
        go_wp2_with fail
        go_round
        case rel => exact ⟨k + 1, withN s x, by omega, by go_num, rfl, hwl, HO⟩
        case measure => simp [intOf]; omega
      · have hlt' : ¬ (k : Int) < (xs.length : Int) := by omega
        obtain rfl : k = xs.length := by omega
        have HF : Hid ((s : Int) = (ofL xs : Nat)) := Lib.hid (by have := HS.out; rw [List.take_length] at this; rw [this])
        clear hc hx hlt
        go_wp2_with fail
        go_ret
        exact ret_u64 HF


theorem ret_u {x y : Int} (h : x = y) : Ending.returned (.int .u64 x) = .returned (.int .u64 y) := by rw [h]
theorem set_of (p : Option Addr) (ys : List Int) (hl : ys.length ≤ 32) (hr : ∀ x ∈ ys, 0 ≤ x ∧ x < 32) (w : World)
    (hlist : Calls Try.prog 17 #[.pointer p] w fun e w' => ∃ v, e = .returned v ∧ w'.ownsRow w.heap.size 3 1 v ys.length (I64 ys) ∧ Below w.heap.size w w') :
    Calls Try.prog 23 #[.pointer p] w fun e w' => e = .returned (.int .u64 (ofL ys : Nat)) ∧ Below w.heap.size w w' := by
  have hx : Ints ys := fun x hx => by have := hr x hx; omega
  go_enter Try.func23, Try.ntmps23
  go_wp2_with fail
  refine hlist.mono ?_
  rintro e w1 ⟨v, rfl, hown, hb⟩
  have hrow := RowI.of_owns hown
  clear hown
  go_wp2_with fail
  refine (of_any v ys _ hrow hx (by omega)).mono ?_
  rintro e w2 ⟨rfl, rfl⟩
  go_wp2_with fail
  go_ret
  exact ⟨rfl, hb⟩
theorem set_any {B m : Nat} {ys : List Int} (w : World) (h : Fif w B m ys) :
    Calls Try.prog 23 #[.pointer (some ⟨B, 0, none⟩)] w fun e w' => e = .returned (.int .u64 (ofL ys : Nat)) ∧ Below w.heap.size w w' :=
  set_of _ ys (by have := h.le; have := h.most; omega) h.rng w (list_any w h)
theorem set_nil (w : World) :
    Calls Try.prog 23 #[.pointer none] w fun e w' => e = .returned (.int .u64 0) ∧ Below w.heap.size w w' :=
  set_of _ [] (by simp) (by simp) w (list_of _ _ w (iter_none w))

set_option maxHeartbeats 800000 in
theorem rset_any {R m : Nat} {xs : List Int} (w : World) (h : RefF w R m xs) (hl : xs.length ≤ 32) (hr : ∀ x ∈ xs, 0 ≤ x ∧ x < 32) :
    Calls Try.prog 26 #[.pointer (some ⟨R, 0, none⟩)] w fun e w' => e = .returned (.int .u64 (ofL xs : Nat)) ∧ w' = w := by
  obtain ⟨sv, h1, h2⟩ := h
  have hc := (cell2 h1).2.1
  have hrow := RowI.of_owns (ownsRow_low h2)
  obtain ⟨p, c, rfl⟩ := hrow.slice
  have HR := Lib.hid hr
  clear h1 h2 hr
  go_enter Try.func26, Try.ntmps26
  go_wp2_with fail
  go_loop [3, 4] (fun sv i => ∃ k s : Nat, k ≤ xs.length ∧ i = .int .i64 (k : Int) ∧ sv = .int .u64 (s : Int) ∧ s < 18446744073709551616 ∧ Hid (s = ofL (xs.take k))) (fun _ i => xs.length - (intOf i).toNat)
  case atStart => exact ⟨0, 0, Nat.zero_le _, rfl, rfl, by omega, Lib.hid rfl⟩
  case round =>
    obtain ⟨k, s, hk, rfl, rfl, hs, HS⟩ := hrel
    by_cases hlt : k < xs.length
    · have hlt' : (k : Int) < (xs.length : Int) := by omega
      have k0 : (0 : Int) ≤ (k : Int) := by omega
      obtain ⟨b, off, rfl, hb, hcell⟩ := hrow.at hlt
      have hxk := HR.out _ (mem_of_getDI hlt)
      have HT := Lib.hid (take_snocI xs k hlt)
      obtain ⟨x, hxe⟩ : ∃ x, x = xs[k]?.getD 0 := ⟨_, rfl⟩
      rw [← hxe] at hcell hxk HT
      obtain ⟨hx0, hx1⟩ := hxk
      clear hxe
      have HO : Hid (withN s x = ofL (xs.take (k + 1))) := Lib.hid (by rw [HT.out, ofL_snoc, HS.out])
      have hor := or_with hs x
      have hwl := withN_lt hs x
      have hwx : IntKind.u64.wrap x = x := by rw [IntKind.wrap_u64]; omega
      have hsh := shl_bit (k := x) hx0
      rw [Nat.min_eq_left (by omega)] at hsh
      go_wp2_with fail
      go_round
      case rel => exact ⟨k + 1, withN s x, by omega, by go_num, rfl, hwl, HO⟩
      case measure => simp [intOf]; omega
    · have hlt' : ¬ (k : Int) < (xs.length : Int) := by omega
      obtain rfl : k = xs.length := by omega
      have HF : Hid ((s : Int) = (ofL xs : Nat)) := Lib.hid (by have := HS.out; rw [List.take_length] at this; rw [this])
      clear hlt
      go_wp2_with fail
      go_ret
      exact ret_u64 HF
end Go.Proofs.Ytcllnblmcdgkiaa
