/-
  Rows of ints in memory; the walks of order.row, Len, New, slices.Index, slices.Clone, order.List, Age; of set.bit, Has.
-/
import Derived.Lib.SliceRun
import Derived.Test.YtamkmmpockmpfaaOMath
namespace Go.Proofs.Ytamkmmpockmpfaa.Od
open Go.RowKit

theorem ret_i {x y : Int} (h : x = y) : Ending.returned (.int .i64 x) = .returned (.int .i64 y) := by rw [h]
theorem ret_b {x y : Bool} (h : x = y) : Ending.returned (.bool x) = .returned (.bool y) := by rw [h]
theorem ret_u64 {x y : Int} {w : World} (h : Hid (x = y)) : Ending.returned (.int .u64 x) = .returned (.int .u64 y) ∧ w = w := ⟨by rw [h.out], rfl⟩
theorem ret_bool {x y : Bool} {w : World} (h : Hid (x = y)) : Ending.returned (.bool x) = .returned (.bool y) ∧ w = w := ⟨by rw [h.out], rfl⟩
theorem infoInt : (Try.prog.info? 3).map (fun i => (i.zero, i.size, i.bytes)) = some (some (.int .i64 0), 1, 8) := by kernel_rfl

theorem below_next {n : Nat} {w w1 w2 : World} (h : Below n w w1) (k : Below w1.heap.size w1 w2) (hn : n ≤ w.heap.size) : Below n w w2 :=
  ⟨k.os.trans h.os, k.tape.trans h.tape, k.output.trans h.output, Nat.le_trans h.size k.size, fun i hi => (k.block i (Nat.lt_of_lt_of_le hi (Nat.le_trans hn h.size))).trans (h.block i hi)⟩

/-! ### Rows of ints -/
/-- The slice value v reads as the numbers xs. -/
def RowI (w : World) (v : Value) (xs : List Int) : Prop :=
  (xs = [] ∧ ∃ a cap, v = .slice a 0 cap) ∨
  (∃ b off cap, v = .slice (some ⟨b, off, none⟩) xs.length cap ∧ 0 < xs.length ∧ b < w.heap.size ∧ ∀ j, j < xs.length → w.cell? ⟨b, off + j, none⟩ = some (.int .i64 (xs[j]?.getD 0)))
theorem RowI.below {w w' : World} {v : Value} {xs : List Int} (h : RowI w v xs) (hb : Below w.heap.size w w') : RowI w' v xs := by
  rcases h with h | ⟨b, off, cap, h1, h0, h2, h3⟩
  · exact .inl h
  · exact .inr ⟨b, off, cap, h1, h0, Nat.lt_of_lt_of_le h2 hb.size, fun j hj => (hb.cell (p := ⟨b, off + j, none⟩) h2).trans (h3 j hj)⟩
theorem RowI.of_owns {w : World} {base : Nat} {v : Value} {xs : List Int} (h : w.ownsRow base 3 1 v xs.length (I64 xs)) : RowI w v xs := by
  rcases id h.2 with ⟨rfl, hz⟩ | ⟨g, cap, cur, rfl, _, hg, _⟩
  · exact .inl ⟨List.length_eq_zero_iff.mp hz, none, 0, rfl⟩
  · by_cases hz : xs = []
    · subst hz; exact .inl ⟨rfl, _, _, rfl⟩
    · refine .inr ⟨g, 0, cap, rfl, List.length_pos_iff.mpr hz, (Array.getElem?_eq_some_iff.mp hg).1, fun j hj => ?_⟩
      have := h.cellAt j (by omega)
      rw [Nat.zero_add, this, I64, List.getElem?_map, List.getElem?_eq_getElem hj]; rfl
theorem RowI.at {W : World} {a : Option Addr} {n c : Nat} {xs : List Int} (h : RowI W (.slice a n c) xs) {k : Nat} (hk : k < xs.length) : ∃ b off, a = some ⟨b, off, none⟩ ∧ b < W.heap.size ∧ W.cell? ⟨b, off + k, none⟩ = some (.int .i64 (xs[k]?.getD 0)) := by
  rcases h with ⟨rfl, _⟩ | ⟨b, off, c', he, _, hlt, hc⟩
  · simp at hk
  · simp only [Value.slice.injEq] at he
    obtain ⟨rfl, -, -⟩ := he
    exact ⟨b, off, rfl, hlt, hc k hk⟩
theorem RowI.slice {w : World} {v : Value} {xs : List Int} (h : RowI w v xs) : ∃ a c, v = .slice a xs.length c := by
  rcases h with ⟨rfl, a, c, rfl⟩ | ⟨b, off, c, rfl, _⟩
  · exact ⟨a, c, rfl⟩
  · exact ⟨_, c, rfl⟩
theorem RawO.rowI {W : World} {B n : Nat} {vs l : List Int} (h : RawO W B vs n) (hl : l = vs.take n) (hn : n ≤ 6) (h0 : 1 ≤ n) : RowI W (.slice (some ⟨B, 0, none⟩) n 6) l := by
  have hlen : l.length = n := by rw [hl, List.length_take, h.1]; omega
  refine .inr ⟨B, 0, 6, by rw [hlen], by omega, h.lt, fun j hj => ?_⟩
  rw [Nat.zero_add]
  exact h.row hl hn (by omega)
theorem Ord.rowI {W : World} {B n : Nat} {l : List Int} (h : Ord W B n l) : RowI W (.slice (some ⟨B, 0, none⟩) n 6) l := by
  obtain ⟨vs, h1, h2⟩ := h.raw
  exact h1.rowI h2 h.le h.pos

/-! ### Sets -/
theorem bit_any (k : Int) (h1 : -9223372036854775808 ≤ k) (h2 : k ≤ 9223372036854775807) (w : World) :
    Calls Try.prog 22 #[.int .i64 k] w fun e w' => e = .returned (.int .u64 (bitOf k : Nat)) ∧ w' = w := by
  go_enter Try.func22, Try.ntmps22
  by_cases hneg : k < 0
  · go_wp2_with fail
    go_ret
    rw [bitOf_out (by omega)]
    exact ⟨rfl, rfl⟩
  · have HE := Lib.hid (shl_bit (k := k) (by omega))
    go_wp2_with fail
    go_ret
    exact ret_u64 HE
theorem has_any (s : Nat) (k : Int) (hs : s < 18446744073709551616) (h1 : -9223372036854775808 ≤ k) (h2 : k ≤ 9223372036854775807) (w : World) :
    Calls Try.prog 9 #[.int .u64 s, .int .i64 k] w fun e w' => e = .returned (.bool (has s k)) ∧ w' = w := by
  have HE := Lib.hid (and_has hs k)
  go_enter Try.func9, Try.ntmps9
  go_wp2_with fail
  refine (bit_any k h1 h2 _).mono ?_
  rintro e w1 ⟨rfl, rfl⟩
  go_wp2_with fail
  go_ret
  exact ret_bool HE

/-! ### The row -/
theorem row_raw {B n : Nat} {vs : List Int} (w : World) (h : RawO w B vs n) (hn : n ≤ 6) :
    Calls Try.prog 43 #[.pointer (some ⟨B, 0, none⟩)] w fun e w' => e = .returned (.slice (some ⟨B, 0, none⟩) n 6) ∧ ∃ q, w' = w.drewN q := by
  have hN := h.cellN
  have n0 : (0 : Int) ≤ (n : Int) := by omega
  have n6 : (n : Int) ≤ 6 := by omega
  clear h
  go_enter Try.func43, Try.ntmps43
  go_wp2_with fail
  go_quiet (fail)
  go_wp2_with fail
  go_ret
  exact ⟨rfl, _, rfl⟩
theorem row_nil (w : World) :
    Calls Try.prog 43 #[.pointer none] w fun e w' => e = .returned (.slice none 0 0) ∧ w' = w := by
  go_enter Try.func43, Try.ntmps43
  go_wp2_with fail
  go_ret
  exact ⟨rfl, rfl⟩
theorem index_any (v : Value) (xs : List Int) (k : Int) (w : World) (hr : RowI w v xs) (hl : xs.length ≤ 1024) :
    Calls Try.prog 44 #[v, .int .i64 k] w fun e w' => e = .returned (.int .i64 (atV xs k)) ∧ w' = w := by
  obtain ⟨a, c, rfl⟩ := hr.slice
  go_enter Try.func44, Try.ntmps44
  go_wp2_with fail
  go_loop [8] (fun iv => ∃ i : Nat, i ≤ xs.length ∧ iv = .int .i64 (i : Int) ∧ Hid (k ∉ xs.take i)) (fun iv => xs.length - (intOf iv).toNat)
  case atStart => exact ⟨0, Nat.zero_le _, rfl, Lib.hid (by simp)⟩
  case round =>
    obtain ⟨i, hi, rfl, HT⟩ := hrel
    by_cases hlt : i < xs.length
    · have hlt' : (i : Int) < (xs.length : Int) := by omega
      have i0 : (0 : Int) ≤ (i : Int) := by omega
      obtain ⟨b, off, rfl, hb, hcell⟩ := hr.at hlt
      obtain ⟨x, hx⟩ : ∃ x, x = xs[i]?.getD 0 := ⟨_, rfl⟩
      have HX : Hid (xs[i]? = some x) := Lib.hid (by rw [hx, List.getElem?_eq_getElem hlt]; rfl)
      have HS := Lib.hid (take_snocI xs i hlt)
      rw [← hx] at hcell HS
      clear hx hr
      by_cases he : k = x
      · subst he
        have HE := Lib.hid (atV_first HX.out HT.out)
        have ht : (k == k) = true := by simp
        clear HX HS HT
        go_wp2_with fail
        go_ret
        exact ⟨ret_i HE.out.symm, rfl⟩
      · have ht : (k == x) = false := by simpa using he
        have HN : Hid (k ∉ xs.take (i + 1)) := Lib.hid (by rw [HS.out]; simp [he]; exact HT.out)
        clear HX HS HT he
        go_wp2_with fail
        go_round
        case rel => exact ⟨i + 1, by omega, by go_num, HN⟩
        case measure => simp [intOf]; omega
    · have hlt' : ¬ (i : Int) < (xs.length : Int) := by omega
      have HE : Hid (atV xs k = -1) := Lib.hid (atV_not (by have := HT.out; rwa [List.take_of_length_le (by omega)] at this))
      clear hr HT
      go_wp2_with fail
      go_ret
      exact ⟨ret_i HE.out.symm, rfl⟩

set_option maxHeartbeats 800000 in
theorem clone_any (v : Value) (xs : List Int) (w : World) (hr : RowI w v xs) (hl : xs.length ≤ 1024) (h0 : 0 < xs.length) :
    Calls Try.prog 34 #[v] w fun e w' => ∃ v', e = .returned v' ∧ w'.ownsRow w.heap.size 3 1 v' xs.length (I64 xs) ∧ Below w.heap.size w w' := by
  rcases hr with ⟨rfl, _⟩ | ⟨b, off, cap, rfl, _, hb, hc⟩
  · simp at h0
  obtain ⟨i0, hi, hz0, hz1, hz2⟩ := info_parts infoInt
  have qT : ∀ w : World, (binOp .eql 22 (.slice (some ⟨b, off, none⟩) xs.length cap) (.slice none 0 0)).run Try.prog w = .ok (.bool false) w := fun w => Lib.run_eql_slice_nil w 22 3 (some ⟨b, off, none⟩) xs.length cap 0 0 Try.underlying22
  have hb0 : Below w.heap.size w (w.alloc (.cells #[] 3)) := (Below.refl _ w).alloc (Nat.le_refl _) _
  have hcs : ∀ j u, (I64 xs)[j]? = some u → (w.alloc (.cells #[] 3)).cell? (Addr.add ⟨b, off, none⟩ j) = some u := fun j u hj => by
    have hjl : j < xs.length := by have := (List.getElem?_eq_some_iff.1 hj).1; rwa [I64_len] at this
    have := (hb0.cell (p := ⟨b, off + j, none⟩) hb).trans (hc j hjl)
    rw [show Addr.add ⟨b, off, none⟩ j = ⟨b, off + j, none⟩ by simp [Addr.add], this, ← hj, I64, List.getElem?_map, List.getElem?_eq_getElem hjl]; rfl
  go_enter Try.func34, Try.ntmps34
  go_wp2_with (at_builtin; refine wpList_append_own _ rfl _ _ 22 rfl w.heap.size 3 i0 (.int .i64 0) 1 8 Try.underlying22 hi hz0 hz1 hz2 rfl (by decide) _ 0 [] rfl (World.ownsRow_made w #[] 0 (Nat.le_refl _) (by decide) rfl) ⟨b, off, none⟩ xs.length cap (I64 xs) rfl ?c0 ?c1 ?c2 ?c3 ?c4 ?c5 ?_)
  case c0 => rw [I64_len]; omega
  case c1 => exact hcs
  case c2 => intro u hu; obtain ⟨x, _, rfl⟩ := List.mem_map.1 hu; rfl
  case c3 => unfold maxLen; omega
  case c4 => omega
  try (case c5 => first | exact Nat.le_refl _ | omega | (simp; done) | (simp; omega))
  intro v1 w1 hown hgrow hnil
  have hown' : w1.ownsRow w.heap.size 3 1 v1 xs.length (I64 xs) := by simpa using hown
  have hb1 : Below w.heap.size w w1 := hb0.trans ⟨hgrow.os, hgrow.tape, hgrow.output, Nat.le_trans (by simp) hgrow.size, fun k hk => hgrow.block k (by simp; omega) (fun e => by have : k = w.heap.size := Option.some.inj e; omega)⟩
  clear hown hgrow hnil hc hcs
  go_wp2_with fail
  go_ret
  exact ⟨_, rfl, hown', hb1⟩

end Go.Proofs.Ytamkmmpockmpfaa.Od
