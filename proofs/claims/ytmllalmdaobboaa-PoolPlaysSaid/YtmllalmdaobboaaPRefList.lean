/-
  The walk of tollbarref06's List; rows of slots are the same.
-/
import Derived.Test.YtmllalmdaobboaaPRefNew
namespace Go.Proofs.Ytmllalmdaobboaa
open Go.RowKit

theorem idxTo_hit {T : List (Option Sud)} {k : Nat} (h : tk T k = true) : idxTo T (k + 1) = idxTo T k ++ [k] := by rw [idxTo, h]; rfl
theorem idxTo_miss {T : List (Option Sud)} {k : Nat} (h : tk T k = false) : idxTo T (k + 1) = idxTo T k := by rw [idxTo, h]; simp
theorem rowI_nat {w : World} {base : Nat} {v : Value} {xs : List Nat} (h : w.ownsRow base 3 1 v xs.length (I64N xs)) : RowI w v (xs.map fun (x : Nat) => (x : Int)) := by
  refine RowI.of_owns (base := base) ?_
  rw [List.length_map]
  rwa [show I64 (xs.map fun (x : Nat) => (x : Int)) = I64N xs by simp [I64, I64N]]
theorem same_nat {base base' : Nat} {a b : Value} {xs : List Nat} (w : World) (ha : w.ownsRow base 3 1 a xs.length (I64N xs)) (hb : w.ownsRow base' 3 1 b xs.length (I64N xs)) (hx : xs.length ≤ 1024) :
    Calls Try.prog 20 #[a, b] w fun e w' => e = .returned (.bool true) ∧ Below w.heap.size w w' :=
  (same_any a b _ _ w (rowI_nat ha) (rowI_nat hb) (by simp; omega) (by simp; omega)).mono fun _ _ ⟨h1, h2⟩ => ⟨by rw [h1]; simp, h2⟩

set_option maxHeartbeats 1600000 in
theorem rlist_any {R g cap : Nat} {rv : Value} {T : List (Option Sud)} {F : List Nat} (w : World) (h : RefP w R g cap rv T F) :
    Calls Try.prog 17 #[.pointer (some ⟨R, 0, none⟩)] w fun e w' => ∃ v, e = .returned v ∧ w'.ownsRow w.heap.size 3 1 v (idx T).length (I64N (idx T)) ∧ Below w.heap.size w w' := by
  obtain ⟨i0, hi, hz0, hz1, hz2⟩ := info_parts infoInt
  have hl := h.len
  go_enter Try.func17, Try.ntmps17
  go_wp2_with fail
  go_loopw [3, 4] (fun b iv wr => ∃ k : Nat, k ≤ T.length ∧ iv = .int .i64 (k : Int) ∧ wr.ownsRow w.heap.size 3 1 b (idxTo T k).length (I64N (idxTo T k)) ∧ Below w.heap.size w wr) (fun _ iv _ => T.length - (intOf iv).toNat)
  case atStart => exact ⟨0, Nat.zero_le _, rfl, World.ownsRow_nil _ _ _ _, Below.refl _ _⟩
  case round =>
    obtain ⟨k, hk, rfl, hown, hbl⟩ := hrel
    have h1 := h.fresh (But.of_below hbl [])
    have hc := h1.cellS
    by_cases hlt : k < T.length
    · have hlt' : (k : Int) < (T.length : Int) := by omega
      have k0 : (0 : Int) ≤ (k : Int) := by omega
      obtain ⟨o, ho⟩ : ∃ o, T[k]? = some o := ⟨_, List.getElem?_eq_getElem hlt⟩
      have v0 : World.cell? _ ⟨g, k * 6, none⟩ = _ := h1.row.cell ho (j := 0) (by omega)
      simp only [refV, List.getElem?_cons_zero] at v0
      have htk : tk T k = o.isSome := by rw [tk, ho]; rfl
      have hpl : (idxTo T k).length ≤ 60 := by have := cntTo_le T k; rw [idxTo_len]; omega
      have hbw : w.heap.size ≤ wr.heap.size := hbl.size
      clear h h1 ho
      cases o with
      | some x =>
        have HP := Lib.hid (idxTo_hit htk)
        simp only [Option.isSome_some] at v0
        clear htk
        go_wp2_with (at_builtin; refine wpList_append_own _ rfl _ _ 41 rfl w.heap.size 3 i0 (.int .i64 0) 1 8 Try.underlying41 hi hz0 hz1 hz2 rfl (by decide) _ _ _ rfl (hown.alloc _) ⟨wr.heap.size, 0, none⟩ 1 1 [.int .i64 (k : Int)] rfl rfl ?c1 ?c2 ?c3 ?c4 ?c5 ?_)
        case c1 => exact cell_one_new _ _ _
        case c2 => first | rfl | (intro x hx; simp at hx; subst hx; rfl)
        case c3 => unfold maxLen; omega
        case c4 => omega
        case c5 => first | omega | (simp; omega)
        intro v' w2 hown' hgrow _
        have hb1 : Below w.heap.size w w2 := (hbl.alloc hbw _).grown hgrow (by simp; omega) (fun k hk => by have := (hown.lt k hk).1; omega)
        go_wp2_with fail
        go_roundw
        case rel => exact ⟨k + 1, by omega, by go_num, by rw [HP.out, I64N_snoc]; simpa using hown', hb1⟩
        case measure => simp [intOf]; omega
      | none =>
        have HP := Lib.hid (idxTo_miss htk)
        simp only [Option.isSome_none] at v0
        clear htk
        go_wp2_with fail
        go_roundw
        case rel => exact ⟨k + 1, by omega, by go_num, by rw [HP.out]; exact hown, hbl⟩
        case measure => simp [intOf]; omega
    · obtain rfl : k = T.length := by omega
      have hlt' : ¬ (T.length : Int) < (T.length : Int) := by omega
      clear h h1
      go_wp2_with fail
      go_ret
      exact ⟨_, rfl, hown, hbl⟩
end Go.Proofs.Ytmllalmdaobboaa
