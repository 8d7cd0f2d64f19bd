/-
  A text between its blanks: the document's Split, and its num; pure, then the walks.
-/
import Derived.Test.YthellmecdmolcaaDoorIRefC
namespace Go.Proofs.YthellmecdmolcaaDoor
open Go.RowKit Go.Shelf

attribute [local go_sem] Oper.semAt_some

def splitG : List UInt8 → List UInt8 → List (List UInt8)
  | p, [] => [p]
  | p, c :: t => if c = 32 then p :: splitG [] t else splitG (p ++ [c]) t
def splitL (s : List UInt8) : List (List UInt8) := splitG [] s
/-- The k-th of them, by cutting. -/
def nth : List UInt8 → Nat → List UInt8
  | s, 0 => cut1 s
  | s, k + 1 => nth (cut2 s) k
theorem cutF_cons_no {c : UInt8} {t : List UInt8} (h : c ≠ 32) : cutF (c :: t) = cutF t := by
  have h32 : ((32 : UInt8) == c) = false := by simpa using fun e : 32 = c => h e.symm
  unfold cutF
  rw [List.contains_cons, h32]; rfl
theorem splitG_eq (p s : List UInt8) : splitG p s = (p ++ cut1 s) :: (if cutF s then splitL (cut2 s) else []) := by
  induction s generalizing p with
  | nil => simp [splitG, cut1, cutF]
  | cons c t ih =>
    by_cases h : c = 32
    · subst h
      simp [splitG, cut1, cut2, cutF, splitL]
    · rw [splitG, if_neg h, ih, cutF_cons_no h, cut1, if_neg h, cut2, if_neg h]
      simp
theorem cut2_noF {s : List UInt8} (h : cutF s = false) : cut2 s = [] := by
  refine cut2_all fun hm => ?_
  unfold cutF at h
  rw [List.contains_iff_mem.2 hm] at h
  cases h
theorem nth_nil (k : Nat) : nth [] k = [] := by
  induction k with
  | zero => rfl
  | succ k ih => exact ih
theorem split_nth (s : List UInt8) (k : Nat) : (splitL s)[k]?.getD [] = nth s k := by
  induction k generalizing s with
  | zero => rw [splitL, splitG_eq]; simp [nth]
  | succ k ih =>
    rw [splitL, splitG_eq]
    cases h : cutF s with
    | true => simp only [if_true, List.getElem?_cons_succ]; exact ih (cut2 s)
    | false =>
      show ([] : List (List UInt8))[k]?.getD [] = nth (cut2 s) k
      rw [cut2_noF h, nth_nil]
      simp
theorem nth_len (s : List UInt8) (k : Nat) : (nth s k).length ≤ s.length := by
  induction k generalizing s with
  | zero => exact cut1_len s
  | succ k ih => exact Nat.le_trans (ih _) (cut2_len s)
theorem split_pos (s : List UInt8) : 0 < (splitL s).length := by rw [splitL, splitG_eq]; simp
/-- The piece from one place up to another. -/
def pieceL (l : List UInt8) (i j : Nat) : List UInt8 := (l.drop i).take (j - i)
theorem piece_same (l : List UInt8) (i : Nat) : pieceL l i i = [] := by simp [pieceL]
theorem piece_next {l : List UInt8} {i j : Nat} (h : i ≤ j) (hj : j < l.length) : pieceL l i (j + 1) = pieceL l i j ++ [l[j]] := by
  unfold pieceL
  rw [show j + 1 - i = (j - i) + 1 by omega, List.take_add_one, List.getElem?_drop, show i + (j - i) = j by omega, List.getElem?_eq_getElem hj]
  rfl

theorem infoStr : (Tryd.prog.info? 9).map (fun i => (i.zero, i.size, i.bytes)) = some (some (.string ⟨#[]⟩), 1, 16) := by kernel_rfl
def StrC (l : List (List UInt8)) : List Value := l.map fun f => .string ⟨f.toArray⟩
theorem StrC_snoc (xs : List (List UInt8)) (x : List UInt8) : StrC (xs ++ [x]) = StrC xs ++ [.string ⟨x.toArray⟩] := by simp [StrC]
/-- A slice of strings. -/
def StrRow (W : World) (v : Value) (l : List (List UInt8)) : Prop :=
  ∃ g cap, v = .slice (some ⟨g, 0, none⟩) l.length cap ∧ g < W.heap.size ∧ ∀ j, j < l.length → W.cell? ⟨g, j, none⟩ = some (.string ⟨(l[j]?.getD []).toArray⟩)
theorem StrRow.below {W W' : World} {v : Value} {l : List (List UInt8)} (h : StrRow W v l) (hb : Below W.heap.size W W') : StrRow W' v l := by
  obtain ⟨g, cap, rfl, hg, hc⟩ := h
  exact ⟨g, cap, rfl, Nat.lt_of_lt_of_le hg hb.size, by
    intro j hj
    exact (hb.cell (p := ⟨g, j, none⟩) hg).trans (hc j hj)⟩
theorem strRow_of {W : World} {base : Nat} {v : Value} {l : List (List UInt8)} (h : W.ownsRow base 9 1 v l.length (StrC l)) (hl : 0 < l.length) : StrRow W v l := by
  obtain ⟨g, cap, rfl⟩ : ∃ g cap, v = .slice (some ⟨g, 0, none⟩) l.length cap := by
    obtain ⟨n, hn⟩ : ∃ n, l.length = n + 1 := ⟨l.length - 1, by omega⟩
    rw [hn] at h ⊢
    exact ownsRow_succ h
  refine ⟨g, cap, rfl, (h.lt g rfl).2, fun j hj => ?_⟩
  have := h.cells rfl j (.string ⟨(l[j]?.getD []).toArray⟩) (by unfold StrC; rw [List.getElem?_map, List.getElem?_eq_getElem hj]; rfl)
  by_cases h0 : j = 0
  · subst h0; simpa [Addr.add] using this
  · simpa [Addr.add, h0] using this

theorem num_any {W : World} {v : Value} {l : List (List UInt8)} (h : StrRow W v l) (hl : ∀ j : Nat, (l[j]?.getD []).length ≤ 4096) (hv : Vars W) (k : Nat) :
    Calls Tryd.prog 28 #[v, .int .i64 (k : Int)] W fun e w' => e = .returned (.int .i64 (parseV (l[k]?.getD []))) ∧ Below W.heap.size W w' := by
  obtain ⟨g, cap, rfl, hg, hc⟩ := h
  go_enter Tryd.func28, Tryd.ntmps28
  by_cases hk : k < l.length
  · have hp := parse_any (l[k]?.getD []) (hl k) W hv
    have c := hc k hk
    have k1 : ¬ ((l.length : Int) ≤ (k : Int)) := by omega
    have k2 : (k : Int) < (l.length : Int) := by omega
    clear hc hl
    generalize l[k]?.getD [] = f at hp c ⊢
    go_wp2_with (go_at_call 25; refine hp.mono ?_; rintro e w' ⟨er, rfl, hb⟩)
    go_ret
    exact ⟨rfl, hb⟩
  · have k1 : (l.length : Int) ≤ (k : Int) := by omega
    have HE : Hid (parseV (l[k]?.getD []) = 0) := Lib.hid (by rw [List.getElem?_eq_none (by omega)]; rfl)
    clear hk
    go_wp2_with fail
    go_ret
    exact ⟨ret_v (by rw [HE.out]; rfl), Below.refl _ _⟩

set_option maxRecDepth 100000 in
set_option maxHeartbeats 3200000 in
theorem refSplit_any (l : List UInt8) (hl : l.length ≤ 4096) (w : World) :
    Calls Tryd.prog 27 #[.string ⟨l.toArray⟩] w fun e w' => ∃ v, e = .returned v ∧ StrRow w' v (splitL l) ∧ Below w.heap.size w w' := by
  obtain ⟨i0, hi, hz0, hz1, hz2⟩ := info_parts infoStr
  obtain ⟨s, hs⟩ : ∃ s : ByteArray, s = ⟨l.toArray⟩ := ⟨_, rfl⟩
  have hsz : s.size = l.length := by rw [hs]; rfl
  have hby : ∀ (k : Nat) (h1 : k < s.size) (h2 : k < l.length), s[k]'h1 = l[k] := by subst hs; intro k h1 h2; rfl
  have hcut : ∀ i j : Nat, s.extract i j = ⟨(pieceL l i j).toArray⟩ := by subst hs; intro i j; rw [Lib.extract_eq]; rfl
  rw [← hs]
  have HS := Lib.hid hs
  clear hs
  go_enter Tryd.func27, Tryd.ntmps27
  go_wp2_with fail
  go_loopw [3, 4, 5] (fun lv fv iv wr => ∃ (i f : Nat) (acc : List (List UInt8)), fv = .int .i64 (f : Int) ∧ iv = .int .i64 (i : Int) ∧ f ≤ i ∧ i ≤ l.length + 1 ∧ acc.length ≤ i ∧ wr.ownsRow w.heap.size 9 1 lv acc.length (StrC acc) ∧ Below w.heap.size w wr ∧
      Hid ((i ≤ l.length → splitL l = acc ++ splitG (pieceL l f i) (l.drop i)) ∧ (i = l.length + 1 → splitL l = acc))) (fun _ _ iv _ => l.length + 2 - (intOf iv).toNat)
  case atStart => exact ⟨0, 0, [], rfl, rfl, Nat.le_refl _, Nat.zero_le _, Nat.le_refl _, World.ownsRow_nil _ _ _ _, Below.refl _ _, Lib.hid ⟨fun _ => by rw [piece_same]; rfl, fun h => by omega⟩⟩
  case round =>
    obtain ⟨i, f, acc, rfl, rfl, hfi, hi1, hal, hown, hbl, HI⟩ := hrel
    have f0 : (0 : Int) ≤ (f : Int) := by omega
    have f1 : (f : Int) ≤ (i : Int) := by omega
    by_cases h1 : i ≤ l.length
    · have c1 : (i : Int) ≤ (l.length : Int) := by omega
      by_cases h2 : i = l.length
      · have c2 : ((i : Int) == (l.length : Int)) = true := by rw [beq_iff_eq]; omega
        have HJ : Hid ((i + 1 ≤ l.length → splitL l = (acc ++ [pieceL l f i]) ++ splitG (pieceL l (i + 1) (i + 1)) (l.drop (i + 1))) ∧ (i + 1 = l.length + 1 → splitL l = acc ++ [pieceL l f i])) := Lib.hid ⟨fun h => by omega, fun _ => by
          have h := HI.out.1 h1
          rw [show l.drop i = [] from List.drop_eq_nil_of_le (by omega)] at h
          rw [h, splitG]⟩
        have H2 := Lib.hid h2
        clear HI h2 hby
        have hbw := hbl.size
        go_wp2_with (at_builtin; refine wpList_append_own _ rfl _ _ 50 rfl w.heap.size 9 i0 (.string ⟨#[]⟩) 1 16 Tryd.underlying50 hi hz0 hz1 hz2 rfl (by decide) _ _ _ rfl (hown.alloc _) ⟨_, 0, none⟩ 1 1 [.string ⟨(pieceL l f i).toArray⟩] rfl rfl ?c1 ?c2 ?c3 ?c4 ?c5 ?_)
        case c1 => exact cell_one_new _ _ _
        case c2 => first | rfl | (intro x hx; simp at hx; subst hx; rfl)
        case c3 => unfold maxLen; omega
        case c4 => omega
        case c5 => first | omega | (simp; omega)
        intro v' w4 hown4 hgrow _
        have hb4 := (hbl.alloc hbw _).grown hgrow (by simp; omega) (fun k hk => by have := (hown.lt k hk).1; omega)
        have hown5 : w4.ownsRow w.heap.size 9 1 v' (acc ++ [pieceL l f i]).length (StrC (acc ++ [pieceL l f i])) := by rw [StrC_snoc]; simpa using hown4
        clear hown4 hgrow hown hbl
        go_wp2_with fail
        go_roundw
        case rel => exact ⟨i + 1, i + 1, _, by go_num, by go_num, Nat.le_refl _, by have := H2.out; omega, by simp; omega, hown5, hb4, HJ⟩
        case measure => have := H2.out; simp [intOf]; omega
      · have h3 : i < l.length := by omega
        have h4 : i < s.size := by omega
        have c2 : ((i : Int) == (l.length : Int)) = false := by rw [beq_eq_false_iff_ne]; omega
        have c3 : (i : Int) < (l.length : Int) := by omega
        have c4 : (0 : Int) ≤ (i : Int) := by omega
        have hd : l.drop i = l[i] :: l.drop (i + 1) := List.drop_eq_getElem_cons h3
        have hb8 := hby i h4 h3
        by_cases h32 : l[i] = 32
        · have c5 : ((s[i].toNat : Int) == 32) = true := by rw [hb8, h32]; rfl
          have HJ : Hid ((i + 1 ≤ l.length → splitL l = (acc ++ [pieceL l f i]) ++ splitG (pieceL l (i + 1) (i + 1)) (l.drop (i + 1))) ∧ (i + 1 = l.length + 1 → splitL l = acc ++ [pieceL l f i])) := Lib.hid ⟨fun _ => by
            have h := HI.out.1 h1
            rw [hd, splitG, if_pos h32] at h
            rw [h, piece_same]; simp, fun h => by omega⟩
          clear HI hd hb8 h32 hby
          have hbw := hbl.size
          go_wp2_with (at_builtin; refine wpList_append_own _ rfl _ _ 50 rfl w.heap.size 9 i0 (.string ⟨#[]⟩) 1 16 Tryd.underlying50 hi hz0 hz1 hz2 rfl (by decide) _ _ _ rfl (hown.alloc _) ⟨_, 0, none⟩ 1 1 [.string ⟨(pieceL l f i).toArray⟩] rfl rfl ?c1 ?c2 ?c3 ?c4 ?c5 ?_)
          case c1 => exact cell_one_new _ _ _
          case c2 => first | rfl | (intro x hx; simp at hx; subst hx; rfl)
          case c3 => unfold maxLen; omega
          case c4 => omega
          case c5 => first | omega | (simp; omega)
          intro v' w4 hown4 hgrow _
          have hb4 := (hbl.alloc hbw _).grown hgrow (by simp; omega) (fun k hk => by have := (hown.lt k hk).1; omega)
          have hown5 : w4.ownsRow w.heap.size 9 1 v' (acc ++ [pieceL l f i]).length (StrC (acc ++ [pieceL l f i])) := by rw [StrC_snoc]; simpa using hown4
          clear hown4 hgrow hown hbl
          go_wp2_with fail
          go_roundw
          case rel => exact ⟨i + 1, i + 1, _, by go_num, by go_num, Nat.le_refl _, by omega, by simp; omega, hown5, hb4, HJ⟩
          case measure => simp [intOf]; omega
        · have c5 : ((s[i].toNat : Int) == 32) = false := by
            rw [hb8, beq_eq_false_iff_ne]
            intro e
            exact h32 (UInt8.toNat_inj.1 (by have : (32 : UInt8).toNat = 32 := rfl; omega))
          have HJ : Hid ((i + 1 ≤ l.length → splitL l = acc ++ splitG (pieceL l f (i + 1)) (l.drop (i + 1))) ∧ (i + 1 = l.length + 1 → splitL l = acc)) := Lib.hid ⟨fun _ => by
            have h := HI.out.1 h1
            rw [hd, splitG, if_neg h32] at h
            rw [h, piece_next hfi h3], fun h => by omega⟩
          clear HI hd hb8 h32 hcut hby
          go_wp2_with fail
          go_roundw
          case rel => exact ⟨i + 1, f, acc, rfl, by go_num, by omega, by omega, by omega, hown, hbl, HJ⟩
          case measure => simp [intOf]; omega
    · have h2 : i = l.length + 1 := by omega
      have c1 : ¬ ((i : Int) ≤ (l.length : Int)) := by omega
      have HJ := Lib.hid (HI.out.2 h2)
      clear HI hcut hby
      go_wp2_with fail
      go_ret
      exact ⟨_, rfl, by rw [HJ.out]; exact strRow_of hown (by rw [← HJ.out]; exact split_pos l), hbl⟩
end Go.Proofs.YthellmecdmolcaaDoor
