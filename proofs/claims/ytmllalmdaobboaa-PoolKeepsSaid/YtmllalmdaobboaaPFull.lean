/-
  The walk of the law PoolFull.
-/
import Derived.Deep.CutRange
import Derived.Test.YtmllalmdaobboaaPAlive
namespace Go.Proofs.Ytmllalmdaobboaa
open Go.RowKit

def boolV (b : Bool) : List Value := [.bool b]
abbrev Bools (W : World) (G cap : Nat) (l : List Bool) : Prop := RowOf boolV 1 4 W G cap l
theorem Bools.at {W : World} {G cap : Nat} {l : List Bool} (h : Bools W G cap l) {i : Nat} {b : Bool} (hi : l[i]? = some b) : W.cell? ⟨G, i, none⟩ = some (.bool b) := by
  have := h.cell hi (j := 0) (by omega)
  rwa [Nat.mul_one, Nat.add_zero] at this
theorem Bools.set {W : World} {G cap : Nat} {l : List Bool} (h : Bools W G cap l) {i : Nat} (hi : i < l.length) (b : Bool) : Bools (W.setCell ⟨G, i, none⟩ (.bool b)) G cap (l.set i b) := by
  have h1 : ∀ m, m < 1 → (boolV b)[m]? = if m = 0 then some (.bool b) else (boolV l[i])[m]? := fun m hm => by
    have : m = 0 := Nat.lt_one_iff.1 hm
    subst this; rfl
  have := RowOf.set1 h (i := i) (j := 0) hi Nat.one_pos (List.getElem?_eq_getElem hi) h1
  rwa [Nat.mul_one, Nat.add_zero] at this
theorem infoBool : (Try.prog.info? 4).map (fun i => (i.zero, i.size, i.bytes)) = some (some (.bool false), 1, 1) := by kernel_rfl
theorem bools_made {W : World} {G base n : Nat} (h : W.ownsRow base 4 1 (.slice (some ⟨G, 0, none⟩) n n) n (madeCells (Value.bool false).cells (n * 1)).toList) : Bools W G n (List.replicate n false) := by
  have e : (madeCells (Value.bool false).cells (n * 1)).toList = _ := made_flat boolV false _ 1 rfl (by omega) (fun _ => rfl) n
  rw [e] at h
  exact RowOf.of_owns (f := boolV) (n := 1) (l := List.replicate n false) (fun _ => rfl) (by rw [List.length_replicate]; exact h) (by rw [List.length_replicate])

/-- Which are taken. -/
def marks (T : List (Option Sud)) : List Bool := T.map (·.isSome)
theorem marks_set (T : List (Option Sud)) (i : Nat) (o : Option Sud) : marks (T.set i o) = (marks T).set i o.isSome := by simp [marks, List.map_set]
theorem marks_len (T : List (Option Sud)) : (marks T).length = T.length := by simp [marks]
theorem marks_get {T : List (Option Sud)} {i : Nat} {o : Option Sud} (h : T[i]? = some o) : (marks T)[i]? = some o.isSome := by simp [marks, h]
theorem marks_none (n : Nat) : marks (List.replicate n none) = List.replicate n false := by simp [marks]

/-- The first i slots are free, all others taken. -/
def Gone (T : List (Option Sud)) (m i : Nat) : Prop := T.length = m ∧ (∀ j, j < i → j < m → T[j]? = some none) ∧ ∀ j, i ≤ j → j < m → ∃ x, T[j]? = some (some x)
theorem Gone.set {T : List (Option Sud)} {m i : Nat} (h : Gone T m i) (hi : i < m) : Gone (T.set i none) m (i + 1) := by
  obtain ⟨h1, h2, h3⟩ := h
  refine ⟨by simpa using h1, fun j hj hm => ?_, fun j hj hm => ?_⟩
  · by_cases e : j = i
    · subst e; rw [List.getElem?_set_self (by omega)]
    · rw [List.getElem?_set_ne (Ne.symm e)]; exact h2 j (by omega) hm
  · rw [List.getElem?_set_ne (by omega)]; exact h3 j (by omega) hm
theorem Gone.all {T : List (Option Sud)} {m : Nat} (h : Gone T m m) : T = List.replicate m none := by
  obtain ⟨h1, h2, _⟩ := h
  refine List.ext_getElem? fun j => ?_
  by_cases hj : j < m
  · rw [h2 j hj hj, List.getElem?_replicate, if_pos hj]
  · rw [List.getElem?_eq_none (by omega), List.getElem?_eq_none (by simp; omega)]
theorem full_gone {W : World} {B V cap : Nat} {T : List (Option Sud)} (h : PoolAt W B V cap T []) : Gone T T.length 0 := by
  refine ⟨rfl, fun j hj => by omega, fun j _ hj => ?_⟩
  obtain ⟨o, ho⟩ : ∃ o, T[j]? = some o := ⟨_, List.getElem?_eq_getElem hj⟩
  cases o with
  | none => have := h.all j ho; cases this
  | some x => exact ⟨x, ho⟩

set_option maxRecDepth 100000 in
set_option maxHeartbeats 1600000 in
theorem full_any (n : Nat) (hn : n < 256) (w : World) :
    Calls Try.prog 5 #[.int .u8 (n : Int)] w fun e w' => e = .returned (.bool true) ∧ Below w.heap.size w w' := by
  obtain ⟨i0, hi, hz0, hz1, hz2⟩ := info_parts infoBool
  have hw : IntKind.i64.wrap (n : Int) = (n : Int) := by rw [IntKind.wrap_i64]; omega
  go_enter Try.func5, Try.ntmps5
  go_wp2_with fail
  obtain ⟨m, hm⟩ : ∃ m : Nat, 1 + (n : Int) = (m : Int) := ⟨n + 1, by omega⟩
  have hm1 : 1 ≤ m := by omega
  have hm2 : m ≤ 256 := by omega
  rw [hm]
  refine (m_new (n := m) (T := List.replicate m none) (F := List.range m) _ (But.refl [] w) hm1 (by omega) rfl rfl rfl).mono ?_
  rintro e w1 ⟨B, V, rfl, hP, -, -, -⟩
  clear hm hw
  go_wp2_with fail
  go_loopw [6] (fun rv wr => ∃ (r : Nat) (F : List Nat), r ≤ 2 ∧ rv = .int .i64 (r : Int) ∧ Mine w wr B V m (List.replicate m none) F) (fun rv _ => 2 - (intOf rv).toNat)
  case atStart => exact ⟨0, _, by omega, rfl, hP⟩
  case round =>
    clear hP
    obtain ⟨r, F, hr, rfl, hP⟩ := hrel
    by_cases hr2 : r < 2
    · have hr2' : (r : Int) < 2 := by omega
      go_wp2_with (at_make; refine wpList_make_full _ rfl _ _ 47 rfl w.heap.size 4 i0 (.bool false) 1 Try.underlying47 hi hz0 hz1 .i64 .i64 _ _ m rfl rfl rfl rfl (by rw [hz2]; omega) (by unfold maxLen; omega) (by have := hP.but.size; omega) ?_; intro w2 hown hgrow)
      have hS0 : Bools w2 wr.heap.size m (marks (List.replicate m none)) := by rw [marks_none]; exact bools_made hown
      have hP0 := hP.fresh (.of_none hgrow [])
      have hBG : wr.heap.size ≠ B := by have := hP.pool.ltB; omega
      have hVG : wr.heap.size ≠ V := by have := hP.pool.ltV; omega
      have hGw : w.heap.size ≤ wr.heap.size := hP.but.size
      have hl0 := hP.pool.sum
      rw [cnt_none] at hl0
      simp only [List.length_replicate, Nat.zero_add] at hl0
      obtain ⟨G, hG⟩ : ∃ G, G = wr.heap.size := ⟨_, rfl⟩
      rw [← hG] at hS0 hBG hVG hGw ⊢
      clear hown hgrow hP hG
      go_loopw [8] (fun iv wx => ∃ (i : Nat) (T : List (Option Sud)) (F : List Nat), iv = .int .i64 (i : Int) ∧ Mine w wx B V m T F ∧ T.length = m ∧ i + F.length = m ∧ Bools wx G m (marks T)) (fun iv _ => m - (intOf iv).toNat)
      case atStart => exact ⟨0, _, F, rfl, hP0, by simp, by omega, hS0⟩
      case round =>
        clear hP0 hS0 hl0 F
        obtain ⟨i, T, F, rfl, hP, hTl, hl, hS⟩ := hrel
        by_cases him : i < m
        · have him' : (i : Int) < (m : Int) := by omega
          obtain ⟨k, F', rfl⟩ : ∃ k F', F = k :: F' := by
            cases F with
            | nil => simp at hl; omega
            | cons k F' => exact ⟨k, F', rfl⟩
          have hfree := hP.pool.some k (by simp)
          have hk : k < m := by rw [← hTl]; exact (List.getElem?_eq_some_iff.1 hfree).1
          have hk0 : (0 : Int) ≤ (k : Int) := by omega
          have hk1 : (k : Int) < (m : Int) := by omega
          have hk2 : decide ((k : Int) < 0) = false := by simp
          have hk3 : decide ((m : Int) ≤ (k : Int)) = false := by simp; omega
          go_wp2_with fail
          refine (m_take (i := k) (T' := T.set k (some ((i : Int), 0, false, 0, 0))) ((i : Int), 0, false, 0, 0) _ hP rfl rfl).mono ?_
          rintro e w3 ⟨rfl, hP1, hb⟩
          have hS1 := hS.but hb (by simp [hBG, hVG])
          have hc := Bools.at hS1 (marks_get hfree)
          have hz := hS1.frozen k
          have hlen : k < (marks T).length := by rw [marks_len, hTl]; exact hk
          have HH := Lib.hid hS1
          clear hS hb hP hS1 hfree
          go_wp2_with fail
          go_roundw
          case rel =>
            refine ⟨i + 1, _, F', by go_num, hP1.beside (S := [G]) ((But.refl [G] _).set (p := ⟨G, k, none⟩) (.inl (by simp)) _) (by simpa using hBG.symm) (by simpa using hVG.symm) (by simpa using hGw), by simpa using hTl, by simp at hl; omega, ?_⟩
            rw [marks_set]; exact Bools.set HH.out hlen true
          case measure => simp [intOf]; omega
        · have him' : ¬ (i : Int) < (m : Int) := by omega
          obtain rfl : F = [] := List.length_eq_zero_iff.1 (by omega)
          have hfull := full_gone hP.pool
          have hcnt := hP.pool.sum
          simp only [List.length_nil, Nat.add_zero] at hcnt
          rw [hTl] at hfull hcnt
          clear hS hl
          go_wp2_with fail
          refine (m_full zeroS _ hP rfl).mono ?_
          rintro e w4 ⟨rfl, hP1, -⟩
          clear hP
          go_wp2_with fail
          refine (pt_list _ hP1.pool).mono ?_
          rintro e w5 ⟨v, rfl, hown, hbl⟩
          obtain ⟨a, c, rfl⟩ : ∃ a c, v = .slice a m c := by
            rw [idx_len, hTl, hcnt] at hown
            rcases hown.2 with ⟨h0, h1⟩ | ⟨g, cap, cur, he, _⟩
            · rw [h0]; exact ⟨none, 0, by rw [h1]⟩
            · exact ⟨_, _, he⟩
          have hP2 := hP1.later hbl
          have hmm : ((m : Int) != (m : Int)) = false := by simp
          clear hown hbl hP1
          go_wp2_with fail
          clear hmm
          go_loopw [13] (fun iv wx => ∃ (i : Nat) (T : List (Option Sud)) (F : List Nat), i ≤ m ∧ iv = .int .i64 (i : Int) ∧ Mine w wx B V m T F ∧ Gone T m i) (fun iv _ => m - (intOf iv).toNat)
          case atStart => exact ⟨0, _, [], by omega, rfl, hP2, hfull⟩
          case round =>
            clear hP2 hfull hcnt hTl him him'
            obtain ⟨i, T, F, him, rfl, hP, hg⟩ := hrel
            by_cases hlt : i < m
            · have hlt' : (i : Int) < (m : Int) := by omega
              obtain ⟨x, hx⟩ := hg.2.2 i (Nat.le_refl _) hlt
              have hg1 := hg.set hlt
              go_wp2_with fail
              refine (m_give (i := i) (T' := T.set i none) _ hP hx rfl rfl).mono ?_
              rintro e w6 ⟨rfl, hP1, -⟩
              clear hg hx hP
              go_wp2_with fail
              go_roundw
              case rel => exact ⟨i + 1, _, _, by omega, by go_num, hP1, hg1⟩
              case measure => simp [intOf]; omega
            · obtain rfl : i = m := by omega
              have hlt' : ¬ (i : Int) < (i : Int) := by omega
              obtain rfl := hg.all
              go_wp2_with fail
              go_roundw
              case rel => exact ⟨r + 1, F, by omega, by go_num, hP⟩
              case measure => simp [intOf]; omega
    · obtain rfl : r = 2 := by omega
      go_wp2_with fail
      refine (pt_len _ hP.pool).mono ?_
      rintro e w3 ⟨rfl, rfl⟩
      rw [cnt_none]
      go_wp2_with fail
      refine (alive_any _).mono ?_
      rintro e w4 ⟨rfl, hb⟩
      have hB := below_next hP.below hb
      clear hP hb
      go_wp2_with fail
      go_ret
      exact ⟨rfl, hB⟩
end Go.Proofs.Ytmllalmdaobboaa
