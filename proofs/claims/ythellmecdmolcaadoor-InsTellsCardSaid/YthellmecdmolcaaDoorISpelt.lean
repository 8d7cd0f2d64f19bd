/-
  The walk of spelt: a loop over the map of kinds, left where a word is met.
-/
import Derived.Test.YthellmecdmolcaaDoorIKind
namespace Go.Proofs.YthellmecdmolcaaDoor
open Go.RowKit Go.Maps

theorem heap_set_same {W : World} {B k : Nat} {cs : Array Value} {t : TypeId} {z : Nat × Nat} (v : Value) (h : W.heap[B]? = some (.cells cs t z)) : (W.setCell ⟨B, k, none⟩ v).heap[B]? = some (.cells (cs.setIfInBounds k v) t z) := by
  obtain ⟨hlt, hk⟩ := Array.getElem?_eq_some_iff.1 h
  show (W.heap.modify B _)[B]? = _
  rw [Array.getElem?_eq_getElem (by rw [Array.size_modify]; exact hlt), Array.getElem_modify_self, hk]
  rfl
/-- Block B is a variable of two cells. -/
def Two (W : World) (B : Nat) (t : TypeId) (x y : Value) : Prop := W.heap[B]? = some (.cells #[x, y] t (0, 0))
section
variable {W W' : World} {B : Nat} {t : TypeId} {x y : Value}
theorem Two.lt (h : Two W B t x y) : B < W.heap.size := (Array.getElem?_eq_some_iff.1 h).1
theorem Two.c0 (h : Two W B t x y) : W.cell? ⟨B, 0, none⟩ = some x := by simp [World.cell?, show W.heap[B]? = _ from h]
theorem Two.c1 (h : Two W B t x y) : W.cell? ⟨B, 1, none⟩ = some y := by simp [World.cell?, show W.heap[B]? = _ from h]
theorem Two.frozen (h : Two W B t x y) (k : Nat) : W.frozen? ⟨B, k, none⟩ = false := by simp [World.frozen?, show W.heap[B]? = _ from h]
theorem Two.of_block (h : Two W B t x y) (hb : W'.heap[B]? = W.heap[B]?) : Two W' B t x y := hb.trans h
theorem Two.alloc (h : Two W B t x y) (o : Obj) : Two (W.alloc o) B t x y := h.of_block ((World.grownBy_alloc W o none).block B h.lt (by simp))
theorem Two.set (h : Two W B t x y) (a b : Value) : Two ((W.setCell ⟨B, 0, none⟩ a).setCell ⟨B, 1, none⟩ b) B t a b := by
  have h1 := heap_set_same (k := 0) a h
  have h2 := heap_set_same (k := 1) b h1
  simpa [Two] using h2
theorem two_new (W : World) (t : TypeId) (x y : Value) : Two (W.alloc (.cells #[x, y] t)) W.heap.size t x y := World.alloc_heap_new W _
end
theorem left_seen {left : Lit → Bool} {s : List UInt8} {o : Nat} (h : ∀ p, known p = true → left (.int .u8 (p : Int)) = false → wordL p ≠ s) (hne : wordL o ≠ s) :
    ∀ p, known p = true → (left (.int .u8 (p : Int)) && !(Lit.int .u8 (p : Int)).sameKey (.int .u8 (o : Int))) = false → wordL p ≠ s := by
  intro p hp hl
  by_cases e : left (.int .u8 (p : Int)) = true
  · rw [e] at hl
    simp only [Bool.true_and, Bool.not_eq_false'] at hl
    have : p = o := by
      simp [Lit.sameKey] at hl
      omega
    subst this
    exact hne
  · exact h p hp (by simpa using e)

set_option maxRecDepth 100000 in
set_option maxHeartbeats 1000000 in
theorem spelt_any (s : List UInt8) (w : World) :
    Calls Tryd.prog 24 #[.string ⟨s.toArray⟩] w fun e w' => ∃ v, e = .returned (.tuple #[.int .u8 (opOf s : Int), v]) ∧ Kin w' v (opOf s) ∧ Below w.heap.size w w' := by
  go_enter Tryd.func24, Tryd.ntmps24
  go_wp2_with fail
  refine (kinds_any _).mono ?_
  rintro e w1 ⟨rfl, hK, hB1⟩
  have hres0 : (w.alloc (.cells #[.string ⟨#[]⟩, .slice none 0 0] 38)).heap[w.heap.size]? = some (.cells #[.string ⟨#[]⟩, .slice none 0 0] 38 (0, 0)) := World.alloc_heap_new w _
  have hb0 : Below w.heap.size w (w.alloc (.cells #[.string ⟨#[]⟩, .slice none 0 0] 38)) := (Below.refl _ w).alloc (Nat.le_refl _) _
  have hres1 := (hB1.block w.heap.size (by simp)).trans hres0
  have hbw1 := below_next hb0 hB1 (Nat.le_refl _)
  clear hres0 hb0 hB1
  simp only [World.size_alloc] at hK
  obtain ⟨g, ⟨D, hown, hsz, hD⟩, hsome, hkin⟩ := hK
  go_wp2_with (at_range; refine wpList_range_own _ rfl _ 68 rfl 5 38 keyed Tryd.underlying68 _ (w.heap.size + 1) 10 D rfl hown ?_; intro w2 hrg0 hg0 hs0)
  go_frame
  have hbut2 : But [] w1 w2 := But.of_none hg0 []
  have hres2 := (hbut2.block w.heap.size (by have := (Array.getElem?_eq_some_iff.1 hres1).1; omega) (by simp)).trans hres1
  have hr1 : w.heap.size + 1 < w1.heap.size := hown.lt
  have hbw2 := below_next hbw1 (hbut2.below (Nat.le_refl _) (by simp)) (Nat.le_refl _)
  have hkin2 : ∀ o v, g o = some v → Kin w2 v o := fun o v h => (hkin o v h).but hbut2 (by simp)
  have HS : Hid (∀ o : Nat, known o = true → has D (.int .u8 (o : Int)) = true) := Lib.hid (fun o ho => by
    have hk := known_iff.1 ho
    rw [(hD o (by omega)).1, hsome]
    exact decide_eq_true hk)
  clear hbut2 hres1 hbw1 hkin hown hs0
  go_loopw [2] (fun rv wr => rv = .int .u8 0 ∧ ∃ left cnt, wr.ranges Tryd.prog 5 heldE (w.heap.size + 1) w1.heap.size 10 D left cnt ∧ Hid (∀ o : Nat, known o = true → left (.int .u8 (o : Int)) = false → wordL o ≠ s) ∧ Hid (∀ kl, left kl = true → has D kl = true) ∧
      Below w.heap.size w wr ∧ wr.heap[w.heap.size]? = some (.cells #[.string ⟨#[]⟩, .slice none 0 0] 38 (0, 0)) ∧ ∀ o v, g o = some v → Kin wr v o) (fun _ wr => wr.rangeLeft (w.heap.size + 1) w1.heap.size)
  case atStart => exact ⟨rfl, _, _, hrg0, Lib.hid (fun o ho h => by rw [HS.out o ho] at h; cases h), Lib.hid (fun _ h => h), hbw2, hres2, hkin2⟩
  case round =>
    clear hrg0 hbw2 hres2 hkin2
    obtain ⟨rfl, left, cnt, hrg, HL, HH, hB, hres, hkin⟩ := hrel
    go_wp2_with (at_next; refine wpList_next_ranges _ rfl _ rfl 5 keyed heldE (Value.int .u8) id (fun key kl hkey => by obtain ⟨x, rfl, _⟩ := Maps.keyOf_int_inv Tryd.underlying5 hkey; exact ⟨x, rfl⟩) (fun v _ _ => ⟨v, rfl⟩) (w.heap.size + 1) w1.heap.size 10 D _ _ rfl hrg ?_ ?_)
    · intro _ hl0
      have HE : Hid (opOf s = 0) := Lib.hid (opOf_none fun o ho => HL.out o ho (hl0 _))
      have hT : Two wr w.heap.size 38 (.string ⟨#[]⟩) (.slice none 0 0) := hres
      have c0 := hT.c0
      have c1 := hT.c1
      have f0 := hT.frozen 0
      have f1 := hT.frozen 1
      go_wp2_with fail
      have hT2 := hT.set (.string ⟨#[]⟩) (.slice none 0 0)
      have d0 := hT2.c0
      have d1 := hT2.c1
      have hB2 := (hB.setCell (p := ⟨w.heap.size, 0, none⟩) (Nat.le_refl _) (.string ⟨#[]⟩)).setCell (p := ⟨w.heap.size, 1, none⟩) (Nat.le_refl _) (.slice none 0 0)
      generalize (wr.setCell ⟨w.heap.size, 0, none⟩ (.string ⟨#[]⟩)).setCell ⟨w.heap.size, 1, none⟩ (.slice none 0 0) = W4 at d0 d1 hB2 ⊢
      refine bodyPost_ret (v := .tuple #[.int .u8 0, .agg #[.string ⟨#[]⟩, .slice none 0 0]]) (by simp [results, Tryd.f24, go_sem, d0, d1]) rfl ?_
      rw [HE.out]
      exact ⟨zeroK, rfl, kin_zero _ rfl, hB2⟩
    · intro x c kl ya yb w3 cnt3 hkey hlk hv hat hrg3 hlt3 hg3 hs3 hen
      obtain ⟨x', ex, hkl, hwf⟩ := Maps.keyOf_int_inv Tryd.underlying5 hkey
      cases ex
      obtain ⟨o, rfl⟩ : ∃ o : Nat, x = (o : Int) := ⟨x.toNat, by
        have e1 : IntKind.u8.min = 0 := rfl
        simp [Lit.wf, e1] at hwf
        omega⟩
      have ho : o < 256 := by
        have e2 : IntKind.u8.max = 255 := rfl
        simp [Lit.wf, e2] at hwf
        omega
      subst hkl
      simp only [heldE, Option.some.injEq, Prod.mk.injEq] at hv
      obtain ⟨rfl, rfl⟩ := hv
      have hgo : g o = some c := by
        have h1 := hat (.held zeroK)
        rw [(hD o ho).2] at h1
        have h2 := HH.out _ hlk
        rw [(hD o ho).1] at h2
        cases e : g o with
        | none => rw [e] at h2; cases h2
        | some v => rw [e] at h1; rw [← held_inj h1]; rfl
      have hko : known o = true := by
        have := hsome o
        rw [hgo] at this
        exact this.symm
      have hnot : ∀ k ∈ [w1.heap.size], ∀ cs z, wr.heap[k]? ≠ some (.cells cs 44 z) := by
        intro k hk cs z e
        obtain rfl := List.mem_singleton.1 hk
        obtain ⟨es, clock, since, seen, c0, _, _, _, _, hr, _⟩ := hrg
        rw [hr] at e
        cases e
      have hb3 : But [w1.heap.size] wr w3 := But.of_some hg3 (by simp)
      have hB3 : Below w.heap.size w w3 := hB.trans (hb3.below hB.size (by simp; omega))
      have hres3 := (hb3.block w.heap.size (Array.getElem?_eq_some_iff.1 hres).1 (by simp; omega)).trans hres
      have hkin3 : ∀ o v, g o = some v → Kin w3 v o := fun o v h => (hkin o v h).but hb3 hnot
      obtain ⟨sl, rfl, hrow⟩ := hkin3 o c hgo
      have hsl : ∃ a n c, sl = .slice a n c := by
        rcases hrow with ⟨_, rfl⟩ | ⟨b, rfl, _⟩ <;> exact ⟨_, _, _, rfl⟩
      obtain ⟨sa, sn, sc, rfl⟩ := hsl
      have HM : Hid (w3.rangeLeft (w.heap.size + 1) w1.heap.size < wr.rangeLeft (w.heap.size + 1) w1.heap.size) := Lib.hid (by rw [hrg3.left_eq, hrg.left_eq]; exact hlt3)
      clear hkey hlk hat hrg hB hres hkin hwf hgo hb3 hg3 hnot hlt3
      clear hs3
      have hb4 : But [] w3 (w3.alloc (.cells #[.string ⟨(wordL o).toArray⟩, .slice sa sn sc] 38)) := (But.refl [] w3).alloc _
      have hT : Two (w3.alloc (.cells #[.string ⟨(wordL o).toArray⟩, .slice sa sn sc] 38)) w.heap.size 38 (.string ⟨#[]⟩) (.slice none 0 0) := Two.alloc hres3 _
      have hB4 := hB3.alloc hB3.size (.cells #[.string ⟨(wordL o).toArray⟩, .slice sa sn sc] 38)
      have hrow4 := hrow.fresh hb4
      by_cases he : wordL o = s
      · have HE : Hid (opOf s = o) := Lib.hid (opOf_is hko he)
        have c0 := hT.c0
        have c1 := hT.c1
        have f0 := hT.frozen 0
        have f1 := hT.frozen 1
        rw [he] at hen c0 c1 f0 f1 hT hB4 hrow4 hb4
        clear hrg3 hB3 hres3 hkin3 hrow HM
        go_wp2_with fail
        go_region
        go_wp2_with fail
        have hT5 := hT.set (.string ⟨s.toArray⟩) (.slice sa sn sc)
        have d0 := hT5.c0
        have d1 := hT5.c1
        have hb5 := ((But.refl [w.heap.size] (w3.alloc (.cells #[.string ⟨s.toArray⟩, .slice sa sn sc] 38))).set (p := ⟨w.heap.size, 0, none⟩) (.inl (by simp)) (.string ⟨s.toArray⟩)).set (p := ⟨w.heap.size, 1, none⟩) (.inl (by simp)) (.slice sa sn sc)
        have hrow5 := hrow4.but hb5 (by
          intro k hk cs z e
          obtain rfl := List.mem_singleton.1 hk
          rw [show (w3.alloc _).heap[w.heap.size]? = _ from hT] at e
          simp only [Option.some.injEq, Obj.cells.injEq] at e
          exact absurd e.2.1 (by decide))
        have hB5 := hB4.trans (hb5.below hB4.size (by simp))
        clear hb5 hrow4 hB4 hT hT5 c0 c1 f0 f1 hen hb4
        generalize ((w3.alloc (.cells #[.string ⟨s.toArray⟩, .slice sa sn sc] 38)).setCell ⟨w.heap.size, 0, none⟩ (.string ⟨s.toArray⟩)).setCell ⟨w.heap.size, 1, none⟩ (.slice sa sn sc) = W5 at d0 d1 hrow5 hB5 ⊢
        refine bodyPost_ret (v := .tuple #[.int .u8 (o : Int), .agg #[.string ⟨s.toArray⟩, .slice sa sn sc]]) (by simp [results, Tryd.f24, go_sem, d0, d1]) rfl ?_
        rw [HE.out]
        exact ⟨_, rfl, ⟨_, by rw [he], hrow5.fresh (But.refl [] _).drew⟩, below_drewN hB5 1⟩
      · have hbe : (wordL o == s) = false := by simpa using he
        have hrg4 := hrg3.alloc (.cells #[.string ⟨(wordL o).toArray⟩, .slice sa sn sc] 38)
        have hkin4 : ∀ o' v, g o' = some v → Kin (w3.alloc (.cells #[.string ⟨(wordL o).toArray⟩, .slice sa sn sc] 38)) v o' := fun o' v h => (hkin3 o' v h).but hb4 (by simp)
        have HM4 : Hid ((w3.alloc (.cells #[.string ⟨(wordL o).toArray⟩, .slice sa sn sc] 38)).rangeLeft (w.heap.size + 1) w1.heap.size < wr.rangeLeft (w.heap.size + 1) w1.heap.size) := Lib.hid (by rw [hrg4.left_eq, ← hrg3.left_eq]; exact HM.out)
        have HL4 := Lib.hid (left_seen HL.out he)
        have HH4 : Hid (∀ kl, (left kl && !kl.sameKey (.int .u8 (o : Int))) = true → has D kl = true) := Lib.hid (fun kl h => HH.out kl (by simp only [Bool.and_eq_true] at h; exact h.1))
        clear hrg3 hB3 hres3 hkin3 hrow HM hb4 hrow4 he
        go_wp2_with fail
        go_roundw
        case rel => exact ⟨rfl, _, _, hrg4, HL4, HH4, hB4, hT, hkin4⟩
        case measure => exact HM4.out
end Go.Proofs.YthellmecdmolcaaDoor
