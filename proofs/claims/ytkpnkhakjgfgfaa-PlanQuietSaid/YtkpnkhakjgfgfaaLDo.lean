/-
  Queues as rows; the walks of Has, Next, Front, Len, Put over a row.
-/
import Derived.Deep.RegionWith
import Derived.Deep.RegionHeld3
import Derived.Test.YtkpnkhakjgfgfaaLJoin
namespace Go.Proofs.Ytkpnkhakjgfgfaa.Lq
open Go.RowKit

/-- Block B is the queue xs; its map is in block M. -/
def Que (W : World) (B M : Nat) (xs : List Int) : Prop := ∃ (g : Gs) (f l : Int), Lst W B M g f l xs.length ∧ Lk g f l xs

theorem nodup_le : ∀ (n : Nat) (l : List Int), l.Nodup → (∀ x ∈ l, 0 ≤ x ∧ x < (n : Int)) → l.length ≤ n
  | 0, l, _, h => by
    cases l with
    | nil => simp
    | cons x t => have := h x (by simp); omega
  | n + 1, l, hn, h => by
    have h1 := nodup_le n (l.erase (n : Int)) (hn.erase _) (fun x hx => by
      have hx' := (hn.mem_erase_iff).1 hx
      have := h x hx'.2
      have h3 := hx'.1
      omega)
    have h2 := List.length_erase (a := (n : Int)) (l := l)
    split at h2 <;> omega

section
variable {W W' : World} {B M : Nat} {xs : List Int}
theorem Que.nd (h : Que W B M xs) : xs.Nodup := by obtain ⟨_, _, _, _, h⟩ := h; exact h.nd
theorem Que.rng (h : Que W B M xs) : ∀ x ∈ xs, 0 ≤ x ∧ x < 1024 := by obtain ⟨_, _, _, _, h⟩ := h; exact h.rng
theorem Que.le (h : Que W B M xs) : xs.length ≤ 1024 := nodup_le 1024 xs h.nd h.rng
theorem Que.ltB (h : Que W B M xs) : B < W.heap.size := by obtain ⟨_, _, _, h, _⟩ := h; exact h.ltB
theorem Que.ltM (h : Que W B M xs) : M < W.heap.size := by obtain ⟨_, _, _, h, _⟩ := h; exact h.map.lt
theorem Que.ne (h : Que W B M xs) : B ≠ M := by obtain ⟨_, _, _, h, _⟩ := h; exact h.ne
theorem Que.but (h : Que W B M xs) {S : List Nat} (hb : But S W W') (h1 : B ∉ S) (h2 : M ∉ S) : Que W' B M xs := by
  obtain ⟨g, f, l, h, k⟩ := h; exact ⟨g, f, l, h.but hb h1 h2, k⟩
theorem Que.fresh (h : Que W B M xs) (hb : But [] W W') : Que W' B M xs := h.but hb (by simp) (by simp)
theorem Que.drew (h : Que W B M xs) : Que W.drew B M xs := h.fresh (But.refl [] W).drew
theorem Que.congr (h : Que W B M xs) {ys : List Int} (e : xs = ys) : Que W B M ys := e ▸ h
theorem Que.head (h : Que W B M xs) : ∃ cs z, W.heap[B]? = some (.cells cs 99 z) := by obtain ⟨_, _, _, h, _⟩ := h; exact ⟨_, _, h.head⟩
theorem Que.map (h : Que W B M xs) : ∃ es c, W.heap[M]? = some (.map es c) := by obtain ⟨_, _, _, h, _⟩ := h; exact h.map.is
end

theorem has_any {B M : Nat} {xs : List Int} (i : Int) (hi : I64b i) (w : World) (h : Que w B M xs) :
    Calls Try.prog 55 #[.pointer (some ⟨B, 0, none⟩), .int .i64 i] w fun e w' => e = .returned (.bool (decide (i ∈ xs))) ∧ But [] w w' := by
  obtain ⟨g, f, l, h, k⟩ := h
  refine (has_raw i hi w h).mono ?_
  rintro e w' ⟨rfl, hb⟩
  refine ⟨?_, hb⟩
  have : (g i).isSome = decide (i ∈ xs) := by
    have := k.dom i
    by_cases e : i ∈ xs
    · rw [this.2 e]; simp [e]
    · simp only [e, decide_false]
      cases e2 : (g i).isSome
      · rfl
      · exact absurd (this.1 e2) e
  rw [this]
theorem front_any {B M : Nat} {xs : List Int} (w : World) (h : Que w B M xs) :
    Calls Try.prog 47 #[.pointer (some ⟨B, 0, none⟩)] w fun e w' => e = .returned (.tuple #[.int .i64 ((xs[0]?).getD 0), .bool (xs[0]?).isSome]) ∧ w' = w := by
  obtain ⟨g, f, l, h, k⟩ := h
  have hf := k.first
  subst hf
  refine front_raw (xs[0]?) (fun v hv => ?_) w h
  have := k.rng v (List.mem_of_getElem? hv)
  omega
/-- The one behind i. -/
def nextE (xs : List Int) (i : Int) : Option Int := match xs.idxOf? i with
  | some k => xs[k + 1]?
  | none => none
theorem made_any (w : World) :
    Calls Try.prog 35 #[] w fun e w' => e = .returned (.pointer (some ⟨w.heap.size + 1, 0, none⟩)) ∧ Que w' (w.heap.size + 1) w.heap.size [] ∧ But [] w w' := by
  refine (new_any w).mono ?_
  rintro e w' ⟨rfl, h, hb⟩
  exact ⟨rfl, ⟨_, _, _, h, Lk.empty⟩, hb⟩

/-! ### Put -/
def putE (xs : List Int) (i : Int) : Int := if i < 0 ∨ 1024 ≤ i then 2 else if i ∈ xs then 9 else 0
def putX (xs : List Int) (i : Int) : List Int := if i < 0 ∨ 1024 ≤ i then xs else if i ∈ xs then xs else xs ++ [i]

theorem put_nil (i : Int) (w : World) :
    Calls Try.prog 39 #[.pointer none, .int .i64 i] w fun e w' => e = .returned (.int .i64 1) ∧ w' = w := by
  go_enter Try.func39, Try.ntmps39
  go_wp2_with fail
  go_ret
  exact ⟨rfl, rfl⟩
theorem put_arg {B : Nat} (i : Int) (h : i < 0 ∨ 1024 ≤ i) (w : World) :
    Calls Try.prog 39 #[.pointer (some ⟨B, 0, none⟩), .int .i64 i] w fun e w' => e = .returned (.int .i64 2) ∧ w' = w := by
  rcases h with h | h
  · have t1 : decide (i < 0) = true := by simpa using h
    go_enter Try.func39, Try.ntmps39
    go_wp2_with fail
    go_ret
    exact ⟨rfl, rfl⟩
  · have t1 : decide (i < 0) = false := by simp; omega
    have t2 : decide (1024 ≤ i) = true := by simpa using h
    have t3 : ¬ i < 0 := by omega
    go_enter Try.func39, Try.ntmps39
    go_wp2_with fail
    go_ret
    exact ⟨rfl, rfl⟩
theorem put_have {B M : Nat} {xs : List Int} (i : Int) (w : World) (h : Que w B M xs) (hm : i ∈ xs) :
    Calls Try.prog 39 #[.pointer (some ⟨B, 0, none⟩), .int .i64 i] w fun e w' => e = .returned (.int .i64 9) ∧ But [] w w' := by
  have hr := h.rng i hm
  have hh := has_any i (by unfold I64b; omega) w h
  simp only [hm, decide_true] at hh
  have t1 : decide (i < 0) = false := by simp; omega
  have t2 : decide (1024 ≤ i) = false := by simp; omega
  have t3 : ¬ i < 0 := by omega
  have t4 : ¬ 1024 ≤ i := by omega
  clear h hm hr
  go_enter Try.func39, Try.ntmps39
  go_wp2_with fail
  refine hh.mono ?_
  rintro e w' ⟨rfl, hb⟩
  go_wp2_with fail
  go_ret
  exact ⟨rfl, hb⟩
set_option maxHeartbeats 1000000 in
theorem put_ok {B M : Nat} {xs : List Int} (i : Int) (w : World) (h : Que w B M xs) (hm : i ∉ xs) (h1 : 0 ≤ i) (h2 : i < 1024) :
    Calls Try.prog 39 #[.pointer (some ⟨B, 0, none⟩), .int .i64 i] w fun e w' => e = .returned (.int .i64 0) ∧ Que w' B M (xs ++ [i]) ∧ But [B, M] w w' := by
  have hib : I64b i := by unfold I64b; omega
  have hh := has_any i hib w h
  simp only [hm, decide_false] at hh
  have t1 : decide (i < 0) = false := by simp; omega
  have t2 : decide (1024 ≤ i) = false := by simp; omega
  have t3 : ¬ i < 0 := by omega
  have t4 : ¬ 1024 ≤ i := by omega
  have hle := h.le
  have hM : xs.length + 1 < maxLen := by unfold maxLen; omega
  go_enter Try.func39, Try.ntmps39
  go_wp2_with fail
  refine hh.mono ?_
  rintro e w1 ⟨rfl, hb1⟩
  obtain ⟨g, f, l, hl, k⟩ := h
  have hlr : I64b l := by
    obtain ⟨p, hp⟩ := k.last
    have : l ∈ -1 :: xs := by rw [hp]; simp
    rcases List.mem_cons.1 this with e | e
    · subst e; unfold I64b; omega
    · have := k.rng l e; unfold I64b; omega
  have hl1 := hl.but hb1 (by simp) (by simp)
  have hcL := hl1.cellL
  have hbx : But [] w1 (w1.alloc (.cells #[.pointer (some ⟨B, 0, none⟩)] 78)).drew := ((But.refl [] _).alloc _).drew
  have hl2 := hl1.but hbx (by simp) (by simp)
  have hcL2 := hl2.cellL
  have hcM2 := hl2.cellM
  have hX : Boxed ((w1.alloc (.cells #[.pointer (some ⟨B, 0, none⟩)] 78)).drew) w1.heap.size 78 (.pointer (some ⟨B, 0, none⟩)) := (MapKept.heap_alloc w1 _).1
  obtain ⟨w3, hrun, hm3, hb3⟩ := hl2.map.store (by omega) hib (0, 0)
  simp only [linkV] at hrun
  rw [k.absent hm] at hm3
  have hl3 : Lst w3 B M (upd g i (some (0, 0))) f l (xs.length + 1) := hl2.mapped hm3 hb3
  have hX3 := hb3.boxed hX (by simpa using map_ne hl2.map hX)
  have hB3 : But [B, M] w w3 := ((hb1.next hbx).mono (by simp)).next (hb3.mono (by simp))
  have hj1 := join_any l i hlr hib hM w3 hl3 hX3
  have HP := Lib.hid (k.put hm ⟨h1, h2⟩)
  have HXM : Hid (w1.heap.size ≠ B ∧ w1.heap.size ≠ M) := Lib.hid ⟨type_ne hX hl2.head (by decide), map_ne hl2.map hX⟩
  have hlen : (xs ++ [i]).length = xs.length + 1 := by simp
  have HL := Lib.hid hlen
  clear hh hl hl1 hl2 hbx hb1 hb3 hm3 k hlr hX hlen hle hm hib
  go_wp2_with fail
  go_region_held3 (fun w' => w'.cell? ⟨B, 2, none⟩ = some (.int .i64 l)) (first | exact hcL | exact hcL2) ((first | (go_at_call 56; refine (joiner_any _ _).mono ?_; rintro e w' ⟨rfl, rfl⟩)))
  all_goals
    go_wp2_with fail
    refine hj1.mono ?_
    rintro e w4 ⟨rfl, hl4, hb4⟩
    have hX4 := hb4.boxed hX3 (by simp [HXM.out])
    have hj2 := join_any i (-1) (by unfold I64b; omega) (by unfold I64b; omega) hM w4 hl4 hX4
    clear hj1 hrun hcL hcL2 hcM2
    go_wp2_with fail
    refine hj2.mono ?_
    rintro e w5 ⟨rfl, hl5, hb5⟩
    clear hj2
    go_wp2_with fail
    go_ret
    exact ⟨rfl, ⟨_, _, _, HL.out ▸ hl5, HP.out⟩, (hB3.next hb4).next hb5⟩
theorem put_any {B M : Nat} {xs : List Int} (i : Int) (w : World) (h : Que w B M xs) :
    Calls Try.prog 39 #[.pointer (some ⟨B, 0, none⟩), .int .i64 i] w fun e w' => e = .returned (.int .i64 (putE xs i)) ∧ Que w' B M (putX xs i) ∧ But [B, M] w w' := by
  unfold putE putX
  by_cases h1 : i < 0 ∨ 1024 ≤ i
  · rw [if_pos h1, if_pos h1]
    refine (put_arg i h1 w).mono ?_
    rintro e w ⟨rfl, rfl⟩
    exact ⟨rfl, h, But.refl _ _⟩
  · rw [if_neg h1, if_neg h1]
    by_cases h2 : i ∈ xs
    · rw [if_pos h2, if_pos h2]
      refine (put_have i w h h2).mono ?_
      rintro e w' ⟨rfl, hb⟩
      exact ⟨rfl, h.fresh hb, hb.mono (by simp)⟩
    · rw [if_neg h2, if_neg h2]
      exact put_ok i w h h2 (by omega) (by omega)
end Go.Proofs.Ytkpnkhakjgfgfaa.Lq
