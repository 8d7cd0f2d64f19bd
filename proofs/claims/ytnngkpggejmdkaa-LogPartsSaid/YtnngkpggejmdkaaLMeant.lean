/-
  The walks of what tells who is meant: of a task, of kinds, between two picks.
-/
import Derived.RangeFuncNested
import Derived.RangeFuncBound
import Derived.RangeFuncCalls
import Derived.RangeFuncLeaves
import Derived.RangeFuncBox
import Derived.Shelf.Abstract
import Derived.Shelf.RegionOpen
import Derived.Test.YtnngkpggejmdkaaLBase
namespace Go.Proofs.Ytnngkpggejmdkaa
open Go.RowKit Go.Shelf

/-- What tells who is meant: it answers P, whatever has been made since. -/
structure Meant (K : Nat) (lb : Array Value) (P : En → Bool) (w : World) : Prop where
  enter : ∀ (args : Array Value) (W : World), (callFunc K args).run Try.prog W = .ok (.enter K args) W
  call : ∀ (W : World) (x : En), Below w.heap.size w W → x.ok → Calls Try.prog K (#[x.val] ++ lb) W fun e w' => e = .returned (.bool (P x)) ∧ Below W.heap.size W w'
theorem meant_later {K : Nat} {lb : Array Value} {P : En → Bool} {w w1 : World} (h : Meant K lb P w) (hb : Below w.heap.size w w1) : Meant K lb P w1 :=
  ⟨h.enter, fun W x hW hx => h.call W x (below_nx hb hW (Nat.le_refl _)) hx⟩
theorem meant_every (w : World) : Meant 24 #[] allE w := ⟨enters_of Try.func24 (by kernel_rfl) rfl, fun W x _ _ => every_any x W⟩
theorem meant_commit (w : World) : Meant 25 #[] isCom w := ⟨enters_of Try.func25 (by kernel_rfl) rfl, fun W x _ _ => ecommit_any x W⟩

set_option maxRecDepth 100000 in
set_option maxHeartbeats 4000000 in
theorem ofTask1_any (t : Int) (n : Nat) (x : En) (w : World) (hc : w.cell? ⟨n, 0, none⟩ = some (.int .i64 t)) :
    Calls Try.prog 39 #[x.val, .pointer (some ⟨n, 0, none⟩)] w fun e w' => e = .returned (.bool (isOf t x)) ∧ Below w.heap.size w w' := by
  obtain ⟨w1, hw⟩ : ∃ w1, w1 = w.alloc (.cells #[.int .i64 x.a, .int .u8 (x.k : Int), .int .i64 x.w, .int .i64 x.t, .int .i64 x.p, .int .i64 x.c, .int .i64 x.b, .int .i64 x.q, .int .i64 x.v, .int .i64 x.u, .bool x.o, .int .i64 x.e, .int .u64 (x.s : Int)] 31) := ⟨_, rfl⟩
  have hb : Below w.heap.size w w1 := by rw [hw]; exact below1 w _
  have hX : EnAt w1 w.heap.size x := by rw [hw]; exact enAt_new w x
  have hc1 : w1.cell? ⟨n, 0, none⟩ = some (.int .i64 t) := (But.of_below hb []).cell hc (by simp)
  have c1 := hX.c1
  have c3 := hX.c3
  have c4 := hX.c4
  have h1 := hasTask_any x.k w1
  have h2 := hasPeer_any x.k w1
  have HP : Hid (isOf t x = ((x.t == t && (x.k != 26) || x.p == t && hasP x.k) && t != -1)) := Lib.hid rfl
  obtain ⟨b1, e1⟩ : ∃ b, (x.t == t) = b := ⟨_, rfl⟩
  obtain ⟨b2, e2⟩ : ∃ b, (x.p == t) = b := ⟨_, rfl⟩
  obtain ⟨b3, e3⟩ : ∃ b, (t != -1) = b := ⟨_, rfl⟩
  rw [e1, e2, e3] at HP
  generalize (x.k != 26) = b4 at h1 HP
  generalize hasP x.k = b5 at h2 HP
  unfold En.val
  go_enter Try.func39, Try.ntmps39
  go_upto_region 1 with fail
  rw [← hw]
  clear hw hc
  cases b1 <;> cases b2 <;> cases b3 <;> cases b4 <;> cases b5
  all_goals go_wp2_with (first | (go_at_call 40; refine h1.mono ?_; rintro e w2 ⟨rfl, rfl⟩) | (go_at_call 41; refine h2.mono ?_; rintro e w2 ⟨rfl, rfl⟩))
  all_goals go_ret
  all_goals exact ⟨ret_b HP.out.symm, hb⟩
theorem ofTask_any (t : Int) (w : World) :
    Calls Try.prog 29 #[.int .i64 t] w fun e w' => e = .returned (.func (.func 39) #[] #[.pointer (some ⟨w.heap.size, 0, none⟩)]) ∧ w' = w.alloc (.cells #[.int .i64 t] 3) := by
  go_enter Try.func29, Try.ntmps29
  go_wp2_with fail
  go_ret
  exact ⟨rfl, rfl⟩
theorem meant_task (t : Int) (w : World) : Meant 39 #[.pointer (some ⟨w.heap.size, 0, none⟩)] (isOf t) (w.alloc (.cells #[.int .i64 t] 3)) :=
  ⟨enters_of Try.func39 (by kernel_rfl) rfl, fun W x hW _ => ofTask1_any t w.heap.size x W ((But.of_below hW []).cell (Boxed.new w 3 (.int .i64 t)).cell (by simp))⟩

theorem between1_any (f t : Int) (n m : Nat) (x : En) (w : World) (hc : w.cell? ⟨n, 0, none⟩ = some (.int .i64 f)) (hd : w.cell? ⟨m, 0, none⟩ = some (.int .i64 t)) :
    Calls Try.prog 28 #[x.val, .pointer (some ⟨n, 0, none⟩), .pointer (some ⟨m, 0, none⟩)] w fun e w' => e = .returned (.bool (isIn f t x)) ∧ Below w.heap.size w w' := by
  obtain ⟨w1, hw⟩ : ∃ w1, w1 = w.alloc (.cells #[.int .i64 x.a, .int .u8 (x.k : Int), .int .i64 x.w, .int .i64 x.t, .int .i64 x.p, .int .i64 x.c, .int .i64 x.b, .int .i64 x.q, .int .i64 x.v, .int .i64 x.u, .bool x.o, .int .i64 x.e, .int .u64 (x.s : Int)] 31) := ⟨_, rfl⟩
  have hb : Below w.heap.size w w1 := by rw [hw]; exact below1 w _
  have hX : EnAt w1 w.heap.size x := by rw [hw]; exact enAt_new w x
  have hc1 : w1.cell? ⟨n, 0, none⟩ = some (.int .i64 f) := (But.of_below hb []).cell hc (by simp)
  have hd1 : w1.cell? ⟨m, 0, none⟩ = some (.int .i64 t) := (But.of_below hb []).cell hd (by simp)
  have c0 := hX.c0
  unfold En.val
  go_enter Try.func28, Try.ntmps28
  go_upto_region 1 with fail
  rw [← hw]
  clear hw hc hd
  by_cases h1 : f ≤ x.a
  · by_cases h2 : x.a < t
    · have HP : Hid (isIn f t x = true) := Lib.hid (by simp [isIn, h1, h2])
      go_wp2_with fail
      go_ret
      exact ⟨ret_b HP.out.symm, hb⟩
    · have HP : Hid (isIn f t x = false) := Lib.hid (by simp [isIn, h2])
      go_wp2_with fail
      go_ret
      exact ⟨ret_b HP.out.symm, hb⟩
  · have HP : Hid (isIn f t x = false) := Lib.hid (by simp [isIn, h1])
    go_wp2_with fail
    go_ret
    exact ⟨ret_b HP.out.symm, hb⟩

theorem meant_between {f t : Int} {n m : Nat} {w : World} (h1 : Boxed w n 2 (.int .i64 f)) (h2 : Boxed w m 2 (.int .i64 t)) : Meant 28 #[.pointer (some ⟨n, 0, none⟩), .pointer (some ⟨m, 0, none⟩)] (isIn f t) w :=
  ⟨enters_of Try.func28 (by kernel_rfl) rfl, fun W x hW _ => between1_any f t n m x W ((But.of_below hW []).cell h1.cell (by simp)) ((But.of_below hW []).cell h2.cell (by simp))⟩

/-- Block n tells, of each kind, whether it is one of these. -/
def Told (W : World) (n : Nat) (ks : List Nat) : Prop := ∃ cs : Array Value, W.heap[n]? = some (.cells cs 70 (0, 0)) ∧ cs.size = 256 ∧ ∀ k, k < 256 → cs[k]? = some (.bool (ks.contains k))
section
variable {W W' : World} {n : Nat} {ks : List Nat}
theorem Told.lt (h : Told W n ks) : n < W.heap.size := by obtain ⟨cs, h1, _⟩ := h; exact (Array.getElem?_eq_some_iff.1 h1).1
theorem Told.cell (h : Told W n ks) {k : Nat} (hk : k < 256) : W.cell? ⟨n, k, none⟩ = some (.bool (ks.contains k)) := by
  obtain ⟨cs, h1, h2, h3⟩ := h
  simp only [World.cell?, h1]
  exact h3 k hk
theorem Told.frozen (h : Told W n ks) (k : Nat) : W.frozen? ⟨n, k, none⟩ = false := by
  obtain ⟨cs, h1, _⟩ := h
  simp [World.frozen?, h1]
theorem Told.keep (h : Told W n ks) (hb : But [] W W') : Told W' n ks := by
  have hl := h.lt
  obtain ⟨cs, h1, h2⟩ := h
  exact ⟨cs, (hb.block n hl (by simp)).trans h1, h2⟩
theorem Told.set (h : Told W n ks) {k : Nat} (hk : k < 256) : Told (W.setCell ⟨n, k, none⟩ (.bool true)) n (ks ++ [k]) := by
  obtain ⟨cs, h1, h2, h3⟩ := h
  refine ⟨_, heap_set_same (k := k) (.bool true) h1, by simp [h2], fun j hj => ?_⟩
  by_cases e : j = k
  · subst e
    rw [Array.getElem?_setIfInBounds_self_of_lt (by omega)]
    simp
  · rw [Array.getElem?_setIfInBounds_ne (Ne.symm e), h3 j hj]
    simp [e]
end
theorem ofKinds1_any (ks : List Nat) (n : Nat) (x : En) (hx : x.ok) (w : World) (hc : Told w n ks) :
    Calls Try.prog 42 #[x.val, .pointer (some ⟨n, 0, none⟩)] w fun e w' => e = .returned (.bool (isKind ks x)) ∧ Below w.heap.size w w' := by
  obtain ⟨w1, hw⟩ : ∃ w1, w1 = w.alloc (.cells #[.int .i64 x.a, .int .u8 (x.k : Int), .int .i64 x.w, .int .i64 x.t, .int .i64 x.p, .int .i64 x.c, .int .i64 x.b, .int .i64 x.q, .int .i64 x.v, .int .i64 x.u, .bool x.o, .int .i64 x.e, .int .u64 (x.s : Int)] 31) := ⟨_, rfl⟩
  have hb : Below w.heap.size w w1 := by rw [hw]; exact below1 w _
  have hX : EnAt w1 w.heap.size x := by rw [hw]; exact enAt_new w x
  have hk := hx.k
  have hc1 := (hc.keep (But.of_below hb [])).cell hk
  have hk0 : (0 : Int) ≤ (x.k : Int) := by omega
  have hk1 : (x.k : Int) < 256 := by omega
  have c1 := hX.c1
  unfold En.val isKind
  generalize ks.contains x.k = b at hc1
  go_enter Try.func42, Try.ntmps42
  go_upto_region 1 with fail
  rw [← hw]
  clear hw hc
  go_wp2_with fail
  go_ret
  exact ⟨rfl, hb⟩
theorem meant_kinds {ks : List Nat} {n : Nat} {w : World} (h : Told w n ks) : Meant 42 #[.pointer (some ⟨n, 0, none⟩)] (isKind ks) w :=
  ⟨enters_of Try.func42 (by kernel_rfl) rfl, fun W x hW hx => ofKinds1_any ks n x hx W (h.keep (But.of_below hW []))⟩
end Go.Proofs.Ytnngkpggejmdkaa
