/-
  The walks of List, Commits, Of, Kind, Between.
-/
import Derived.Test.YtnngkpggejmdkaaLList
namespace Go.Proofs.Ytnngkpggejmdkaa
open Go.RowKit Go.Shelf

/-- What a call tells: those that are meant, in a row of its own. -/
def Tells (w : World) (xs : List En) (P : En → Bool) (e : Ending) (w' : World) : Prop := ∃ v, e = .returned v ∧ w'.ownsRow w.heap.size 31 13 v (xs.filter P).length (flatE (xs.filter P)) ∧ Below w.heap.size w w'
theorem tells_low {w w1 w' : World} {xs : List En} {P : En → Bool} {e : Ending} (hb : Below w.heap.size w w1) (h : Tells w1 xs P e w') : Tells w xs P e w' := by
  obtain ⟨v, h1, h2, h3⟩ := h
  exact ⟨v, h1, Joins.ownsRow_le h2 hb.size, below_nx hb h3 (Nat.le_refl _)⟩
section
variable {b B : Nat} {lv : Value} {xs : List En}
theorem list_any (w : World) (hL : LogAt w b B lv xs) (hl : xs.length ≤ 1000) (hx : ∀ x ∈ xs, x.ok) :
    Calls Try.prog 8 #[.pointer (some ⟨B, 0, none⟩)] w (Tells w xs allE) := by
  have hc := list_of w hL hl hx (meant_every w)
  go_enter Try.func8, Try.ntmps8
  go_wp2_with fail
  refine hc.mono ?_
  rintro e w1 ⟨v, rfl, ho, hb⟩
  obtain ⟨va, vc, rfl⟩ := owns_slice ho
  go_wp2_with fail
  go_ret
  exact ⟨_, rfl, ho, hb⟩
theorem commits_any (w : World) (hL : LogAt w b B lv xs) (hl : xs.length ≤ 1000) (hx : ∀ x ∈ xs, x.ok) :
    Calls Try.prog 9 #[.pointer (some ⟨B, 0, none⟩)] w (Tells w xs isCom) := by
  have hc := list_of w hL hl hx (meant_commit w)
  go_enter Try.func9, Try.ntmps9
  go_wp2_with fail
  refine hc.mono ?_
  rintro e w1 ⟨v, rfl, ho, hb⟩
  obtain ⟨va, vc, rfl⟩ := owns_slice ho
  go_wp2_with fail
  go_ret
  exact ⟨_, rfl, ho, hb⟩
theorem lof_any (t : Int) (w : World) (hL : LogAt w b B lv xs) (hl : xs.length ≤ 1000) (hx : ∀ x ∈ xs, x.ok) :
    Calls Try.prog 15 #[.pointer (some ⟨B, 0, none⟩), .int .i64 t] w (Tells w xs (isOf t)) := by
  have hc := list_of _ (hL.below (below1 w _)) hl hx (meant_task t w)
  have h1 := ofTask_any t w
  go_enter Try.func15, Try.ntmps15
  go_wp2_with fail
  refine h1.mono ?_
  rintro e w1 ⟨rfl, rfl⟩
  go_wp2_with fail
  refine hc.mono ?_
  rintro e w1 ⟨v, rfl, ho, hb⟩
  have hT : Tells w xs (isOf t) (.returned v) w1 := tells_low (below1 w _) ⟨v, rfl, ho, hb⟩
  obtain ⟨va, vc, rfl⟩ := owns_slice ho
  clear ho hb
  go_wp2_with fail
  go_ret
  exact hT
theorem kind_any (v : Value) (ks : List Nat) (w : World) (hr : KRow w v ks) (hk : ∀ k ∈ ks, k < 256) (hkl : ks.length ≤ 1000) (hL : LogAt w b B lv xs) (hl : xs.length ≤ 1000) (hx : ∀ x ∈ xs, x.ok) :
    Calls Try.prog 16 #[.pointer (some ⟨B, 0, none⟩), v] w (Tells w xs (isKind ks)) := by
  have h1 := ofKinds_any v ks w hr hk hkl
  obtain ⟨ra, rc, rfl, hr2⟩ := hr
  clear hr2
  go_enter Try.func16, Try.ntmps16
  go_wp2_with fail
  refine h1.mono ?_
  rintro e w1 ⟨rfl, hT, hb1⟩
  have hc := list_of _ (hL.below hb1) hl hx (meant_kinds hT)
  go_wp2_with fail
  refine hc.mono ?_
  rintro e w2 ⟨v, rfl, ho, hb⟩
  have hT : Tells w xs (isKind ks) (.returned v) w2 := tells_low hb1 ⟨v, rfl, ho, hb⟩
  obtain ⟨va, vc, rfl⟩ := owns_slice ho
  clear ho hb
  go_wp2_with fail
  go_ret
  exact hT
theorem between_any (f t : Int) (w : World) (hL : LogAt w b B lv xs) (hl : xs.length ≤ 1000) (hx : ∀ x ∈ xs, x.ok) :
    Calls Try.prog 12 #[.pointer (some ⟨B, 0, none⟩), .int .i64 f, .int .i64 t] w (Tells w xs (isIn f t)) := by
  have b1 := Boxed.new w 2 (.int .i64 f)
  have b2 := Boxed.new (w.alloc (.cells #[.int .i64 f] 2)) 2 (.int .i64 t)
  simp only [World.size_alloc] at b2
  have hb2 := below2 w (.cells #[.int .i64 f] 2) (.cells #[.int .i64 t] 2)
  have hc := list_of _ (hL.below hb2) hl hx (meant_between (b1.alloc _) b2)
  go_enter Try.func12, Try.ntmps12
  go_wp2_with fail
  refine hc.mono ?_
  rintro e w1 ⟨v, rfl, ho, hb⟩
  have hT : Tells w xs (isIn f t) (.returned v) w1 := tells_low hb2 ⟨v, rfl, ho, hb⟩
  obtain ⟨va, vc, rfl⟩ := owns_slice ho
  clear ho hb
  go_wp2_with fail
  go_ret
  exact hT
end
end Go.Proofs.Ytnngkpggejmdkaa
