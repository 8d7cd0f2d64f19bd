/-
  Logs in memory; the walks of what tells who is meant.
-/
import Derived.Deep.Cut
import Derived.Deep.CutRange
import Derived.Deep.RegionHeld3
import Derived.Test.YtnngkpggejmdkaaLPure
namespace Go.Proofs.Ytnngkpggejmdkaa
open Go.RowKit

/-- Block B is a log: its entries xs lie in a row of its own. -/
structure LogAt (W : World) (b B : Nat) (v : Value) (xs : List En) : Prop where
  head : Boxed W B 47 v
  row : W.ownsRow b 31 13 v xs.length (xs.flatMap En.cellsL)

section
variable {W W' : World} {b B : Nat} {v : Value} {xs : List En}
theorem LogAt.lt (h : LogAt W b B v xs) : B < W.heap.size := h.head.lt
theorem LogAt.rowB (h : LogAt W b B v xs) {g : Nat} (hg : v.ownBlock = some g) : g < W.heap.size ∧ b ≤ g := ⟨(h.row.lt g hg).2, (h.row.lt g hg).1⟩
theorem LogAt.but (h : LogAt W b B v xs) {S : List Nat} (hb : But S W W') (hB : B ∉ S) (hn : ∀ g, v.ownBlock = some g → g ∉ S) : LogAt W' b B v xs := ⟨hb.boxed h.head hB, hb.row h.row hn⟩
theorem LogAt.keep (h : LogAt W b B v xs) (hb : But [] W W') : LogAt W' b B v xs := h.but hb (by simp) (fun _ _ => by simp)
theorem LogAt.below (h : LogAt W b B v xs) (hb : Below W.heap.size W W') : LogAt W' b B v xs := h.keep (But.of_below hb [])
theorem LogAt.entries (h : LogAt W b B v xs) : EnRow W v xs := EnRow.of_owns h.row
end

theorem every_any (x : En) (w : World) :
    Calls Try.prog 24 #[x.val] w fun e w' => e = .returned (.bool true) ∧ Below w.heap.size w w' := by
  unfold En.val
  have hb := below1 w
  go_enter Try.func24, Try.ntmps24
  go_wp2_with fail
  go_ret
  exact ⟨rfl, hb _⟩

theorem ecommit_any (x : En) (w : World) :
    Calls Try.prog 25 #[x.val] w fun e w' => e = .returned (.bool (isCom x)) ∧ Below w.heap.size w w' := by
  obtain ⟨w1, hw⟩ : ∃ w1, w1 = w.alloc (.cells #[.int .i64 x.a, .int .u8 (x.k : Int), .int .i64 x.w, .int .i64 x.t, .int .i64 x.p, .int .i64 x.c, .int .i64 x.b, .int .i64 x.q, .int .i64 x.v, .int .i64 x.u, .bool x.o, .int .i64 x.e, .int .u64 (x.s : Int)] 31) := ⟨_, rfl⟩
  have hb : Below w.heap.size w w1 := by rw [hw]; exact below1 w _
  have hX : EnAt w1 w.heap.size x := by rw [hw]; exact enAt_new w x
  have c1 := hX.c1
  have hc := commit_any x.k w1
  rw [hw] at c1
  unfold En.val
  go_enter Try.func25, Try.ntmps25
  go_wp2_with fail
  rw [← hw]
  clear hw
  refine hc.mono ?_
  rintro e w2 ⟨rfl, rfl⟩
  go_wp2_with fail
  go_ret
  exact ⟨rfl, hb⟩

theorem hasTask_any (k : Nat) (w : World) :
    Calls Try.prog 40 #[.int .u8 (k : Int)] w fun e w' => e = .returned (.bool (k != 26)) ∧ w' = w := by
  have e1 : ((k : Int) != 26) = (k != 26) := by
    by_cases h : k = 26
    · subst h; rfl
    · have h' : (k : Int) ≠ 26 := by omega
      rw [bne_iff_ne.2 h, bne_iff_ne.2 h']
  go_enter Try.func40, Try.ntmps40
  go_wp2_with fail
  go_ret
  exact ⟨rfl, rfl⟩
def hasP (k : Nat) : Bool := k == 3 || (k == 4 || (k == 6 || (k == 9 || k == 11)))
theorem hasPeer_any (k : Nat) (w : World) :
    Calls Try.prog 41 #[.int .u8 (k : Int)] w fun e w' => e = .returned (.bool (hasP k)) ∧ w' = w := by
  have e : ∀ n : Nat, ((k : Int) == (n : Int)) = (k == n) := fun n => by
    by_cases h : k = n
    · subst h; simp
    · have h' : (k : Int) ≠ (n : Int) := by omega
      rw [beq_eq_false_iff_ne.2 h, beq_eq_false_iff_ne.2 h']
  have e3 : ((k : Int) == 3) = (k == 3) := e 3
  have e4 : ((k : Int) == 4) = (k == 4) := e 4
  have e6 : ((k : Int) == 6) = (k == 6) := e 6
  have e9 : ((k : Int) == 9) = (k == 9) := e 9
  have e11 : ((k : Int) == 11) = (k == 11) := e 11
  have HP : Hid (hasP k = (k == 3 || (k == 4 || (k == 6 || (k == 9 || k == 11))))) := Lib.hid rfl
  clear e
  generalize (k == 3) = b3 at e3 HP
  generalize (k == 4) = b4 at e4 HP
  generalize (k == 6) = b6 at e6 HP
  generalize (k == 9) = b9 at e9 HP
  generalize (k == 11) = b11 at e11 HP
  go_enter Try.func41, Try.ntmps41
  cases b3
  · cases b4
    · cases b6
      · cases b9
        · cases b11
          · go_wp2_with fail
            go_ret
            exact ⟨ret_b HP.out.symm, rfl⟩
          · go_wp2_with fail
            go_ret
            exact ⟨ret_b HP.out.symm, rfl⟩
        · go_wp2_with fail
          go_ret
          exact ⟨ret_b HP.out.symm, rfl⟩
      · go_wp2_with fail
        go_ret
        exact ⟨ret_b HP.out.symm, rfl⟩
    · go_wp2_with fail
      go_ret
      exact ⟨ret_b HP.out.symm, rfl⟩
  · go_wp2_with fail
    go_ret
    exact ⟨ret_b HP.out.symm, rfl⟩
end Go.Proofs.Ytnngkpggejmdkaa
