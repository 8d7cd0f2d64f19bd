/-
  A pool of the call's own; the walks of tollbarlaw06's alive and nothing.
-/
import Derived.Laws.StructEq
import Derived.Test.YtmllalmdaobboaaPCopy
namespace Go.Proofs.Ytmllalmdaobboaa
open Go.RowKit

theorem below_next {w wx w1 : World} (h : Below w.heap.size w wx) (k : Below wx.heap.size wx w1) : Below w.heap.size w w1 := h.trans (k.mono h.size)

/-- A pool that was made since w0, where nothing older was turned. -/
structure Mine (w0 W : World) (B V cap : Nat) (T : List (Option Sud)) (F : List Nat) : Prop where
  pool : PoolAt W B V cap T F
  but : But [] w0 W
  ownB : w0.heap.size ≤ B
  ownV : w0.heap.size ≤ V

section
variable {w0 W W' : World} {B V cap : Nat} {T : List (Option Sud)} {F : List Nat}
theorem Mine.fresh (h : Mine w0 W B V cap T F) (hb : But [] W W') : Mine w0 W' B V cap T F := ⟨h.pool.but hb (by simp) (by simp), h.but.next hb, h.ownB, h.ownV⟩
theorem Mine.drewN (h : Mine w0 W B V cap T F) (k : Nat) : Mine w0 (W.drewN k) B V cap T F := ⟨h.pool.drewN k, h.but.drewN k, h.ownB, h.ownV⟩
theorem Mine.drew (h : Mine w0 W B V cap T F) : Mine w0 W.drew B V cap T F := h.drewN 1
theorem Mine.below (h : Mine w0 W B V cap T F) : Below w0.heap.size w0 W := h.but.below (Nat.le_refl _) (by simp)
theorem Mine.later (h : Mine w0 W B V cap T F) (hb : Below W.heap.size W W') : Mine w0 W' B V cap T F := h.fresh (But.of_below hb [])
/-- What writes a row of the call's own leaves the pool. -/
theorem Mine.beside (h : Mine w0 W B V cap T F) {S : List Nat} (hb : But S W W') (hB : B ∉ S) (hV : V ∉ S) (hS : ∀ x ∈ S, w0.heap.size ≤ x) : Mine w0 W' B V cap T F := ⟨h.pool.but hb hB hV, h.but.own hb hS, h.ownB, h.ownV⟩
end

theorem m_new {n : Nat} {T : List (Option Sud)} {F : List Nat} {k : Int} {w0 : World} (w : World) (hz : But [] w0 w) (h1 : 1 ≤ n) (h2 : n ≤ 1024) (hk : k = (n : Int)) (hT : T = List.replicate n none) (hF : F = List.range n) :
    Calls Try.prog 8 #[.int .i64 k] w fun e w' => ∃ B V, e = .returned (.tuple #[.pointer (some ⟨B, 0, none⟩), .int .i64 0]) ∧ Mine w0 w' B V n T F ∧ w.heap.size ≤ B ∧ w.heap.size ≤ V ∧ But [] w w' := by
  subst hT hF hk
  refine (new_ok n w h1 h2).mono ?_
  rintro e w' ⟨B, V, h3, h4, h5, h6, h7⟩
  exact ⟨B, V, h3, ⟨h4, hz.next h7, Nat.le_trans hz.size h5, Nat.le_trans hz.size h6⟩, h5, h6, h7⟩
section
variable {w0 : World} {B V cap : Nat} {T T' : List (Option Sud)} {F : List Nat}
theorem m_take {i : Nat} {v : Value} (x : Sud) (w : World) (h : Mine w0 w B V cap T (i :: F)) (hv : v = sudA x) (hT : T' = T.set i (some x)) :
    Calls Try.prog 10 #[.pointer (some ⟨B, 0, none⟩), v] w fun e w' => e = .returned (.tuple #[.int .i64 (i : Int), .int .i64 0]) ∧ Mine w0 w' B V cap T' F ∧ But [B, V] w w' := by
  subst hv hT
  refine (pt_take x w h.pool).mono ?_
  rintro e w' ⟨h1, h2, h3⟩
  exact ⟨h1, ⟨h2, h.but.own h3 (by simp only [List.mem_cons, List.not_mem_nil, or_false]; rintro x (rfl | rfl); exact h.ownB; exact h.ownV), h.ownB, h.ownV⟩, h3⟩
theorem m_full {v : Value} (x : Sud) (w : World) (h : Mine w0 w B V cap T []) (hv : v = sudA x) :
    Calls Try.prog 10 #[.pointer (some ⟨B, 0, none⟩), v] w fun e w' => e = .returned (.tuple #[.int .i64 0, .int .i64 4]) ∧ Mine w0 w' B V cap T [] ∧ But [] w w' := by
  subst hv
  exact (pt_take_full x w h.pool).mono fun _ _ ⟨h1, h2⟩ => ⟨h1, h.fresh h2, h2⟩
theorem m_give {i : Nat} {x : Sud} {k : Int} (w : World) (h : Mine w0 w B V cap T F) (hi : T[i]? = some (some x)) (hk : k = (i : Int)) (hT : T' = T.set i none) :
    Calls Try.prog 12 #[.pointer (some ⟨B, 0, none⟩), .int .i64 k] w fun e w' => e = .returned (.int .i64 0) ∧ Mine w0 w' B V cap T' (i :: F) ∧ But [B, V] w w' := by
  subst hk hT
  refine (pt_give w h.pool hi).mono ?_
  rintro e w' ⟨h1, h2, h3⟩
  exact ⟨h1, ⟨h2, h.but.own h3 (by simp only [List.mem_cons, List.not_mem_nil, or_false]; rintro x (rfl | rfl); exact h.ownB; exact h.ownV), h.ownB, h.ownV⟩, h3⟩
end


set_option maxRecDepth 100000 in
set_option maxHeartbeats 1600000 in
theorem alive_any (w : World) :
    Calls Try.prog 6 #[] w fun e w' => e = .returned (.bool true) ∧ Below w.heap.size w w' := by
  go_enter Try.func6, Try.ntmps6
  go_wp2_with fail
  refine (m_new (n := 3) (T := [none, none, none]) (F := [0, 1, 2]) _ (But.refl [] w) (by omega) (by omega) rfl rfl rfl).mono ?_
  rintro e w1 ⟨B, V, rfl, hP, -, -, -⟩
  go_wp2_with fail
  refine (new_bad 0 _ (.inl (by omega))).mono ?_
  rintro e w2 ⟨rfl, rfl⟩
  go_wp2_with fail
  refine (m_take (T' := [some (5, 0, false, 0, 0), none, none]) (5, 0, false, 0, 0) _ hP rfl rfl).mono ?_
  rintro e w3 ⟨rfl, hP, -⟩
  go_wp2_with fail
  refine (m_take (T' := [some (5, 0, false, 0, 0), some (6, 0, false, 0, 0), none]) (6, 0, false, 0, 0) _ hP rfl rfl).mono ?_
  rintro e w4 ⟨rfl, hP, -⟩
  go_wp2_with fail
  refine (m_give (i := 0) (T' := [none, some (6, 0, false, 0, 0), none]) _ hP rfl rfl rfl).mono ?_
  rintro e w5 ⟨rfl, hP, -⟩
  go_wp2_with fail
  refine (m_take (T' := [some (7, 0, false, 0, 0), some (6, 0, false, 0, 0), none]) (7, 0, false, 0, 0) _ hP rfl rfl).mono ?_
  rintro e w6 ⟨rfl, hP, -⟩
  go_wp2_with fail
  refine (m_take (T' := [some (7, 0, false, 0, 0), some (6, 0, false, 0, 0), some (8, 0, false, 0, 0)]) (8, 0, false, 0, 0) _ hP rfl rfl).mono ?_
  rintro e w7 ⟨rfl, hP, -⟩
  go_wp2_with fail
  refine (m_full zeroS _ hP rfl).mono ?_
  rintro e w8 ⟨rfl, hP, -⟩
  go_wp2_with fail
  refine (m_give (i := 1) (T' := [some (7, 0, false, 0, 0), none, some (8, 0, false, 0, 0)]) _ hP rfl rfl rfl).mono ?_
  rintro e w9 ⟨rfl, hP, -⟩
  go_wp2_with fail
  refine (pt_give_not (i := 1) _ hP.pool rfl).mono ?_
  rintro e w10 ⟨rfl, rfl⟩
  go_wp2_with fail
  refine (pt_of 0 _ hP.pool).mono ?_
  rintro e w11 ⟨rfl, hb⟩
  have hP1 := hP.fresh hb
  clear hb hP
  rw [show (heldAt [some ((7, 0, false, 0, 0) : Sud), none, some (8, 0, false, 0, 0)] 0) = some (7, 0, false, 0, 0) from rfl]
  simp only [Option.getD_some, Option.isSome_some, sudA]
  go_wp2_with fail
  have hP2 := hP1.fresh ((But.refl [] _).alloc (.cells #[.int .i64 7, .int .i64 0, .bool false, .int .i64 0, .int .u64 0] 32))
  refine (pt_len _ hP2.pool).mono ?_
  rintro e w12 ⟨rfl, rfl⟩
  rw [show cntTo [some ((7, 0, false, 0, 0) : Sud), none, some (8, 0, false, 0, 0)] (List.length [some ((7, 0, false, 0, 0) : Sud), none, some (8, 0, false, 0, 0)]) = 2 from rfl]
  go_wp2_with fail
  refine (pt_free _ hP2.pool).mono ?_
  rintro e w13 ⟨rfl, m, rfl⟩
  rw [show List.length [1] = 1 from rfl]
  have hb := (hP2.drewN m).below
  clear hP1 hP2
  go_wp2_with fail
  go_ret
  exact ⟨rfl, hb⟩

set_option maxRecDepth 100000 in
set_option maxHeartbeats 1600000 in
theorem nothing_any (w : World) :
    Calls Try.prog 7 #[] w fun e w' => e = .returned (.bool true) ∧ Below w.heap.size w w' := by
  go_enter Try.func7, Try.ntmps7
  go_wp2_with fail
  refine (take_nil zeroS _).mono ?_
  rintro e w1 ⟨rfl, hb⟩
  go_wp2_with fail
  refine (of_not 0 _ (has_nil 0 _)).mono ?_
  rintro e w2 ⟨rfl, hb2⟩
  have hB2 := hb.next hb2
  clear hb hb2
  simp only [sudA, zeroS]
  go_wp2_with fail
  refine (give_nil _ _).mono ?_
  rintro e w3 ⟨rfl, rfl⟩
  go_wp2_with fail
  refine (plen_nil _).mono ?_
  rintro e w3 ⟨rfl, rfl⟩
  go_wp2_with fail
  refine (free_nil _).mono ?_
  rintro e w3 ⟨rfl, rfl⟩
  go_wp2_with fail
  refine (plist_nil _).mono ?_
  rintro e w3 ⟨a, c, rfl, hb3⟩
  have hB3 := (hB2.alloc (.cells #[.int .i64 0, .int .i64 0, .bool false, .int .i64 0, .int .u64 0] 32)).next (But.of_below hb3 [])
  clear hB2 hb3
  go_wp2_with fail
  refine (pcopy_nil _).mono ?_
  rintro e w4 ⟨rfl, rfl⟩
  have hb := hB3.below (Nat.le_refl _) (by simp)
  clear hB3
  go_wp2_with fail
  go_ret
  exact ⟨rfl, hb⟩
end Go.Proofs.Ytmllalmdaobboaa
