/-
  The walks of guard.New, All, Next, slices.Clone, Held, and what none of these answers of no guard.
-/
import Derived.Test.YtbjfongjdlankaaUMath
namespace Go.Proofs.Ytbjfongjdlankaa
open Go.RowKit

theorem drewN_add (w : World) (m k : Nat) : (w.drewN m).drewN k = w.drewN (m + k) := by simp [World.drewN, Nat.add_assoc]

theorem gnew_nil (w : World) :
    Calls Try.prog 9 #[.pointer none] w fun e w' => e = .returned (.tuple #[.pointer none, .int .i64 1]) ∧ w' = w := by
  go_enter Try.func9, Try.ntmps9
  go_wp2_with fail
  go_ret2
  exact ⟨rfl, rfl⟩
theorem gnew_any (L : Nat) (w : World) :
    Calls Try.prog 9 #[.pointer (some ⟨L, 0, none⟩)] w fun e w' => ∃ G, e = .returned (.tuple #[.pointer (some ⟨G, 0, none⟩), .int .i64 0]) ∧ Gd w' G L none 0 Gs.none ∧ w.heap.size ≤ G ∧ But [] w w' := by
  go_enter Try.func9, Try.ntmps9
  go_wp2_with fail
  go_ret2
  exact ⟨_, rfl, ⟨World.alloc_heap_new w _, RowT.nil _ _ _, Nat.le_refl _, Nat.zero_le _⟩, Nat.le_refl _, (But.refl [] w).alloc _⟩

theorem all_nil (w : World) :
    Calls Try.prog 20 #[.pointer none] w fun e w' => e = .returned (.bool false) ∧ ∃ m, w' = w.drewN m := by
  go_enter Try.func20, Try.ntmps20
  go_wp2_with fail
  go_quiet (fail)
  go_wp2_with fail
  go_ret
  exact ⟨rfl, _, rfl⟩
theorem all_any {G L : Nat} {a : Option Addr} {cap : Nat} {s : Gs} (w : World) (h : Gd w G L a cap s) :
    Calls Try.prog 20 #[.pointer (some ⟨G, 0, none⟩)] w fun e w' => e = .returned (.bool s.all) ∧ ∃ m, w' = w.drewN m := by
  have c1 := h.c1
  have c2 := h.c2
  have hle := h.le
  have hlen := h.len
  have hb := beq_nat s.h s.l.length
  have hR : Hid (s.all = ((s.h : Int) == (s.l.length : Int))) := Lib.hid hb.out.symm
  clear h hb
  go_enter Try.func20, Try.ntmps20
  go_wp2_with fail
  go_quiet (fail)
  go_wp2_with fail
  go_ret
  exact ⟨by rw [hR.out]; rfl, _, rfl⟩

theorem next_nil (w : World) :
    Calls Try.prog 25 #[.pointer none] w fun e w' => e = .returned (.tuple #[.int .i64 0, .int .u16 0, .bool false]) ∧ w' = w := by
  go_enter Try.func25, Try.ntmps25
  go_wp2_with fail
  go_ret3
  exact ⟨rfl, rfl⟩
theorem next_all {G L : Nat} {a : Option Addr} {cap : Nat} {s : Gs} (w : World) (h : Gd w G L a cap s) (hs : s.all = true) :
    Calls Try.prog 25 #[.pointer (some ⟨G, 0, none⟩)] w fun e w' => e = .returned (.tuple #[.int .i64 0, .int .u16 0, .bool false]) ∧ ∃ m, w' = w.drewN m := by
  have hall := all_any w h
  rw [hs] at hall
  clear h hs
  go_enter Try.func25, Try.ntmps25
  go_wp2_with fail
  refine hall.mono ?_
  rintro e w1 ⟨rfl, m, rfl⟩
  go_wp2_with fail
  go_ret3
  exact ⟨rfl, m, rfl⟩
theorem next_more {G L : Nat} {a : Option Addr} {cap : Nat} {s : Gs} (w : World) (h : Gd w G L a cap s) (hs : s.all = false) :
    Calls Try.prog 25 #[.pointer (some ⟨G, 0, none⟩)] w fun e w' => e = .returned (.tuple #[.int .i64 (atI s.l s.h), .int .u16 (s.t : Int), .bool s.d]) ∧ ∃ m, w' = w.drewN m := by
  have hall := all_any w h
  rw [hs] at hall
  have hlt : s.h < s.l.length := by have := h.le; have := of_decide_eq_false hs; omega
  have hlt' : (s.h : Int) < (s.l.length : Int) := by omega
  have c1 := h.c1
  have c2 := h.c2
  have c3 := h.c3
  have c4 := h.c4
  obtain ⟨b, off, cs, z, rfl, -, hrow⟩ := h.row.row (by omega)
  have cr := hrow _ hlt
  clear h hs hrow
  go_enter Try.func25, Try.ntmps25
  go_wp2_with fail
  refine hall.mono ?_
  rintro e w1 ⟨rfl, m, rfl⟩
  go_wp2_with fail
  go_quiet (fail)
  go_wp2_with fail
  go_ret3
  exact ⟨rfl, _, drewN_add _ _ _⟩

/-! ### slices.Clone, Held -/
theorem own_slice {w : World} {base n : Nat} {v : Value} {xs : List Value} (h : w.ownsRow base 3 1 v n xs) : ∃ a cap, v = .slice a n cap := by
  rcases h.2 with ⟨rfl, rfl⟩ | ⟨g, cap, cur, rfl, _⟩
  · exact ⟨_, _, rfl⟩
  · exact ⟨_, _, rfl⟩
theorem but_made {w w1 : World} {o : Obj} {B : Nat} (hB : B = w.heap.size) (hg : (w.alloc o).grownBy w1 (some B)) : But [] w w1 :=
  ((But.refl [] w).alloc o).trans (But.of_some (S := [B]) hg (by simp)) (by simp; omega)
theorem clone_any {a : Option Addr} {xs : List Int} (cap : Nat) (w : World) (h : RowA w a xs) (hl : xs.length ≤ 4096) :
    Calls Try.prog 37 #[.slice a xs.length cap] w fun e w' => ∃ a' cap', e = .returned (.slice a' xs.length cap') ∧ RowT w' a' cap' xs ∧ But [] w w' := by
  obtain ⟨i0, hi, hz0, hz1, hz2⟩ := info_parts infoInt
  cases a with
  | none =>
    have h0 : xs.length = 0 := by
      rcases Nat.eq_zero_or_pos xs.length with h0 | h0
      · exact h0
      · obtain ⟨b, off, he, _⟩ := h h0; cases he
    obtain rfl := List.length_eq_zero_iff.1 h0
    have qT : ∀ w : World, (binOp .eql 23 (.slice none 0 cap) (.slice none 0 0)).run Try.prog w = .ok (.bool true) w := fun w => Lib.run_eql_slice_nil w 23 3 none 0 cap 0 0 Try.underlying23
    rw [List.length_nil]
    clear h h0
    go_enter Try.func37, Try.ntmps37
    go_wp2_with fail
    go_ret
    exact ⟨_, _, rfl, RowT.nil _ _ _, But.refl _ _⟩
  | some p =>
    have qT : ∀ w : World, (binOp .eql 23 (.slice (some p) xs.length cap) (.slice none 0 0)).run Try.prog w = .ok (.bool false) w := fun w => Lib.run_eql_slice_nil w 23 3 (some p) xs.length cap 0 0 Try.underlying23
    have hcs : ∀ j u, (I64 xs)[j]? = some u → (w.alloc (.cells #[] 3)).cell? (p.add j) = some u := fun j u hj => by
      have hjl : j < xs.length := by have := (List.getElem?_eq_some_iff.1 hj).1; rwa [I64_len] at this
      obtain ⟨b, off, he, hc⟩ := h (by omega)
      obtain rfl := Option.some.inj he
      have hh := ((But.refl [] w).alloc (.cells #[] 3)).cell (hc j hjl) (by simp)
      rw [show Addr.add ⟨b, off, none⟩ j = ⟨b, off + j, none⟩ by simp [Addr.add], hh, ← hj, I64_at hjl]
    clear h
    go_enter Try.func37, Try.ntmps37
    go_wp2_with (at_builtin; refine wpList_append_own _ rfl _ _ 23 rfl w.heap.size 3 i0 (.int .i64 0) 1 8 Try.underlying23 hi hz0 hz1 hz2 rfl (by decide) _ 0 [] rfl (World.ownsRow_made w #[] 0 (Nat.le_refl _) (by decide) rfl) p xs.length cap (I64 xs) rfl ?c0 ?c1 ?c2 ?c3 ?c4 ?c5 ?_)
    case c0 => rw [I64_len]; omega
    case c1 => exact hcs
    case c2 => exact I64_one
    case c3 => unfold maxLen; omega
    case c4 => omega
    try (case c5 => first | exact Nat.le_refl _ | omega | (simp; done) | (simp; omega))
    intro v1 w1 hown hgrow hnil
    have hown' : w1.ownsRow w.heap.size 3 1 v1 xs.length (I64 xs) := by simpa using hown
    have hb1 : But [] w w1 := but_made rfl hgrow
    obtain ⟨a', cap', rfl, hr⟩ := RowT.of_owns hown'
    clear hown hgrow hnil hcs hown'
    go_wp2_with fail
    go_ret
    exact ⟨_, _, rfl, hr, hb1⟩

theorem held_nil (w : World) :
    Calls Try.prog 23 #[.pointer none] w fun e w' => e = .returned (.slice none 0 0) ∧ w' = w := by
  go_enter Try.func23, Try.ntmps23
  go_wp2_with fail
  go_ret
  exact ⟨rfl, rfl⟩
theorem held_any {G L : Nat} {a : Option Addr} {cap : Nat} {s : Gs} (w : World) (h : Gd w G L a cap s) :
    Calls Try.prog 23 #[.pointer (some ⟨G, 0, none⟩)] w fun e w' => ∃ a' cap', e = .returned (.slice a' s.h cap') ∧ RowT w' a' cap' (s.l.take s.h) ∧ But [] w w' := by
  have c1 := h.c1
  have c2 := h.c2
  have hle := h.le
  have hlen := h.len
  have hcap := h.row.cap
  have k1 : (s.h : Int) ≤ (cap : Int) := by omega
  have ht : (s.l.take s.h).length = s.h := by rw [List.length_take]; omega
  have hcl := fun m => clone_any cap (w.drewN m) (((h.row.take s.h).drewN m).any) (by omega)
  rw [ht] at hcl
  clear h
  go_enter Try.func23, Try.ntmps23
  go_wp2_with fail
  refine wp_region_still_tail 9 (by kernel_rfl) (by kernel_rfl) ?_
  simp only [List.take_succ_cons, List.take_zero, List.drop_succ_cons, List.drop_zero]
  change wpStill _ _ w.drew (fun a' => wpList _ _ _ _ a' w.drew) _ _
  repeat still_step
  refine wpStill_nil ?_
  go_wp2_with fail
  refine (hcl 1).mono ?_
  rintro e w2 ⟨a', cap', rfl, hr, hb⟩
  go_wp2_with fail
  go_ret
  exact ⟨_, _, rfl, hr, (But.refl [] w).drew.next hb⟩
end Go.Proofs.Ytbjfongjdlankaa
