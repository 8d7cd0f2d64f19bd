/-
  The walks of what package plan asks of a channel: who waits, is there room, a value; the rules; Swaps.
-/
import Derived.Test.YtkpnkhakjgfgfaaPLAns
namespace Go.Proofs.Ytkpnkhakjgfgfaa
open Go.RowKit
open Lq (But I64b)

abbrev sightV (C : Nat) : Value := .agg #[ptrO C]

theorem recv_any {p : Pl} {h : Hs} (w : World) (H : Hch w p h) :
    Calls Try.prog 50 #[sightV p.C] w fun e w' => e = .returned (.bool (h.r[0]?).isSome) ∧ But [] w w' := by
  have hb0 : But [] w (w.alloc (.cells #[ptrO p.C] 70)) := (Lq.But.refl _ _).alloc _
  have H1 := H.fresh hb0
  go_enter Try.func50, Try.ntmps50
  go_wp2_with fail
  refine (hfront_any false _ H1).mono ?_
  rintro e w2 ⟨rfl, hb⟩
  go_wp2_with fail
  go_ret
  exact ⟨rfl, hb0.next hb⟩
theorem sender_any {p : Pl} {h : Hs} (w : World) (H : Hch w p h) :
    Calls Try.prog 52 #[sightV p.C] w fun e w' => e = .returned (.bool (h.s[0]?).isSome) ∧ But [] w w' := by
  have hb0 : But [] w (w.alloc (.cells #[ptrO p.C] 70)) := (Lq.But.refl _ _).alloc _
  have H1 := H.fresh hb0
  go_enter Try.func52, Try.ntmps52
  go_wp2_with fail
  refine (hfront_any true _ H1).mono ?_
  rintro e w2 ⟨rfl, hb⟩
  go_wp2_with fail
  go_ret
  exact ⟨rfl, hb0.next hb⟩
theorem value_any {p : Pl} {h : Hs} (w : World) (H : Hch w p h) :
    Calls Try.prog 53 #[sightV p.C] w fun e w' => e = .returned (.bool (decide (0 < h.b.length))) ∧ But [] w w' := by
  have hb0 : But [] w (w.alloc (.cells #[ptrO p.C] 70)) := (Lq.But.refl _ _).alloc _
  have H1 := H.fresh hb0
  go_enter Try.func53, Try.ntmps53
  go_wp2_with fail
  refine (hlen_any _ H1).mono ?_
  rintro e w2 ⟨rfl, hb⟩
  go_wp2_with fail
  go_ret
  exact ⟨by simp, hb0.next hb⟩
theorem room_any {p : Pl} {h : Hs} (w : World) (H : Hch w p h) :
    Calls Try.prog 51 #[sightV p.C] w fun e w' => e = .returned (.bool (decide (h.b.length < h.m))) ∧ But [] w w' := by
  have hb0 : But [] w (w.alloc (.cells #[ptrO p.C] 70)) := (Lq.But.refl _ _).alloc _
  have H1 := H.fresh hb0
  have hc : (w.alloc (.cells #[ptrO p.C] 70)).cell? ⟨w.heap.size, 0, none⟩ = some (ptrO p.C) := (Boxed.new w 70 (ptrO p.C)).cell
  go_enter Try.func51, Try.ntmps51
  go_wp2_with fail
  generalize w.alloc (.cells #[ptrO p.C] 70) = W at hb0 H1 hc ⊢
  have hd0 := (Lq.But.refl [] W).drew
  have L : ∀ w', But [] W w' → Calls Try.prog 60 #[ptrO p.C] w' fun e w'' => e = .returned (.int .i64 (h.b.length : Int)) ∧ But [] W w'' := fun w' hb => (hlen_any w' (H1.fresh hb)).mono (by rintro e w'' ⟨h1, h2⟩; exact ⟨h1, hb.next h2⟩)
  have K : ∀ w', But [] W w' → Calls Try.prog 31 #[ptrO p.C] w' fun e w'' => e = .returned (.int .i64 (h.m : Int)) ∧ But [] W w'' := fun w' hb => (hcap_any w' (H1.fresh hb)).mono (by rintro e w'' ⟨h1, h2⟩; exact ⟨h1, hb.next h2⟩)
  have hS : ∀ w', But [] W w' → w'.cell? ⟨w.heap.size, 0, none⟩ = some (ptrO p.C) := fun w' hb => hb.cell hc (by simp)
  clear hc H1 H
  go_region_held3 (fun w' => w'.cell? ⟨w.heap.size, 0, none⟩ = some (ptrO p.C))
    ((refine hS _ ?_; with_reducible first | exact hd0 | exact hb2 | exact hb3))
    ((first | (go_at_call 60; with_reducible refine (L _ (by first | exact hd0 | exact hb3)).mono ?_; rintro e w2 ⟨rfl, hb2⟩) | (go_at_call 31; with_reducible refine (K _ (by first | exact hd0 | exact hb2)).mono ?_; rintro e w3 ⟨rfl, hb3⟩)))
  all_goals go_wp2_with fail
  all_goals go_ret
  all_goals first | exact ⟨rfl, hb0.next hb3⟩ | exact ⟨rfl, hb0.next hb2⟩

theorem swaps_any {p : Pl} {h : Hs} (send : Bool) (w : World) (H : Hch w p h) :
    Calls Try.prog 10 #[ptrO p.C, .bool send] w fun e w' => e = .returned (.bool (!send && decide (0 < h.m))) ∧ But [] w w' := by
  cases send with
  | true =>
    go_enter Try.func10, Try.ntmps10
    go_wp2_with fail
    go_ret
    exact ⟨rfl, Lq.But.refl _ _⟩
  | false =>
    have h0 := hcap_any w H
    go_enter Try.func10, Try.ntmps10
    go_wp2_with fail
    refine h0.mono ?_
    rintro e w1 ⟨rfl, hb⟩
    go_wp2_with fail
    go_ret
    exact ⟨by simp, hb⟩
theorem swaps_nil (send : Bool) (w : World) :
    Calls Try.prog 10 #[.pointer none, .bool send] w fun e w' => e = .returned (.bool false) ∧ But [] w w' := by
  cases send with
  | true =>
    go_enter Try.func10, Try.ntmps10
    go_wp2_with fail
    go_ret
    exact ⟨rfl, Lq.But.refl _ _⟩
  | false =>
    have h0 := hcap_nil w
    go_enter Try.func10, Try.ntmps10
    go_wp2_with fail
    refine h0.mono ?_
    rintro e w1 ⟨rfl, hb⟩
    go_wp2_with fail
    go_ret
    exact ⟨by simp, hb⟩

/-- The three rules: a closure with what it is bound to, what is to be done. -/
def RulesAt (W : World) (g : Nat) (k0 k1 k2 : Nat) (v0 v1 v2 : Value) (d0 d1 d2 : Int) : Prop :=
  W.heap[g]? = some (.cells #[.func (.func k0) #[v0] #[], .int .u8 d0, .func (.func k1) #[v1] #[], .int .u8 d1, .func (.func k2) #[v2] #[], .int .u8 d2] 93 (0, 0))
theorem rules_send (C : Nat) (w : World) :
    Calls Try.prog 33 #[sightV C, .bool true] w fun e w' => ∃ g, e = .returned (.slice (some ⟨g, 0, none⟩) 3 3) ∧ RulesAt w' g 28 50 51 (ptrO C) (sightV C) (sightV C) 1 2 3 ∧ But [] w w' := by
  go_enter Try.func33, Try.ntmps33
  go_wp2_with fail
  go_ret
  refine ⟨_, rfl, ?_, ((Lq.But.refl _ _).alloc _).alloc _⟩
  have := World.alloc_heap_new (w.alloc (.cells #[ptrO C] 70)) (.cells #[.func (.func 28) #[ptrO C] #[], .int .u8 1, .func (.func 50) #[sightV C] #[], .int .u8 2, .func (.func 51) #[sightV C] #[], .int .u8 3] 93)
  rw [World.size_alloc] at this
  exact this
theorem rules_take (C : Nat) (w : World) :
    Calls Try.prog 33 #[sightV C, .bool false] w fun e w' => ∃ g, e = .returned (.slice (some ⟨g, 0, none⟩) 3 3) ∧ RulesAt w' g 52 53 28 (sightV C) (sightV C) (ptrO C) 2 3 4 ∧ But [] w w' := by
  go_enter Try.func33, Try.ntmps33
  go_wp2_with fail
  go_ret
  refine ⟨_, rfl, ?_, ((Lq.But.refl _ _).alloc _).alloc _⟩
  have := World.alloc_heap_new (w.alloc (.cells #[ptrO C] 70)) (.cells #[.func (.func 52) #[sightV C] #[], .int .u8 2, .func (.func 53) #[sightV C] #[], .int .u8 3, .func (.func 28) #[ptrO C] #[], .int .u8 4] 93)
  rw [World.size_alloc] at this
  exact this
end Go.Proofs.Ytkpnkhakjgfgfaa
