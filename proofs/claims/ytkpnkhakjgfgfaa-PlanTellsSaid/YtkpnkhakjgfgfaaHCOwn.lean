/-
  The walks of hchan.own and queue.
-/
import Derived.Test.YtkpnkhakjgfgfaaHCMath
namespace Go.Proofs.Ytkpnkhakjgfgfaa
open Go.RowKit
open Lq (But I64b)

/-- What own answers of a channel. -/
abbrev ownV (p : Pl) (c : Bool) : Value := .agg #[ptrO p.R, ptrO p.S, ptrO p.T, .bool c]
abbrev ownZ : Value := .agg #[.pointer none, .pointer none, .pointer none, .bool false]

set_option maxHeartbeats 1000000 in
theorem own_nil (w : World) :
    Calls Try.prog 40 #[.pointer none] w fun e w' => e = .returned ownZ ∧ But [] w w' := by
  go_enter Try.func40, Try.ntmps40
  go_wp2_with fail
  have hb := World.alloc_heap_new w (.cells #[.pointer none, .pointer none, .pointer none, .bool false] 82)
  refine bodyPost_ret (v := ownZ) (results_cell_row rfl _ _ w.heap.size 82 _ (0, 0) _ rfl hb Try.underlying82 rfl (by kernel_rfl)) rfl ?_
  exact ⟨rfl, (Lq.But.refl _ _).alloc _⟩
set_option maxHeartbeats 1000000 in
theorem own_any {p : Pl} {h : Hs} (w : World) (H : Hch w p h) :
    Calls Try.prog 40 #[ptrO p.C] w fun e w' => e = .returned (ownV p h.c) ∧ But [] w w' := by
  obtain ⟨c0, c1, c2, c3⟩ := (H.fresh ((Lq.But.refl [] w).alloc (.cells #[.pointer none, .pointer none, .pointer none, .bool false] 82))).cells
  clear H
  go_enter Try.func40, Try.ntmps40
  go_wp2_with fail
  have hb := World.alloc_heap_new w (.cells #[ptrO p.R, ptrO p.S, ptrO p.T, .bool h.c] 82)
  refine bodyPost_ret (v := ownV p h.c) (results_cell_row rfl _ _ w.heap.size 82 _ (0, 0) _ rfl hb Try.underlying82 rfl (by kernel_rfl)) rfl ?_
  exact ⟨rfl, (Lq.But.refl _ _).alloc _⟩

theorem part0 (vR s t : Value) (c : Bool) (w : World) : (Instr.field 82 (.agg #[vR, s, t, .bool c]) 0).run Try.prog w = .ok vR w := by kernel_rfl
theorem part1 (vR s t : Value) (c : Bool) (w : World) : (Instr.field 82 (.agg #[vR, s, t, .bool c]) 1).run Try.prog w = .ok (.agg #[s, t]) w := by kernel_rfl
theorem part2 (vR s t : Value) (c : Bool) (w : World) : (Instr.field 82 (.agg #[vR, s, t, .bool c]) 2).run Try.prog w = .ok (.bool c) w := by kernel_rfl
theorem pick0 (s t : Value) (w : World) : (Instr.index 80 (.agg #[s, t]) (.int .i64 0)).run Try.prog w = .ok s w := by kernel_rfl
theorem pick1 (s t : Value) (w : World) : (Instr.index 80 (.agg #[s, t]) (.int .i64 1)).run Try.prog w = .ok t w := by kernel_rfl

set_option maxRecDepth 100000 in
/-- A queue is asked: the closure is called with the one that send tells. -/
theorem queue_gen (o : Option Addr) (vR : Value) (s t : Option Addr) (c : Bool) (K : Nat) (lb : List Value) (send : Bool) (Q : World → Prop) (w : World)
    (hown : Calls Try.prog 40 #[.pointer o] w fun e w' => e = .returned (.agg #[vR, .pointer s, .pointer t, .bool c]) ∧ But [] w w')
    (he : ∀ args W, (callFunc K args).run Try.prog W = .ok (.enter K args) W)
    (hcall : ∀ W, But [] w W → Calls Try.prog K ((.pointer (if send then s else t) :: lb).toArray) W fun e w' => e = .returned (.tuple #[]) ∧ Q w') :
    Calls Try.prog 37 #[.pointer o, .bool send, .func (.func K) #[] lb.toArray] w fun e w' => e = .returned (.tuple #[]) ∧ Q w' := by
  have f1 := part1 vR (.pointer s) (.pointer t) c
  have p0 := pick0 (.pointer s) (.pointer t)
  have p1 := pick1 (.pointer s) (.pointer t)
  cases send
  · simp only [Bool.false_eq_true, if_false] at hcall
    go_enter Try.func37, Try.ntmps37
    go_wp2_with fail
    refine hown.mono ?_
    rintro e w1 ⟨rfl, hb⟩
    have hc := hcall w1 hb
    clear hcall hown
    go_wp2_with fail
    refine hc.mono ?_
    rintro e w2 ⟨rfl, hQ⟩
    go_wp2_with fail
    go_end0
    exact ⟨rfl, hQ⟩
  · simp only [if_true] at hcall
    go_enter Try.func37, Try.ntmps37
    go_wp2_with fail
    refine hown.mono ?_
    rintro e w1 ⟨rfl, hb⟩
    have hc := hcall w1 hb
    clear hcall hown
    go_wp2_with fail
    refine hc.mono ?_
    rintro e w2 ⟨rfl, hQ⟩
    go_wp2_with fail
    go_end0
    exact ⟨rfl, hQ⟩

theorem queue_any {p : Pl} {h : Hs} (K : Nat) (lb : List Value) (send : Bool) (Q : World → Prop) (w : World) (H : Hch w p h)
    (he : ∀ args W, (callFunc K args).run Try.prog W = .ok (.enter K args) W)
    (hcall : ∀ W, But [] w W → Calls Try.prog K ((ptrO (p.q send) :: lb).toArray) W fun e w' => e = .returned (.tuple #[]) ∧ Q w') :
    Calls Try.prog 37 #[ptrO p.C, .bool send, .func (.func K) #[] lb.toArray] w fun e w' => e = .returned (.tuple #[]) ∧ Q w' := by
  refine queue_gen (some ⟨p.C, 0, none⟩) (ptrO p.R) (some ⟨p.S, 0, none⟩) (some ⟨p.T, 0, none⟩) h.c K lb send Q w (own_any w H) he (fun W hW => ?_)
  have := hcall W hW
  cases send <;> exact this
theorem queue_nil (K : Nat) (lb : List Value) (send : Bool) (Q : World → Prop) (w : World)
    (he : ∀ args W, (callFunc K args).run Try.prog W = .ok (.enter K args) W)
    (hcall : ∀ W, But [] w W → Calls Try.prog K ((.pointer none :: lb).toArray) W fun e w' => e = .returned (.tuple #[]) ∧ Q w') :
    Calls Try.prog 37 #[.pointer none, .bool send, .func (.func K) #[] lb.toArray] w fun e w' => e = .returned (.tuple #[]) ∧ Q w' := by
  refine queue_gen none (.pointer none) none none false K lb send Q w (own_nil w) he (fun W hW => ?_)
  have := hcall W hW
  cases send <;> exact this
end Go.Proofs.Ytkpnkhakjgfgfaa
