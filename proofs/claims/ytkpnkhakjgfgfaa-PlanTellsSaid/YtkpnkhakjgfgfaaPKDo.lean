/-
  The walks of Quiet and Wake.
-/
import Derived.Test.YtkpnkhakjgfgfaaPKLook
namespace Go.Proofs.Ytkpnkhakjgfgfaa
open Go.RowKit
open Lq (But I64b)

/-- Nobody waits there, or whoever waits would wait anew. -/
def noneP (h : Hs) (send : Bool) : Bool := !((h.q send)[0]?).isSome || decide ((lookP h send).1 = 5)
theorem quiet_none (h : Hs) : (noneP h true && noneP h false) = quietP h := by
  obtain ⟨m, c, b, s, r⟩ := h
  cases c <;> cases s <;> cases r <;> cases b <;> by_cases h1 : m = 0 <;> simp [noneP, quietP, lookP, Hs.q, h1] <;> (try split) <;> simp_all

theorem plan_do (d v : Int) (w : World) : (Instr.field 34 (.agg #[.int .u8 d, .int .i64 v]) 0).run Try.prog w = .ok (.int .u8 d) w := by kernel_rfl
set_option maxRecDepth 100000 in
theorem none_any {p : Pl} {h : Hs} {B : Nat} (send : Bool) (w : World) (H : Hch w p h) (hB : Boxed w B 24 (ptrO p.C)) :
    Calls Try.prog 30 #[.bool send, ptrO B] w fun e w' => e = .returned (.bool (noneP h send)) ∧ But [] w w' := by
  have c0 := hB.cell
  have hf := hfront_any send w H
  obtain ⟨k, hk⟩ : ∃ k, k = (h.q send)[0]? := ⟨_, rfl⟩
  obtain ⟨d, hd⟩ : ∃ d, d = (lookP h send).1 := ⟨_, rfl⟩
  have HN : Hid (noneP h send = (!k.isSome || decide (d = 5))) := Lib.hid (by rw [hk, hd]; rfl)
  rw [← hk] at hf
  cases k with
  | none =>
    clear hk hd
    go_enter Try.func30, Try.ntmps30
    go_wp2_with fail
    refine hf.mono ?_
    rintro e w1 ⟨rfl, hb⟩
    go_wp2_with fail
    go_ret
    exact ⟨by rw [HN.out]; rfl, hb⟩
  | some x =>
    clear hk
    have HD := Lib.hid hd
    go_enter Try.func30, Try.ntmps30
    go_wp2_with fail
    refine hf.mono ?_
    rintro e w1 ⟨rfl, hb⟩
    have c1 := (hb.boxed hB (by simp)).cell
    have hl := look_any send w1 (H.fresh hb)
    rw [← hd] at hl
    have fd := plan_do (d : Int) (lookP h send).2
    clear c0 hd hf
    go_wp2_with fail
    refine hl.mono ?_
    rintro e w2 ⟨rfl, hb2⟩
    go_wp2_with fail
    have e5 : ((d : Int) == 5) = (!(some x).isSome || decide (d = 5)) := by
      by_cases hd : d = 5
      · subst hd; rfl
      · have : ¬ ((d : Int) = 5) := by omega
        simp [hd, this]
    rw [HN.out, ← e5]
    go_ret
    exact ⟨rfl, hb.next hb2⟩

theorem quiet_any {p : Pl} {h : Hs} (w : World) (H : Hch w p h) :
    Calls Try.prog 9 #[ptrO p.C] w fun e w' => e = .returned (.bool (quietP h)) ∧ But [] w w' := by
  obtain ⟨v, hv⟩ : ∃ v, v = quietP h := ⟨_, rfl⟩
  rw [← hv]
  have HQ : Hid (v = (noneP h true && noneP h false)) := Lib.hid (by rw [hv, quiet_none])
  clear hv
  have hB0 := Boxed.new w 24 (ptrO p.C)
  have hb0 : But [] w (w.alloc (.cells #[ptrO p.C] 24)) := (Lq.But.refl _ _).alloc _
  have h1 := none_any true _ (H.fresh hb0) hB0
  go_enter Try.func9, Try.ntmps9
  go_wp2_with fail
  refine h1.mono ?_
  rintro e w1 ⟨rfl, hb1⟩
  obtain ⟨b, hb⟩ : ∃ b, b = noneP h true := ⟨_, rfl⟩
  rw [← hb] at HQ ⊢
  clear h1 hb
  cases b with
  | false =>
    obtain rfl : v = false := HQ.out
    go_wp2_with fail
    go_ret
    exact ⟨rfl, hb0.next hb1⟩
  | true =>
    have h2 := none_any false _ (H.fresh (hb0.next hb1)) (hb1.boxed hB0 (by simp))
    rw [← show v = noneP h false by rw [HQ.out, Bool.true_and]] at h2
    clear HQ
    go_wp2_with fail
    refine h2.mono ?_
    rintro e w2 ⟨rfl, hb2⟩
    go_wp2_with fail
    go_ret
    exact ⟨rfl, (hb0.next hb1).next hb2⟩
theorem quiet_nil (w : World) :
    Calls Try.prog 9 #[.pointer none] w fun e w' => e = .returned (.bool false) ∧ But [] w w' := by
  have hb0 : But [] w (w.alloc (.cells #[.pointer none] 24)) := (Lq.But.refl _ _).alloc _
  go_enter Try.func9, Try.ntmps9
  go_wp2_with fail
  go_ret
  exact ⟨rfl, hb0⟩

theorem wake_nil (w : World) :
    Calls Try.prog 7 #[.pointer none] w fun e w' => e = .returned (.tuple #[.int .i64 0, .bool false, .bool false]) ∧ But [] w w' := by
  have h0 := hclosed_nil w
  go_enter Try.func7, Try.ntmps7
  go_wp2_with fail
  refine h0.mono ?_
  rintro e w1 ⟨rfl, hb⟩
  go_wp2_with fail
  go_ret3
  exact ⟨rfl, hb⟩
set_option maxHeartbeats 1000000 in
theorem wake_any {p : Pl} {h : Hs} (w : World) (H : Hch w p h) :
    Calls Try.prog 7 #[ptrO p.C] w fun e w' => e = .returned (.tuple #[.int .i64 (wakeP h).1, .bool (wakeP h).2.1, .bool (wakeP h).2.2]) ∧ But [] w w' := by
  have h0 := hclosed_any w H
  obtain ⟨v, hv⟩ : ∃ v, v = Value.tuple #[.int .i64 (wakeP h).1, .bool (wakeP h).2.1, .bool (wakeP h).2.2] := ⟨_, rfl⟩
  rw [← hv]
  have HV := Lib.hid hv
  clear hv
  obtain ⟨c, hc⟩ : ∃ c, c = h.c := ⟨_, rfl⟩
  rw [← hc] at h0
  have HC := Lib.hid hc
  clear hc
  cases c with
  | false =>
    obtain rfl : v = .tuple #[.int .i64 0, .bool false, .bool false] := by rw [HV.out, show wakeP h = (0, false, false) by unfold wakeP; rw [if_neg (by rw [← HC.out]; decide)]]
    go_enter Try.func7, Try.ntmps7
    go_wp2_with fail
    refine h0.mono ?_
    rintro e w1 ⟨rfl, hb⟩
    go_wp2_with fail
    go_ret3
    exact ⟨rfl, hb⟩
  | true =>
    go_enter Try.func7, Try.ntmps7
    go_wp2_with fail
    refine h0.mono ?_
    rintro e w1 ⟨rfl, hb⟩
    go_wp2_with fail
    obtain ⟨w2, hw2⟩ : ∃ w2, w2 = w1.alloc (.cells #[.bool false, .bool true] 4) := ⟨_, rfl⟩
    have hx : w2.heap[w1.heap.size]? = some (.cells #[.bool false, .bool true] 4 (0, 0)) := by rw [hw2]; exact World.alloc_heap_new w1 _
    have hb2 : But [] w1 w2 := by rw [hw2]; exact (Lq.But.refl _ _).alloc _
    have H2 := H.fresh (hb.next hb2)
    have x0 : ∀ W, But [] w2 W → W.cell? ⟨w1.heap.size, 0, none⟩ = some (.bool false) := fun W hW => hW.cell (by simp [World.cell?, hx]) (by simp)
    have x1 : ∀ W, But [] w2 W → W.cell? ⟨w1.heap.size, 1, none⟩ = some (.bool true) := fun W hW => hW.cell (by simp [World.cell?, hx]) (by simp)
    have hb3 := hb.next hb2
    rw [← hw2]
    clear hw2 hx h0 hb hb2
    have hz : (h.q false)[0]? = none → (h.q true)[0]? = none → v = .tuple #[.int .i64 0, .bool false, .bool false] := fun h1 h2 => by
      have a1 : h.r = [] := by simpa [Hs.q] using h1
      have a2 : h.s = [] := by simpa [Hs.q] using h2
      rw [HV.out]; unfold wakeP; rw [a1, a2]; simp
    have hr : ∀ x, (h.q false)[0]? = some x → v = .tuple #[.int .i64 x, .bool false, .bool true] := fun x h1 => by
      rw [HV.out]; unfold wakeP; rw [← HC.out]
      cases e : h.r with
      | nil => simp [Hs.q, e] at h1
      | cons y t => simp [Hs.q, e] at h1; simp [h1]
    have hs : ∀ x, (h.q false)[0]? = none → (h.q true)[0]? = some x → v = .tuple #[.int .i64 x, .bool true, .bool true] := fun x h1 h2 => by
      have a1 : h.r = [] := by simpa [Hs.q] using h1
      rw [HV.out]; unfold wakeP; rw [← HC.out, a1]
      cases e : h.s with
      | nil => simp [Hs.q, e] at h2
      | cons y t => simp [Hs.q, e] at h2; simp [h2]
    obtain ⟨kr, hkr⟩ : ∃ k, k = (h.q false)[0]? := ⟨_, rfl⟩
    obtain ⟨ks, hks⟩ : ∃ k, k = (h.q true)[0]? := ⟨_, rfl⟩
    have F0 : ∀ W, But [] w2 W → Calls Try.prog 29 #[ptrO p.C, .bool false] W fun e w' => e = .returned (.tuple #[.int .i64 (kr.getD 0), .bool kr.isSome]) ∧ But [] W w' := fun W hW => by rw [hkr]; exact hfront_any false W (H2.fresh hW)
    have F1 : ∀ W, But [] w2 W → Calls Try.prog 29 #[ptrO p.C, .bool true] W fun e w' => e = .returned (.tuple #[.int .i64 (ks.getD 0), .bool ks.isSome]) ∧ But [] W w' := fun W hW => by rw [hks]; exact hfront_any true W (H2.fresh hW)
    rw [← hkr, ← hks] at hz hs
    rw [← hkr] at hr
    have HZ := Lib.hid hz
    have HR := Lib.hid hr
    have HS := Lib.hid hs
    clear hkr hks hz hr hs HV HC H2 H
    go_loopw [14] (fun iv wr => But [] w2 wr ∧ (iv = .int .i64 0 ∨ (iv = .int .i64 1 ∧ kr = none) ∨ (iv = .int .i64 2 ∧ kr = none ∧ ks = none))) (fun iv _ => 2 - (intOf iv).toNat)
    case atStart => exact ⟨Lq.But.refl _ _, .inl rfl⟩
    case round =>
      obtain ⟨hbr, hcase⟩ := hrel
      have y0 := x0 wr hbr
      have y1 := x1 wr hbr
      rcases hcase with rfl | ⟨rfl, rfl⟩ | ⟨rfl, rfl, rfl⟩
      · have f0 := F0 wr hbr
        cases kr with
        | none =>
          go_wp2_with fail
          refine f0.mono ?_
          rintro e w4 ⟨rfl, hb⟩
          clear f0
          go_wp2_with fail
          go_roundw
          case rel => exact ⟨hbr.next hb, .inr (.inl ⟨rfl, by simp⟩)⟩
          case measure => simp [intOf]
        | some x =>
          obtain rfl := HR.out x rfl
          go_wp2_with fail
          refine f0.mono ?_
          rintro e w4 ⟨rfl, hb⟩
          clear f0
          go_wp2_with fail
          go_ret3
          exact ⟨rfl, hb3.next (hbr.next hb)⟩
      · have f1 := F1 wr hbr
        cases ks with
        | none =>
          go_wp2_with fail
          refine f1.mono ?_
          rintro e w4 ⟨rfl, hb⟩
          clear f1
          go_wp2_with fail
          go_roundw
          case rel => exact ⟨hbr.next hb, .inr (.inr ⟨rfl, by simp⟩)⟩
          case measure => simp [intOf]
        | some x =>
          obtain rfl := HS.out x rfl rfl
          go_wp2_with fail
          refine f1.mono ?_
          rintro e w4 ⟨rfl, hb⟩
          clear f1
          go_wp2_with fail
          go_ret3
          exact ⟨rfl, hb3.next (hbr.next hb)⟩
      · obtain rfl := HZ.out rfl rfl
        go_wp2_with fail
        go_ret3
        exact ⟨rfl, hb3.next hbr⟩
end Go.Proofs.Ytkpnkhakjgfgfaa
