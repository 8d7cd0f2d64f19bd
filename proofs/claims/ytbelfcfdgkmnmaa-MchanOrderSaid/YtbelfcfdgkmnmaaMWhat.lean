/-
  The walks of toSend, toReceive, What.
-/
import Derived.Test.YtbelfcfdgkmnmaaMFirst
namespace Go.Proofs.Ytbelfcfdgkmnmaa
open Go.RowKit

section
variable {C B m : Nat} {cl : Bool} {v0 v1 : Value} {buf : List Int} {S R : List Wt}
theorem toSendK_shut : toSendK true m buf R = 1 := rfl
theorem toSendK_meet (h : R.head?.isSome = true) : toSendK false m buf R = 2 := by cases R <;> simp_all [toSendK]
theorem toSendK_room (h : R.head?.isSome = false) (hb : buf.length < m) : toSendK false m buf R = 3 := by cases R <;> simp_all [toSendK]
theorem toSendK_full (h : R.head?.isSome = false) (hb : ¬ buf.length < m) : toSendK false m buf R = 6 := by cases R <;> simp_all [toSendK]
theorem ret_u8 {k : Nat} {n : Int} (h : (k : Int) = n) : Ending.returned (Value.int .u8 n) = .returned (.int .u8 (k : Int)) := by rw [h]

set_option maxRecDepth 100000 in
set_option maxHeartbeats 1000000 in
theorem toSend_any (w : World) (h : ChAt w C B m cl v0 v1 buf S R) (hl : R.length ≤ 1000) :
    Calls Try.prog 12 #[.pointer (some ⟨C, 0, none⟩)] w fun e w' => e = .returned (.int .u8 (toSendK cl m buf R : Int)) ∧ Below w.heap.size w w' := by
  have hf := first_any (s := false) w h.r h.recvs hl
  obtain ⟨y, hy⟩ : ∃ y, y = headW R := ⟨_, rfl⟩
  obtain ⟨bm, hbm⟩ : ∃ b, b = R.head?.isSome := ⟨_, rfl⟩
  rw [← hy, ← hbm] at hf
  clear hy
  unfold Wt.val at hf
  go_enter Try.func12, Try.ntmps12
  go_wp2_with fail
  refine hf.mono ?_
  clear hf
  rintro e w1 ⟨rfl, hb1⟩
  obtain ⟨w2, hw2⟩ : ∃ w2, w2 = w1.alloc (.cells #[.int .i64 y.t, .int .i64 y.c, .int .i64 y.v] 31) := ⟨_, rfl⟩
  have hb2 : Below w.heap.size w w2 := by rw [hw2]; exact Below.al hb1 hb1.size _
  have h2 := h.below hb2
  have hc := h2.c
  have hb := h2.b
  have hlen := len_ring w2 h2.ring
  have hcap := ccap_any w2 h2
  rw [hw2] at hc hb
  clear h h2 hb1
  cases cl with
  | true =>
    have HK : Hid (toSendK true m buf R = 1) := Lib.hid rfl
    go_wp2_with fail
    go_ret
    rw [← hw2]
    exact ⟨by rw [HK.out]; rfl, hb2⟩
  | false =>
    cases hm : bm with
    | true =>
      have HK := Lib.hid (toSendK_meet (m := m) (buf := buf) (hbm.symm.trans hm))
      clear hbm hm
      go_wp2_with fail
      go_ret
      rw [← hw2]
      exact ⟨by rw [HK.out]; rfl, hb2⟩
    | false =>
      have HK : Hid ((toSendK false m buf R : Int) = if buf.length < m then 3 else 6) := Lib.hid (by
        split
        · rw [toSendK_room (hbm.symm.trans hm) (by assumption)]; rfl
        · rw [toSendK_full (hbm.symm.trans hm) (by assumption)]; rfl)
      clear hbm hm
      by_cases hr : buf.length < m
      · have hd : decide ((buf.length : Int) < (m : Int)) = true := by simp; omega
        have hd' : (buf.length : Int) < (m : Int) := by omega
        have HK2 := Lib.hid (HK.out.trans (if_pos hr))
        clear HK hr
        go_wp2_with fail
        rw [← hw2] at hc hb ⊢
        clear hw2
        refine hlen.mono ?_
        rintro e w2 ⟨rfl, rfl⟩
        go_wp2_with fail
        refine hcap.mono ?_
        rintro e w2 ⟨rfl, rfl⟩
        go_wp2_with fail
        go_ret
        exact ⟨ret_u8 HK2.out, hb2⟩
      · have hd : decide ((buf.length : Int) < (m : Int)) = false := by simp; omega
        have hd' : ¬ (buf.length : Int) < (m : Int) := by omega
        have HK2 := Lib.hid (HK.out.trans (if_neg hr))
        clear HK hr
        go_wp2_with fail
        rw [← hw2] at hc hb ⊢
        clear hw2
        refine hlen.mono ?_
        rintro e w2 ⟨rfl, rfl⟩
        go_wp2_with fail
        refine hcap.mono ?_
        rintro e w2 ⟨rfl, rfl⟩
        go_wp2_with fail
        go_ret
        exact ⟨ret_u8 HK2.out, hb2⟩

theorem toRecvK_meet (h : S.head?.isSome = true) (hm : m = 0) : toRecvK cl m buf S = 2 := by cases S <;> simp_all [toRecvK]
theorem toRecvK_fill (h : S.head?.isSome = true) (hm : m ≠ 0) : toRecvK cl m buf S = 4 := by cases S <;> simp_all [toRecvK]
theorem toRecvK_buf (h : S.head?.isSome = false) (hb : buf ≠ []) : toRecvK cl m buf S = 3 := by cases S <;> simp_all [toRecvK]
theorem toRecvK_zero (h : S.head?.isSome = false) (hb : buf = []) : toRecvK true m buf S = 5 := by cases S <;> simp_all [toRecvK]
theorem toRecvK_wait (h : S.head?.isSome = false) (hb : buf = []) : toRecvK false m buf S = 6 := by cases S <;> simp_all [toRecvK]

set_option maxRecDepth 100000 in
set_option maxHeartbeats 1000000 in
theorem toRecv_any (w : World) (h : ChAt w C B m cl v0 v1 buf S R) (hl : S.length ≤ 1000) :
    Calls Try.prog 13 #[.pointer (some ⟨C, 0, none⟩)] w fun e w' => e = .returned (.int .u8 (toRecvK cl m buf S : Int)) ∧ Below w.heap.size w w' := by
  have hf := first_any (s := true) w h.s h.sends hl
  obtain ⟨y, hy⟩ : ∃ y, y = headW S := ⟨_, rfl⟩
  obtain ⟨bm, hbm⟩ : ∃ b, b = S.head?.isSome := ⟨_, rfl⟩
  rw [← hy, ← hbm] at hf
  clear hy
  unfold Wt.val at hf
  go_enter Try.func13, Try.ntmps13
  go_wp2_with fail
  refine hf.mono ?_
  clear hf
  rintro e w1 ⟨rfl, hb1⟩
  obtain ⟨w2, hw2⟩ : ∃ w2, w2 = w1.alloc (.cells #[.int .i64 y.t, .int .i64 y.c, .int .i64 y.v] 31) := ⟨_, rfl⟩
  have hb2 : Below w.heap.size w w2 := by rw [hw2]; exact Below.al hb1 hb1.size _
  have h2 := h.below hb2
  have hc := h2.c
  have hb := h2.b
  have hlen := len_ring w2 h2.ring
  have hcap := ccap_any w2 h2
  rw [hw2] at hc hb
  clear h h2 hb1
  cases hm : bm with
  | true =>
    by_cases h0 : m = 0
    · have HK := Lib.hid (toRecvK_meet (cl := cl) (buf := buf) (hbm.symm.trans hm) h0)
      have hz : ((m : Int) == 0) = true := by simp [h0]
      have hz' : (m : Int) = 0 := by omega
      clear hbm hm h0
      go_wp2_with fail
      rw [← hw2] at hc hb ⊢
      clear hw2
      refine hcap.mono ?_
      rintro e w2 ⟨rfl, rfl⟩
      go_wp2_with fail
      go_ret
      exact ⟨by rw [HK.out]; rfl, hb2⟩
    · have HK := Lib.hid (toRecvK_fill (cl := cl) (buf := buf) (hbm.symm.trans hm) h0)
      have hz : ((m : Int) == 0) = false := by simp [h0]
      have hz' : ¬ (m : Int) = 0 := by omega
      clear hbm hm h0
      go_wp2_with fail
      rw [← hw2] at hc hb ⊢
      clear hw2
      refine hcap.mono ?_
      rintro e w2 ⟨rfl, rfl⟩
      go_wp2_with fail
      go_ret
      exact ⟨by rw [HK.out]; rfl, hb2⟩
  | false =>
    by_cases h0 : buf = []
    · have hz : decide ((0 : Int) < (buf.length : Int)) = false := by simp [h0]
      have hz' : ¬ (0 : Int) < (buf.length : Int) := by simp [h0]
      have hz2 : ¬ 0 < buf.length := by simp [h0]
      cases cl with
      | true =>
        have HK := Lib.hid (toRecvK_zero (m := m) (hbm.symm.trans hm) h0)
        clear hbm hm h0
        go_wp2_with fail
        rw [← hw2] at hc hb ⊢
        clear hw2
        refine hlen.mono ?_
        rintro e w2 ⟨rfl, rfl⟩
        go_wp2_with fail
        go_ret
        exact ⟨by rw [HK.out]; rfl, hb2⟩
      | false =>
        have HK := Lib.hid (toRecvK_wait (m := m) (hbm.symm.trans hm) h0)
        clear hbm hm h0
        go_wp2_with fail
        rw [← hw2] at hc hb ⊢
        clear hw2
        refine hlen.mono ?_
        rintro e w2 ⟨rfl, rfl⟩
        go_wp2_with fail
        go_ret
        exact ⟨by rw [HK.out]; rfl, hb2⟩
    · have hp : 0 < buf.length := List.length_pos_iff.2 h0
      have hz : decide ((0 : Int) < (buf.length : Int)) = true := by simp; omega
      have hz' : (0 : Int) < (buf.length : Int) := by omega
      have HK := Lib.hid (toRecvK_buf (cl := cl) (m := m) (hbm.symm.trans hm) h0)
      clear hbm hm h0
      go_wp2_with fail
      rw [← hw2] at hc hb ⊢
      clear hw2
      refine hlen.mono ?_
      rintro e w2 ⟨rfl, rfl⟩
      go_wp2_with fail
      go_ret
      exact ⟨by rw [HK.out]; rfl, hb2⟩

theorem what_any (s : Bool) (w : World) (h : ChAt w C B m cl v0 v1 buf S R) (hlS : S.length ≤ 1000) (hlR : R.length ≤ 1000) :
    Calls Try.prog 6 #[.pointer (some ⟨C, 0, none⟩), .bool s] w fun e w' => e = .returned (.int .u8 (whatK cl m buf S R s : Int)) ∧ Below w.heap.size w w' := by
  have h1 := toSend_any w h hlR
  have h2 := toRecv_any w h hlS
  clear h
  cases s with
  | true =>
    rw [show whatK cl m buf S R true = toSendK cl m buf R from rfl]
    go_enter Try.func6, Try.ntmps6
    go_wp2_with fail
    refine h1.mono ?_
    rintro e w1 ⟨rfl, hb1⟩
    go_wp2_with fail
    go_ret
    exact ⟨rfl, hb1⟩
  | false =>
    rw [show whatK cl m buf S R false = toRecvK cl m buf S from rfl]
    go_enter Try.func6, Try.ntmps6
    go_wp2_with fail
    refine h2.mono ?_
    rintro e w1 ⟨rfl, hb1⟩
    go_wp2_with fail
    go_ret
    exact ⟨rfl, hb1⟩
end
end Go.Proofs.Ytbelfcfdgkmnmaa
