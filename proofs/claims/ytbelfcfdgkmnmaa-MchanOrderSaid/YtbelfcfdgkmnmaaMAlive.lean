/-
  A channel that the call itself made; the walk of tollbarlaw16.alive.
-/
import Derived.Test.YtbelfcfdgkmnmaaMServe
import Derived.Test.YtbelfcfdgkmnmaaMWait
import Derived.Test.YtbelfcfdgkmnmaaMRow
namespace Go.Proofs.Ytbelfcfdgkmnmaa
open Go.RowKit

/-- F, and what was new at W1. -/
def Fs (F : Nat → Prop) (W W1 : World) : Nat → Prop := fun k => F k ∨ (W.heap.size ≤ k ∧ k < W1.heap.size)
/-- A channel that was made since w0: just F's blocks. -/
structure Liv (w0 W : World) (F : Nat → Prop) (C m : Nat) (cl : Bool) (buf : List Int) (S R : List Wt) : Prop where
  ch : Chn W F C m cl buf S R
  lt : ∀ k, F k → k < W.heap.size
  ge : ∀ k, F k → w0.heap.size ≤ k
  below : Below w0.heap.size w0 W
section
variable {w0 W W1 : World} {F : Nat → Prop} {C m : Nat} {cl cl' : Bool} {buf buf' : List Int} {S R S' R' : List Wt}
theorem Liv.step (h : Liv w0 W F C m cl buf S R) (hc : Chn W1 (Fw F W) C m cl' buf' S' R') (hF : Frm F W W1) : Liv w0 W1 (Fs F W W1) C m cl' buf' S' R' where
  ch := hc.fl.mono (fun _ e => e.1.elim .inl (fun e2 => .inr ⟨e2, e.2⟩))
  lt := fun k e => e.elim (fun e => Nat.lt_of_lt_of_le (h.lt k e) hF.size) (fun e => e.2)
  ge := fun k e => e.elim (h.ge k) (fun e => Nat.le_trans h.below.size e.1)
  below := h.below.trans (hF.below h.below.size h.ge)
theorem Liv.read (h : Liv w0 W F C m cl buf S R) (hb : Below W.heap.size W W1) : Liv w0 W1 F C m cl buf S R :=
  ⟨h.ch.below hb, fun k e => Nat.lt_of_lt_of_le (h.lt k e) hb.size, h.ge, below_nx h.below hb (Nat.le_refl _)⟩
theorem Liv.alloc (h : Liv w0 W F C m cl buf S R) (o : Obj) : Liv w0 (W.alloc o) F C m cl buf S R := h.read (below1 W o)
theorem Liv.drew (h : Liv w0 W F C m cl buf S R) : Liv w0 W.drew F C m cl buf S R := h.read (Below.refl _ _).drew
theorem Liv.out (h : Liv w0 W F C m cl buf S R) : ¬ F W.heap.size := fun e => Nat.lt_irrefl _ (h.lt _ e)
theorem fs_out {n : Nat} (hn : n < W.heap.size) (h : ¬ F n) : ¬ Fs F W W1 n := fun e => e.elim h (fun e => by omega)
theorem GtAt.frm {n : Nat} {g : Gt} (h : GtAt W n g) (hF : Frm F W W1) (hn : ¬ F n) : GtAt W1 n g := h.of_block (hF.block n h.lt hn)
theorem Liv.what (h : Liv w0 W F C m cl buf S R) (s : Bool) (hlS : S.length ≤ 1000) (hlR : R.length ≤ 1000) :
    Calls Try.prog 6 #[.pointer (some ⟨C, 0, none⟩), .bool s] W fun e w' => e = .returned (.int .u8 (whatK cl m buf S R s : Int)) ∧ Liv w0 w' F C m cl buf S R ∧ Below W.heap.size W w' := by
  obtain ⟨B, v0, v1, hat, -⟩ := h.ch.at
  exact (what_any s W hat hlS hlR).mono fun _ _ ⟨h1, h2⟩ => ⟨h1, h.read h2, h2⟩
end
theorem liv_new (m : Nat) (w : World) (h : m ≤ 8) :
    Calls Try.prog 5 #[.int .i64 (m : Int)] w fun e w' => ∃ C F, e = .returned (.tuple #[.pointer (some ⟨C, 0, none⟩), .int .i64 0]) ∧ Liv w w' F C m false [] [] [] :=
  (cnew_ok m w h).mono fun _ _ ⟨C, h1, h2, h3⟩ => ⟨C, _, h1, ⟨h2.fl, fun _ e => e.2, fun _ e => e.1, h3⟩⟩

theorem putL_room {m : Nat} {l : List Int} (h : l.length < m) (v : Int) : putL m l v = l ++ [v] := by unfold putL; rw [if_neg (by omega)]

set_option maxRecDepth 100000 in
set_option maxHeartbeats 2000000 in
theorem alive_any (w : World) : Calls Try.prog 4 #[] w fun e w' => e = .returned (.bool true) ∧ Below w.heap.size w w' := by
  have hn1 := liv_new 1 w (by omega)
  go_enter Try.func4, Try.ntmps4
  go_wp2_with fail
  refine hn1.mono ?_
  rintro e w1 ⟨C, F1, rfl, h1⟩
  have hn9 := cnew_bad 9 w1 (by omega) (by omega) (by omega)
  clear hn1
  go_wp2_with fail
  refine hn9.mono ?_
  rintro e w1 ⟨rfl, rfl⟩
  have hs : Calls Try.prog 8 #[.pointer (some ⟨C, 0, none⟩), .bool true, .int .i64 5] w1 fun e w' => e = .returned (.tuple #[.agg #[.int .u8 3, .int .i64 0, .int .i64 0, .int .i64 0, .int .i64 5, .bool true, .int .i64 0], .int .i64 0]) ∧ Liv w w' (Fs F1 w1 w') C 1 false [5] [] [] :=
    (serve_put (S := []) 5 w1 h1.ch (by simp) (by simp) rfl (by simp)).mono fun _ _ ⟨a, b, c⟩ => ⟨a, h1.step b c⟩
  clear hn9 h1
  go_wp2_with fail
  refine hs.mono ?_
  rintro e w2 ⟨rfl, h2⟩
  obtain ⟨F2, hF2⟩ : ∃ F2, F2 = Fs F1 w1 w2 := ⟨_, rfl⟩
  rw [← hF2] at h2
  clear hs hF2
  obtain ⟨w3, hw3⟩ : ∃ w3, w3 = w2.alloc (.cells #[.int .u8 3, .int .i64 0, .int .i64 0, .int .i64 0, .int .i64 5, .bool true, .int .i64 0] 33) := ⟨_, rfl⟩
  have hA : GtAt w3 w2.heap.size ⟨3, .zero, 5, true, 0⟩ := by rw [hw3]; exact gtAt_new w2 ⟨3, .zero, 5, true, 0⟩
  have h3 : Liv w w3 F2 C 1 false [5] [] [] := by rw [hw3]; exact h2.alloc _
  have hAo := h2.out
  have hq : Calls Try.prog 6 #[.pointer (some ⟨C, 0, none⟩), .bool true] w3 fun e w' => e = .returned (.int .u8 6) ∧ Liv w w' F2 C 1 false [5] [] [] ∧ Below w3.heap.size w3 w' := h3.what true (by simp) (by simp)
  clear h2 h3
  go_wp2_with fail
  rw [← hw3]
  clear hw3
  refine hq.mono ?_
  clear hq
  rintro e w4 ⟨rfl, h4, hb4⟩
  have hA4 := hA.below hb4
  have hwt : Calls Try.prog 7 #[.pointer (some ⟨C, 0, none⟩), .bool true, .agg #[.int .i64 7, .int .i64 0, .int .i64 6]] w4 fun e w' => e = .returned (.int .i64 0) ∧ Liv w w' (Fs F2 w4 w') C 1 false [5] [⟨7, 0, 6⟩] [] ∧ Frm F2 w4 w' :=
    (wait_any (S := []) (R := []) true ⟨7, 0, 6⟩ w4 h4.ch (by simp [sel]) (by simp [sel])).mono fun _ _ ⟨a, b, c⟩ => ⟨a, h4.step b c, c⟩
  clear hA hb4 h4
  go_wp2_with fail
  refine hwt.mono ?_
  rintro e w5 ⟨rfl, h5, hF5⟩
  have hA5 := hA4.frm hF5 hAo
  have hAo5 : ¬ Fs F2 w4 w5 w2.heap.size := fs_out hA4.lt hAo
  obtain ⟨F5, hFF⟩ : ∃ F5, F5 = Fs F2 w4 w5 := ⟨_, rfl⟩
  rw [← hFF] at h5 hAo5
  clear hwt hFF hF5 hA4 hAo
  have hs : Calls Try.prog 8 #[.pointer (some ⟨C, 0, none⟩), .bool false, .int .i64 0] w5 fun e w' => e = .returned (.tuple #[.agg #[.int .u8 4, .int .i64 7, .int .i64 0, .int .i64 6, .int .i64 5, .bool true, .int .i64 6], .int .i64 0]) ∧ Liv w w' (Fs F5 w5 w') C 1 false [6] [] [] ∧ Frm F5 w5 w' :=
    (serve_refill (t := []) (R := []) (x := ⟨7, 0, 6⟩) 0 w5 h5.ch (by simp) (by simp) (by decide) (y := 5) rfl).mono fun _ _ ⟨a, b, c⟩ => ⟨a, h5.step b c, c⟩
  clear h5
  go_wp2_with fail
  refine hs.mono ?_
  rintro e w6 ⟨rfl, h6, hF6⟩
  have hA6 := hA5.frm hF6 hAo5
  have hAo6 : ¬ Fs F5 w5 w6 w2.heap.size := fs_out hA5.lt hAo5
  obtain ⟨F6, hFF⟩ : ∃ F6, F6 = Fs F5 w5 w6 := ⟨_, rfl⟩
  rw [← hFF] at h6 hAo6
  clear hs hFF hF6 hA5 hAo5
  obtain ⟨w7, hw7⟩ : ∃ w7, w7 = w6.alloc (.cells #[.int .u8 4, .int .i64 7, .int .i64 0, .int .i64 6, .int .i64 5, .bool true, .int .i64 6] 33) := ⟨_, rfl⟩
  have hB7 : GtAt w7 w6.heap.size ⟨4, ⟨7, 0, 6⟩, 5, true, 6⟩ := by rw [hw7]; exact gtAt_new w6 ⟨4, ⟨7, 0, 6⟩, 5, true, 6⟩
  have hA7 : GtAt w7 w2.heap.size ⟨3, .zero, 5, true, 0⟩ := by rw [hw7]; exact hA6.below (below1 w6 _)
  have h7 : Liv w w7 F6 C 1 false [6] [] [] := by rw [hw7]; exact h6.alloc _
  have hBo := h6.out
  have hs : Calls Try.prog 8 #[.pointer (some ⟨C, 0, none⟩), .bool true, .int .i64 8] w7 fun e w' => e = .returned (.tuple #[.agg #[.int .u8 0, .int .i64 0, .int .i64 0, .int .i64 0, .int .i64 0, .bool false, .int .i64 0], .int .i64 8]) ∧ Liv w w' (Fs F6 w7 w') C 1 false [6] [] [] ∧ Frm F6 w7 w' :=
    (serve_not (S := []) 8 w7 h7.ch (by simp) (by simp) rfl (by decide)).mono fun _ _ ⟨a, b, c⟩ => ⟨a, h7.step b c, c⟩
  clear h7 h6 hA6
  go_wp2_with fail
  rw [← hw7]
  clear hw7
  refine hs.mono ?_
  rintro e w8 ⟨rfl, h8, hF8⟩
  have hA8 := (hA7.frm hF8 hAo6).below (below1 w8 (.cells #[.int .u8 0, .int .i64 0, .int .i64 0, .int .i64 0, .int .i64 0, .bool false, .int .i64 0] 33))
  have hB8 := (hB7.frm hF8 hBo).below (below1 w8 (.cells #[.int .u8 0, .int .i64 0, .int .i64 0, .int .i64 0, .int .i64 0, .bool false, .int .i64 0] 33))
  have hb8 : Below w.heap.size w (w8.alloc (.cells #[.int .u8 0, .int .i64 0, .int .i64 0, .int .i64 0, .int .i64 0, .bool false, .int .i64 0] 33)) := Below.al h8.below h8.below.size _
  clear hs hF8 hA7 hB7 hAo6 hBo h8
  have a0 := hA8.c0
  have a1 := hA8.c1
  have a2 := hA8.c2
  have a3 := hA8.c3
  have a4 := hA8.c4
  have a5 := hA8.c5
  have a6 := hA8.c6
  have b0 := hB8.c0
  have b1 := hB8.c1
  have b2 := hB8.c2
  have b3 := hB8.c3
  have b4 := hB8.c4
  have b5 := hB8.c5
  have b6 := hB8.c6
  clear hA8 hB8
  go_wp2_with fail
  go_ret
  exact ⟨rfl, hb8⟩
end Go.Proofs.Ytbelfcfdgkmnmaa
