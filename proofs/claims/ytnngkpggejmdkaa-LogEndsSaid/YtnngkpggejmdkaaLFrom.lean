/-
  The walk of From, of a row each of which may be put.
-/
import Derived.Test.YtnngkpggejmdkaaLPut
namespace Go.Proofs.Ytnngkpggejmdkaa
open Go.RowKit

theorem but_low {w W W' : World} {n B : Nat} {b : Nat} {v : Value} {xs : List En} (h : Below n w W) (hL : LogAt W b B v xs) (hb : But (logBlocks B v) W W') (hn : n ≤ w.heap.size) (hB : n ≤ B) (hbn : n ≤ b) : Below n w W' := by
  refine h.trans (hb.below (Nat.le_trans hn h.size) fun k hk => ?_)
  unfold logBlocks at hk
  rcases List.mem_cons.1 hk with rfl | hk
  · exact hB
  · have := (hL.rowB (g := k) (by simpa using hk)).2
    omega
set_option maxRecDepth 100000 in
set_option maxHeartbeats 1000000 in
theorem from_any (v : Value) (l : List En) (w : World) (hr : EnRow w v l) (hl : l.length ≤ 900) (hx : ∀ x ∈ l, x.ok) (hG : Good l) :
    Calls Try.prog 19 #[v] w fun e w' => e = .returned (.tuple #[.pointer (some ⟨w.heap.size, 0, none⟩), .int .i64 0]) ∧ (∃ u, LogAt w' w.heap.size w.heap.size u l) ∧ Below w.heap.size w w' := by
  obtain ⟨a, c, rfl⟩ := hr.slice
  have hnew := new_any w
  go_enter Try.func19, Try.ntmps19
  go_wp2_with fail
  refine hnew.mono ?_
  rintro e w1 ⟨rfl, hL1, hb1⟩
  go_wp2_with fail
  go_loopw [11] (fun iv wr => ∃ j : Nat, j ≤ l.length ∧ iv = .int .i64 (j : Int) ∧ (∃ u, LogAt wr w.heap.size w.heap.size u (l.take j)) ∧ Below w.heap.size w wr) (fun iv _ => l.length - (intOf iv).toNat)
  case atStart => exact ⟨0, Nat.zero_le _, rfl, ⟨_, hL1⟩, hb1⟩
  case round =>
    clear hL1 hb1 hnew
    obtain ⟨j, hj, rfl, ⟨u, hL⟩, hB⟩ := hrel
    by_cases hlt : j < l.length
    · have hlt' : (j : Int) < (l.length : Int) := by omega
      have q0 : (0 : Int) ≤ (j : Int) := by omega
      obtain ⟨x, hxj⟩ : ∃ x, l[j]? = some x := ⟨_, List.getElem?_eq_getElem hlt⟩
      have hxok := hx x (List.mem_of_getElem? hxj)
      have h0 := hG j x hxj
      have hT : l.take (j + 1) = putX (l.take j) x := by rw [putX_ok h0, take_snocE l hxj]
      have HT := Lib.hid hT
      obtain ⟨bb, off, rfl, hbb, x0, x1, x2, x3, x4, x5, x6, x7, x8, x9, x10, x11, x12⟩ := (hr.below hB).at hxj
      have hLa := hL.below (below1 wr (.cells #[.int .i64 x.a, .int .u8 (x.k : Int), .int .i64 x.w, .int .i64 x.t, .int .i64 x.p, .int .i64 x.c, .int .i64 x.b, .int .i64 x.q, .int .i64 x.v, .int .i64 x.u, .bool x.o, .int .i64 x.e, .int .u64 (x.s : Int)] 31))
      have hBa := Below.al hB hB.size (.cells #[.int .i64 x.a, .int .u8 (x.k : Int), .int .i64 x.w, .int .i64 x.t, .int .i64 x.p, .int .i64 x.c, .int .i64 x.b, .int .i64 x.q, .int .i64 x.v, .int .i64 x.u, .bool x.o, .int .i64 x.e, .int .u64 (x.s : Int)] 31)
      have hp := put_any x _ hLa (by rw [List.length_take]; omega) (fun y hy => hx y (List.mem_of_mem_take hy)) hxok hBa.size
      unfold En.val at hp
      have hXn := enAt_new wr x
      have c0 := hXn.c0
      have c1 := hXn.c1
      have c2 := hXn.c2
      have c3 := hXn.c3
      have c4 := hXn.c4
      have c5 := hXn.c5
      have c6 := hXn.c6
      have c7 := hXn.c7
      have c8 := hXn.c8
      have c9 := hXn.c9
      have c10 := hXn.c10
      have c11 := hXn.c11
      have c12 := hXn.c12
      clear hT hxj hXn
      go_wp2_with fail
      refine hp.mono ?_
      rintro e w2 ⟨rfl, u2, hL2, hb2, _⟩
      have hB2 := but_low hBa hLa hb2 (Nat.le_refl _) (Nat.le_refl _) (Nat.le_refl _)
      rw [h0]
      clear x0 x1 x2 x3 x4 x5 x6 x7 x8 x9 x10 x11 x12 c0 c1 c2 c3 c4 c5 c6 c7 c8 c9 c10 c11 c12 hp h0 hL hLa hBa hb2
      go_wp2_with fail
      go_roundw
      case rel => exact ⟨j + 1, by omega, by go_num, ⟨u2, by rw [HT.out]; exact hL2⟩, hB2⟩
      case measure => simp [intOf]; omega
    · have hlt' : ¬ (j : Int) < (l.length : Int) := by omega
      have HT : Hid (l.take j = l) := Lib.hid (List.take_of_length_le (by omega))
      go_wp2_with fail
      go_ret2
      exact ⟨rfl, ⟨u, by rw [HT.out] at hL; exact hL⟩, hB⟩
end Go.Proofs.Ytnngkpggejmdkaa
