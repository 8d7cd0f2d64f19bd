/-
  The walks of what a channel asks its buffer: Put, Take, Swap, Head, Len, Cap, Buffer; of Closed and Shut; of New.
-/
import Derived.Test.YtkpnkhakjgfgfaaHCOwn
namespace Go.Proofs.Ytkpnkhakjgfgfaa
open Go.RowKit
open Lq (But I64b)

theorem all_R (p : Pl) : ∀ x ∈ [p.R], x ∈ p.all := by simp [Pl.all]
theorem hput_any {p : Pl} {h : Hs} (v : Int) (w : World) (H : Hch w p h) :
    Calls Try.prog 19 #[ptrO p.C, .int .i64 v] w fun e w' => e = .returned (.int .i64 (Rg.putE h.m h.b)) ∧ Hch w' p (h.setB (Rg.putL h.m h.b v)) ∧ But p.all w w' := by
  have h0 := own_any w H
  have f0 := part0 (ptrO p.R) (ptrO p.S) (ptrO p.T) h.c
  go_enter Try.func19, Try.ntmps19
  go_wp2_with fail
  refine h0.mono ?_
  rintro e w1 ⟨rfl, hb⟩
  have H1 := H.fresh hb
  have hp := Rg.put_ring v w1 H1.ring
  clear h0
  go_wp2_with fail
  refine hp.mono ?_
  rintro e w2 ⟨rfl, hR, hg⟩
  clear hp
  go_wp2_with fail
  go_ret
  exact ⟨rfl, H1.turnB hR (But.of_grown hg), (hb.mono (by simp)).next ((But.of_grown hg).mono (all_R p))⟩
theorem hput_nil (v : Int) (w : World) :
    Calls Try.prog 19 #[.pointer none, .int .i64 v] w fun e w' => e = .returned (.int .i64 1) ∧ But [] w w' := by
  have h0 := own_nil w
  have f0 := part0 (.pointer none) (.pointer none) (.pointer none) false
  go_enter Try.func19, Try.ntmps19
  go_wp2_with fail
  refine h0.mono ?_
  rintro e w1 ⟨rfl, hb⟩
  clear h0
  go_wp2_with fail
  refine (Rg.put_nil v w1).mono ?_
  rintro e w2 ⟨rfl, rfl⟩
  go_wp2_with fail
  go_ret
  exact ⟨rfl, hb⟩
theorem htake_any {p : Pl} {h : Hs} (w : World) (H : Hch w p h) :
    Calls Try.prog 21 #[ptrO p.C] w fun e w' => e = .returned (.tuple #[.int .i64 (h.b.head?.getD 0), .int .i64 (Rg.takeE h.b)]) ∧ Hch w' p (h.setB (h.b.tail)) ∧ But p.all w w' := by
  have h0 := own_any w H
  have f0 := part0 (ptrO p.R) (ptrO p.S) (ptrO p.T) h.c
  go_enter Try.func21, Try.ntmps21
  go_wp2_with fail
  refine h0.mono ?_
  rintro e w1 ⟨rfl, hb⟩
  have H1 := H.fresh hb
  have hp := Rg.take_ring w1 H1.ring
  clear h0
  go_wp2_with fail
  refine hp.mono ?_
  rintro e w2 ⟨rfl, hR, hg⟩
  clear hp
  go_wp2_with fail
  go_ret2
  exact ⟨rfl, H1.turnB hR (But.of_grown hg), (hb.mono (by simp)).next ((But.of_grown hg).mono (all_R p))⟩
theorem htake_nil (w : World) :
    Calls Try.prog 21 #[.pointer none] w fun e w' => e = .returned (.tuple #[.int .i64 0, .int .i64 1]) ∧ But [] w w' := by
  have h0 := own_nil w
  have f0 := part0 (.pointer none) (.pointer none) (.pointer none) false
  go_enter Try.func21, Try.ntmps21
  go_wp2_with fail
  refine h0.mono ?_
  rintro e w1 ⟨rfl, hb⟩
  clear h0
  go_wp2_with fail
  refine (Rg.take_nil w1).mono ?_
  rintro e w2 ⟨rfl, rfl⟩
  go_wp2_with fail
  go_ret2
  exact ⟨rfl, hb⟩
theorem hswap_any {p : Pl} {h : Hs} (v : Int) (w : World) (H : Hch w p h) :
    Calls Try.prog 36 #[ptrO p.C, .int .i64 v] w fun e w' => e = .returned (.tuple #[.int .i64 (Rg.swapV h.m h.b), .int .i64 (Rg.swapE h.m h.b)]) ∧ Hch w' p (h.setB (Rg.swapL h.m h.b v)) ∧ But p.all w w' := by
  have h0 := own_any w H
  have f0 := part0 (ptrO p.R) (ptrO p.S) (ptrO p.T) h.c
  go_enter Try.func36, Try.ntmps36
  go_wp2_with fail
  refine h0.mono ?_
  rintro e w1 ⟨rfl, hb⟩
  have H1 := H.fresh hb
  have hp := Rg.swap_ring v w1 H1.ring
  clear h0
  go_wp2_with fail
  refine hp.mono ?_
  rintro e w2 ⟨rfl, hR, hg⟩
  clear hp
  go_wp2_with fail
  go_ret2
  exact ⟨rfl, H1.turnB hR (But.of_grown hg), (hb.mono (by simp)).next ((But.of_grown hg).mono (all_R p))⟩
theorem hswap_nil (v : Int) (w : World) :
    Calls Try.prog 36 #[.pointer none, .int .i64 v] w fun e w' => e = .returned (.tuple #[.int .i64 0, .int .i64 1]) ∧ But [] w w' := by
  have h0 := own_nil w
  have f0 := part0 (.pointer none) (.pointer none) (.pointer none) false
  go_enter Try.func36, Try.ntmps36
  go_wp2_with fail
  refine h0.mono ?_
  rintro e w1 ⟨rfl, hb⟩
  clear h0
  go_wp2_with fail
  refine (Rg.swap_nil v w1).mono ?_
  rintro e w2 ⟨rfl, hg⟩
  go_wp2_with fail
  go_ret2
  exact ⟨rfl, hb.next (Lq.But.of_below hg [])⟩
theorem hlen_any {p : Pl} {h : Hs} (w : World) (H : Hch w p h) :
    Calls Try.prog 60 #[ptrO p.C] w fun e w' => e = .returned (.int .i64 (h.b.length : Int)) ∧ But [] w w' := by
  have h0 := own_any w H
  have f0 := part0 (ptrO p.R) (ptrO p.S) (ptrO p.T) h.c
  go_enter Try.func60, Try.ntmps60
  go_wp2_with fail
  refine h0.mono ?_
  rintro e w1 ⟨rfl, hb⟩
  have H1 := H.fresh hb
  have hp := Rg.len_ring w1 H1.ring
  clear h0
  go_wp2_with fail
  refine hp.mono ?_
  rintro e w2 ⟨rfl, rfl⟩
  clear hp
  go_wp2_with fail
  go_ret
  exact ⟨rfl, hb⟩
theorem hlen_nil (w : World) :
    Calls Try.prog 60 #[.pointer none] w fun e w' => e = .returned (.int .i64 0) ∧ But [] w w' := by
  have h0 := own_nil w
  have f0 := part0 (.pointer none) (.pointer none) (.pointer none) false
  go_enter Try.func60, Try.ntmps60
  go_wp2_with fail
  refine h0.mono ?_
  rintro e w1 ⟨rfl, hb⟩
  clear h0
  go_wp2_with fail
  refine (Rg.len_nil w1).mono ?_
  rintro e w2 ⟨rfl, rfl⟩
  go_wp2_with fail
  go_ret
  exact ⟨rfl, hb⟩
theorem hcap_any {p : Pl} {h : Hs} (w : World) (H : Hch w p h) :
    Calls Try.prog 31 #[ptrO p.C] w fun e w' => e = .returned (.int .i64 (h.m : Int)) ∧ But [] w w' := by
  have h0 := own_any w H
  have f0 := part0 (ptrO p.R) (ptrO p.S) (ptrO p.T) h.c
  go_enter Try.func31, Try.ntmps31
  go_wp2_with fail
  refine h0.mono ?_
  rintro e w1 ⟨rfl, hb⟩
  have H1 := H.fresh hb
  have hp := Rg.cap_ring w1 H1.ring
  clear h0
  go_wp2_with fail
  refine hp.mono ?_
  rintro e w2 ⟨rfl, rfl⟩
  clear hp
  go_wp2_with fail
  go_ret
  exact ⟨rfl, hb⟩
theorem hcap_nil (w : World) :
    Calls Try.prog 31 #[.pointer none] w fun e w' => e = .returned (.int .i64 0) ∧ But [] w w' := by
  have h0 := own_nil w
  have f0 := part0 (.pointer none) (.pointer none) (.pointer none) false
  go_enter Try.func31, Try.ntmps31
  go_wp2_with fail
  refine h0.mono ?_
  rintro e w1 ⟨rfl, hb⟩
  clear h0
  go_wp2_with fail
  refine (Rg.cap_nil w1).mono ?_
  rintro e w2 ⟨rfl, rfl⟩
  go_wp2_with fail
  go_ret
  exact ⟨rfl, hb⟩
end Go.Proofs.Ytkpnkhakjgfgfaa
