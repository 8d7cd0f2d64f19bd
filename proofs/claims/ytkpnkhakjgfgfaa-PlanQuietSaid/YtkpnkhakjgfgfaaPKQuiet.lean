/-
  The law PlanQuiet.
-/
import Derived.Test.YtkpnkhakjgfgfaaPKDoes
import Derived.Test.YtkpnkhakjgfgfaaPKAlive
namespace Go.Proofs.Ytkpnkhakjgfgfaa
open Go.RowKit
open Lq (But I64b)

theorem kquiet_big (q : Nat) (ad : Option Addr) (len cap : Nat) (w : World) (hl : 300 < len) :
    Calls Try.prog 4 #[.int .u8 (q : Int), .slice ad len cap] w fun e w' => e = .returned (.bool true) ∧ Below w.heap.size w w' := by
  have hl1 : decide ((300 : Int) < (len : Int)) = true := by simp; omega
  have hl2 : (300 : Int) < (len : Int) := by omega
  have ha := alive_any w
  go_enter Try.func4, Try.ntmps4
  go_wp2_with fail
  refine ha.mono ?_
  rintro e w2 ⟨rfl, hb⟩
  go_wp2_with fail
  go_ret
  exact ⟨rfl, hb⟩
set_option maxRecDepth 100000 in
set_option maxHeartbeats 1000000 in
theorem kquiet_loop (q : Nat) (hq : q ≤ 255) (ad : Option Addr) (len cap : Nat) (f : Nat → Bool) (w : World) (hl : len ≤ 300)
    (hc : ∀ j, j < len → ∃ bb off, ad = some ⟨bb, off, none⟩ ∧ bb < w.heap.size ∧ w.cell? ⟨bb, off + j, none⟩ = some (.bool (f j))) :
    Calls Try.prog 4 #[.int .u8 (q : Int), .slice ad len cap] w fun e w' => e = .returned (.bool true) ∧ Below w.heap.size w w' := by
  have hl1 : decide ((300 : Int) < (len : Int)) = false := by simp; omega
  have hl2 : ¬ (300 : Int) < (len : Int) := by omega
  obtain ⟨m, hm⟩ : ∃ m, m = q % 9 := ⟨_, rfl⟩
  have hm9 : m ≤ 8 := by omega
  have hm1 : ((q : Int) % 9) = (m : Int) := by omega
  have hm2 : ((q : Int).tmod 9) = (m : Int) := by rw [Int.tmod_eq_emod_of_nonneg (by omega)]; omega
  have hw : IntKind.i64.wrap (q : Int) = (q : Int) := by rw [IntKind.wrap_i64]; omega
  clear hm
  have hnew := hnew_ok m w hm9
  go_enter Try.func4, Try.ntmps4
  go_wp2_with fail
  refine hnew.mono ?_
  rintro e w2 ⟨p, rfl, h2, hb2, hop⟩
  have hB2 : Below w.heap.size w w2 := hb2.below (Nat.le_refl _) (by simp)
  clear hnew hb2
  go_wp2_with fail
  clear hm1 hm2 hw hl1 hl2
  go_loopw [7] (fun iv wr => ∃ (i : Nat) (h : Hs), i ≤ len ∧ iv = .int .i64 (i : Int) ∧ Hch wr p h ∧ Inv h i ∧ Below w.heap.size w wr) (fun iv _ => len - (intOf iv).toNat)
  case atStart => exact ⟨0, _, Nat.zero_le _, rfl, h2, Inv.new m, hB2⟩
  case round =>
    clear h2 hB2
    obtain ⟨i, h, hi, rfl, hH, hI, hB⟩ := hrel
    by_cases hlt : i < len
    · have hlt' : (i : Int) < (len : Int) := by omega
      have q0 : (0 : Int) ≤ (i : Int) := by omega
      obtain ⟨bb, off, rfl, hbb, hcj⟩ := hc i hlt
      have hd : wr.cell? ⟨bb, off + i, none⟩ = some (.bool (f i)) := hB.cell (p := ⟨bb, off + i, none⟩) hbb |>.trans hcj
      have hdo := does_any (f i) wr hH hI (by omega)
      clear hc
      go_wp2_with fail
      refine hdo.mono ?_
      rintro e w3 ⟨rfl, ⟨h', hH', hI'⟩, hb3⟩
      clear hdo
      have hB3 : Below w.heap.size w w3 := hB.trans (hb3.below hB.size hop)
      go_wp2_with fail
      refine (quiet_any w3 hH').mono ?_
      rintro e w4 ⟨rfl, hb4⟩
      rw [hI'.quiet]
      have hB4 : Below w.heap.size w w4 := hB3.trans (hb4.below hB3.size (by simp))
      have hH4 := hH'.fresh hb4
      go_wp2_with fail
      go_roundw
      case rel => exact ⟨i + 1, h', by omega, by go_num, hH4, hI', hB4⟩
      case measure => simp [intOf]; omega
    · obtain rfl : i = len := by omega
      have ha := alive_any wr
      go_wp2_with fail
      refine ha.mono ?_
      rintro e w3 ⟨rfl, hb⟩
      go_wp2_with fail
      go_ret
      exact ⟨rfl, hB.trans (hb.mono hB.size)⟩
end Go.Proofs.Ytkpnkhakjgfgfaa
