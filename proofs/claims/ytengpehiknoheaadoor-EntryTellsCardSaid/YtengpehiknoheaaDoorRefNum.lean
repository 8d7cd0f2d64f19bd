/-
  The walk of tollbarref01.Num.
-/
import Derived.Test.YtengpehiknoheaaDoorPut
namespace Go.Proofs.YtengpehiknoheaaDoor
open Go.RowKit Oct

theorem ret_str {a b : ByteArray} (h : a = b) : Ending.returned (.string a) = .returned (.string b) := by rw [h]

theorem conv_one (w : World) (x : Nat) :
    (convert 49 9 (.slice (some ⟨w.heap.size, 0, none⟩) 1 1)).run Tryd.prog (w.alloc (.cells #[.int .u8 (x : Int)] 5)) = .ok (.string ⟨[UInt8.ofNat x].toArray⟩) (w.alloc (.cells #[.int .u8 (x : Int)] 5)) := by
  have h : (w.alloc (.cells #[.int .u8 (x : Int)] 5)).ownsRow w.heap.size 5 1 (.slice (some ⟨w.heap.size, 0, none⟩) 1 1) [(x : Int)].length (bytesV [(x : Int)]) := by
    refine ⟨by simp [bytesV], .inr ⟨w.heap.size, 1, #[.int .u8 (x : Int)], rfl, Nat.le_refl _, ?_, by simp, by unfold maxLen; omega, by simp, by simp [bytesV]⟩⟩
    show (w.heap.push _)[w.heap.size]? = _
    rw [Array.getElem?_push, if_pos rfl]
  have := conv_own _ _ _ _ h
  simpa using this

set_option maxHeartbeats 400000 in
theorem refNum_any (v : Nat) (w : World) (hv : v < 18446744073709551616) :
    Calls Tryd.prog 51 #[.int .u64 v] w fun e w' => e = .returned (.string ⟨(numL v).toArray⟩) ∧ Below w.heap.size w w' := by
  go_enter Tryd.func51, Tryd.ntmps51
  go_wp2_with fail
  go_loopw [0, 3] (fun uv sv wr => ∃ (u : Nat) (pre : List UInt8), uv = .int .u64 u ∧ u < 18446744073709551616 ∧ sv = .string ⟨pre.toArray⟩ ∧ Hid (pre ++ numL u = numL v) ∧ Below w.heap.size w wr) (fun uv _ _ => (intOf uv).toNat)
  case atStart => exact ⟨v, [], rfl, hv, rfl, rfl, Below.refl _ _⟩
  case round =>
    obtain ⟨u, pre, rfl, hu, rfl, HE, hb⟩ := hrel
    have hbw : w.heap.size ≤ wr.heap.size := hb.size
    have hpl : pre.length ≤ 10 := by
      have h1 := congrArg List.length HE.out
      have h2 := numL_len10 hv
      simp at h1; omega
    by_cases hge : 128 ≤ u
    · have hge' : (128 : Int) ≤ (u : Int) := by omega
      have hb1 : Below w.heap.size w (wr.alloc (.cells #[.int .u8 ((u : Int) % 128 + 128)] 5)) := hb.alloc hbw _
      have hcv := conv_one wr (u % 128 + 128)
      have hcast : ((u % 128 + 128 : Nat) : Int) = (u : Int) % 128 + 128 := by omega
      rw [hcast] at hcv
      clear hcast
      have H2 : Hid ((pre ++ [UInt8.ofNat (u % 128 + 128)]) ++ numL (u / 128) = numL v) := Lib.hid (by rw [← HE.out, numL_big (by omega : ¬ u < 128), List.append_assoc]; rfl)
      obtain ⟨c, hc⟩ : ∃ c, c = UInt8.ofNat (u % 128 + 128) := ⟨_, rfl⟩
      rw [← hc] at hcv H2
      clear hc
      go_wp2_with fail
      go_roundw
      case rel => exact ⟨u / 128, _, by go_num, by omega, by rw [ByteArray.mk_append_mk pre [c]], H2, hb1⟩
      case measure => simp [intOf]; omega
    · have hge' : ¬ (128 : Int) ≤ (u : Int) := by omega
      have hlt8 : (u : Int) ≤ 127 := by omega
      have hb1 : Below w.heap.size w (wr.alloc (.cells #[.int .u8 (u : Int)] 5)) := hb.alloc hbw _
      have hcv := conv_one wr u
      have H2 : Hid (pre ++ [UInt8.ofNat u] = numL v) := Lib.hid (by rw [← HE.out, numL_small (by omega : u < 128)])
      obtain ⟨c, hc⟩ : ∃ c, c = UInt8.ofNat u := ⟨_, rfl⟩
      rw [← hc] at hcv H2
      clear hc
      go_wp2_with fail
      go_ret
      exact ⟨ret_str (by rw [ByteArray.mk_append_mk pre [c], H2.out]), hb1⟩
end Go.Proofs.YtengpehiknoheaaDoor
