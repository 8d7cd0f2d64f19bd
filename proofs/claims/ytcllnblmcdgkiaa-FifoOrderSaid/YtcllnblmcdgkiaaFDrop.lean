/-
  The walk of fifo.Drop.
-/
import Derived.Test.YtcllnblmcdgkiaaFPush
namespace Go.Proofs.Ytcllnblmcdgkiaa
open Go.RowKit

theorem place_int {B : Nat} {vs : List Int} {f n m i : Nat} {x : Int} (hx : x = (i : Int)) (w : World) (h : RawAt w B vs f n m) (hf : f < 32) (hi : i ≤ 32) :
    Calls Try.prog 24 #[.pointer (some ⟨B, 0, none⟩), .int .i64 x] w fun e w' => e = .returned (.int .i64 (slotOf f i : Int)) ∧ w' = w := by
  subst hx
  exact place_raw w h hf hi

theorem drop_nil (k : Int) (w : World) :
    Calls Try.prog 13 #[.pointer none, .int .i64 k] w fun e w' => e = .returned (.int .i64 1) ∧ Below w.heap.size w w' := by
  go_enter Try.func13, Try.ntmps13
  go_wp2_with fail
  refine (at_nil k _).mono ?_
  rintro e w' ⟨rfl, hb⟩
  go_wp2_with fail
  go_ret
  exact ⟨rfl, hb⟩
theorem drop_not {B m : Nat} {ys : List Int} (k : Int) (w : World) (h : Fif w B m ys) (hm : k ∉ ys) :
    Calls Try.prog 13 #[.pointer (some ⟨B, 0, none⟩), .int .i64 k] w fun e w' => e = .returned (.int .i64 3) ∧ Below w.heap.size w w' := by
  have hat := at_any k w h
  rw [atV_not hm] at hat
  go_enter Try.func13, Try.ntmps13
  go_wp2_with fail
  refine hat.mono ?_
  rintro e w' ⟨rfl, hb⟩
  go_wp2_with fail
  go_ret
  exact ⟨rfl, hb⟩
set_option maxHeartbeats 1600000 in
theorem drop_is {B m p : Nat} {ys : List Int} (k : Int) (w : World) (h : Fif w B m ys) (hp : ys.idxOf? k = some p) (hpl : p < ys.length) (hv : atV ys k = (p : Int)) :
    Calls Try.prog 13 #[.pointer (some ⟨B, 0, none⟩), .int .i64 k] w fun e w' => e = .returned (.int .i64 0) ∧ Fif w' B m (ys.erase k) ∧ But [B] w w' := by
  have hat := at_any k w h
  rw [hv] at hat
  have hle := h.le
  have hmo := h.most
  have HD := Lib.hid h.nd
  have HR := Lib.hid h.rng
  have hBl : B < w.heap.size := h.lt
  have HE := Lib.hid (erase_at hp)
  obtain ⟨n, hn⟩ : ∃ n, ys.length = n + 1 := ⟨ys.length - 1, by omega⟩
  have k0 : ¬ (p : Int) < 0 := by omega
  have k1 : decide ((p : Int) < 0) = false := by simp
  go_enter Try.func13, Try.ntmps13
  go_wp2_with fail
  refine hat.mono ?_
  rintro e w1 ⟨rfl, hb⟩
  obtain ⟨vs, f, hr1, hys, hf⟩ := (h.below hb).raw
  have hS := Shut.start (p := p) hr1.1 hys rfl
  have hbu := But.of_below hb [B]
  rw [hn] at hr1
  have HN := Lib.hid hn
  clear hys h hat hp hv hb
  go_wp2_with fail
  go_loopw [6] (fun iv wr => ∃ (i : Nat) (vs : List Int), p < i ∧ i ≤ n + 1 ∧ iv = .int .i64 (i : Int) ∧ RawAt wr B vs f (n + 1) m ∧ Shut vs ys f p i ∧ But [B] w wr) (fun iv _ => n + 1 - (intOf iv).toNat)
  case atStart => exact ⟨p + 1, vs, by omega, by omega, by go_num, hr1, hS, hbu⟩
  case round =>
    clear hr1 hS hbu
    obtain ⟨i, vs, hpi, hi, rfl, hr, hS, hbu⟩ := hrel
    have hN := hr.cellN
    by_cases hlt : i < n + 1
    · have hlt' : (i : Int) < (n : Int) + 1 := by omega
      have hs := slotOf_lt f i
      have hs1 : (0 : Int) ≤ (slotOf f i : Int) := by omega
      have hs2 : (slotOf f i : Int) < 32 := by omega
      have ht := slotOf_lt f (i - 1)
      have ht1 : (0 : Int) ≤ (slotOf f (i - 1) : Int) := by omega
      have ht2 : (slotOf f (i - 1) : Int) < 32 := by omega
      have HG := Lib.hid (hS.get (i := i) (by omega))
      have hS2 := hS.step hpi (by omega) (by omega)
      rw [← HG.out] at hS2
      have hc := hr.cellV hs
      generalize vs[slotOf f i]?.getD 0 = x at hc hS2
      have hz := hr.frozen (slotOf f (i - 1))
      have hct := hr.cellV ht
      have hc1 := place_int (x := (i : Int) - 1) (i := i - 1) (by omega) wr.drew hr.drew hf (by omega)
      have hc2 := place_raw (i := i) wr.drew hr.drew hf (by omega)
      have hw1 : IntKind.i64.wrap ((i : Int) - 1) = (i : Int) - 1 := by rw [IntKind.wrap_i64]; omega
      clear HG
      go_wp2_with fail
      refine wp_region_still_tail 16 (by kernel_rfl) (by kernel_rfl) ?_
      simp only [List.take_succ_cons, List.take_zero, List.drop_succ_cons, List.drop_zero]
      change wpStill _ _ wr.drew (fun a' => wpList _ _ _ _ a' wr.drew) _ _
      repeat still_step
      still_call hc1
      repeat still_step
      still_call hc2
      repeat still_step
      refine wpStill_nil ?_
      go_wp2_with fail
      go_roundw
      case rel => exact ⟨i + 1, _, by omega, by omega, by go_num, (hr.setV ht x).drew, hS2, (hbu.next (fresh_set _ _)).drew⟩
      case measure => simp [intOf]; omega
    · obtain rfl : i = n + 1 := by omega
      have hlt' : ¬ ((n : Int) + 1 < (n : Int) + 1) := by omega
      have hs := slotOf_lt f n
      have hs1 : (0 : Int) ≤ (slotOf f n : Int) := by omega
      have hs2 : (slotOf f n : Int) < 32 := by omega
      have hz9 := hr.frozen 33
      have hr2 := hr.setN n rfl
      have hN2 := hr2.cellN
      have hz := hr2.frozen (slotOf f n)
      have hct := hr2.cellV hs
      have hc := place_raw (i := n) (wr.setCell ⟨B, 33, none⟩ (.int .i64 (n : Int))).drew hr2.drew hf (by omega)
      have HF := Lib.hid (hS.done HN.out hpl (by omega))
      go_wp2_with fail
      refine wp_region_still_tail 10 (by kernel_rfl) (by kernel_rfl) ?_
      simp only [List.take_succ_cons, List.take_zero, List.drop_succ_cons, List.drop_zero]
      change wpStill _ _ (wr.setCell ⟨B, 33, none⟩ (.int .i64 (n : Int))).drew (fun a' => wpList _ _ _ _ a' (wr.setCell ⟨B, 33, none⟩ (.int .i64 (n : Int))).drew) _ _
      repeat still_step
      still_call hc
      repeat still_step
      refine wpStill_nil ?_
      go_wp2_with fail
      go_ret
      refine ⟨rfl, Fif.mk' (n := n) (hr2.setV hs 0).drew (by rw [HE.out, HF.out]) ?_ hf (by omega) hmo (HD.out.erase k) (fun y hy => HR.out y (List.mem_of_mem_erase hy)), ((hbu.next (fresh_set _ _)).next (fresh_set _ _)).drew⟩
      rw [HE.out, HF.out, heldBy_len]

theorem drop_any {B m : Nat} {ys : List Int} (k : Int) (w : World) (h : Fif w B m ys) :
    Calls Try.prog 13 #[.pointer (some ⟨B, 0, none⟩), .int .i64 k] w fun e w' => e = .returned (.int .i64 (dropE ys k)) ∧ Fif w' B m (ys.erase k) ∧ But [B] w w' := by
  unfold dropE
  by_cases hm : k ∈ ys
  · rw [if_pos hm]
    obtain ⟨p, h1, _, h2, h3⟩ := atV_is hm
    exact drop_is k w h h1 h3 h2
  · rw [if_neg hm, List.erase_of_not_mem hm]
    exact (drop_not k w h hm).mono fun _ _ ⟨h1, hb⟩ => ⟨h1, h.below hb, But.of_below hb _⟩
end Go.Proofs.Ytcllnblmcdgkiaa
