/-
  The walk of tollbarref04's Cas.
-/
import Derived.Test.YtbpelcclkmmglaaCRefDo
import Derived.Test.YtbpelcclkmmglaaCCas
namespace Go.Proofs.Ytbpelcclkmmglaa
open Go.RowKit

theorem rcas_any {C g : Nat} {vs : List Nat} {n : Nat} (i : Int) (x f : Nat) (w : World) (h : RefC w C g vs n) (h1 : -9223372036854775808 ≤ i) (h2 : i ≤ 9223372036854775807) (hf : f < 18446744073709551616) :
    Calls Try.prog 30 #[.pointer (some ⟨C, 0, none⟩), .int .i64 i, .int .u64 (x : Int), .int .u64 (f : Int)] w fun e w' => e = .returned (.bool (casIs vs i x)) ∧ RefNow w C g (casAt vs i x f) (countUp vs.length n i) w' := by
  have hcall := rhas_any i w h h1 h2
  have hl := h.len
  cases hi : inRow vs.length i with
  | true =>
    rw [countUp, if_pos hi, casIs, casAt, if_pos hi, hi, Bool.true_and]
    obtain ⟨k, rfl, hk⟩ := inRow_nat hi
    rw [hi] at hcall
    rw [Int.toNat_natCast]
    have hN := h.cellN
    have hz := h.frozen 1
    have hw := u64_succ' n
    have h' := h.setN (m := up n) rfl (up_lt n)
    obtain ⟨cap, hc, hcap⟩ := h'.cellS
    have hv := h'.cellV hk
    have hB : But [C] w (w.setCell ⟨C, 1, none⟩ (.int .u64 (up n : Int))) := (But.refl _ w).set (.inl (by simp)) _
    by_cases e : nth vs k = x
    · rw [decide_eq_true e, casV, if_pos e]
      rw [e] at hv
      have q : ((x : Int) != (x : Int)) = false := by simp
      have hset := rset_any k f _ h' hk hf
      clear h hi e
      go_enter Try.func30, Try.ntmps30
      go_wp2_with fail
      refine hcall.mono ?_
      rintro e w' ⟨rfl, rfl⟩
      go_wp2_with fail
      refine hset.mono ?_
      rintro e w2 ⟨rfl, g', hR, hg, hB2⟩
      go_wp2_with fail
      go_ret
      exact ⟨rfl, g', hR, .inr (Nat.le_trans hB.size hg), hB.next hB2⟩
    · rw [decide_eq_false e, casV, if_neg e]
      have q : ((nth vs k : Int) != (x : Int)) = true := by simp; omega
      clear h hi e
      go_enter Try.func30, Try.ntmps30
      go_wp2_with fail
      refine hcall.mono ?_
      rintro e w' ⟨rfl, rfl⟩
      go_wp2_with fail
      go_ret
      exact ⟨rfl, g, h', .inl rfl, hB⟩
  | false =>
    rw [countUp, hi, casIs, casAt, hi]
    rw [hi] at hcall
    have HR := h
    clear hi h
    go_enter Try.func30, Try.ntmps30
    go_wp2_with fail
    refine hcall.mono ?_
    rintro e w' ⟨rfl, rfl⟩
    go_wp2_with fail
    go_ret
    exact ⟨rfl, g, HR, .inl rfl, .refl _ _⟩
end Go.Proofs.Ytbpelcclkmmglaa
