/-
  The walks of tollbarref04's Read, Write, Add.
-/
import Derived.Test.YtbjfongjdlankaaCRef
namespace Go.Proofs.Ytbjfongjdlankaa
open Go.RowKit

theorem u64_succ' (x : Nat) : IntKind.u64.wrap ((x : Int) + 1) = (up x : Int) := by
  rw [IntKind.wrap_u64]; unfold up; omega
theorem u64_plus' (x y : Nat) : IntKind.u64.wrap ((x : Int) + (y : Int)) = (plus x y : Int) := by
  rw [IntKind.wrap_u64]; unfold plus; omega

/-- What a call leaves that may set a cell. -/
def RefNow (w : World) (C g : Nat) (vs : List Nat) (n : Nat) (w' : World) : Prop := ∃ g', RefC w' C g' vs n ∧ (g' = g ∨ w.heap.size ≤ g') ∧ But [C] w w'

theorem rread_any {C g : Nat} {vs : List Nat} {n : Nat} (i : Int) (w : World) (h : RefC w C g vs n) (h1 : -9223372036854775808 ≤ i) (h2 : i ≤ 9223372036854775807) :
    Calls Try.prog 49 #[.pointer (some ⟨C, 0, none⟩), .int .i64 i] w fun e w' => e = .returned (.int .u64 (cellAt vs i : Int)) ∧ RefC w' C g vs (countUp vs.length n i) ∧ But [C] w w' := by
  have hcall := rhas_any i w h h1 h2
  have hl := h.len
  cases hi : inRow vs.length i with
  | true =>
    rw [countUp, if_pos hi]
    rw [hi] at hcall
    have hN := h.cellN
    have hz := h.frozen 1
    have hw := u64_succ' n
    have h' := h.setN (m := up n) rfl (up_lt n)
    have hpeek := rpeek_any i _ h' h1 h2
    have hB : But [C] w (w.setCell ⟨C, 1, none⟩ (.int .u64 (up n : Int))) := (But.refl _ w).set (.inl (by simp)) _
    clear h hi
    go_enter Try.func49, Try.ntmps49
    go_wp2_with fail
    refine hcall.mono ?_
    rintro e w' ⟨rfl, rfl⟩
    go_wp2_with fail
    refine hpeek.mono ?_
    rintro e w2 ⟨rfl, rfl⟩
    go_wp2_with fail
    go_ret
    exact ⟨rfl, h', hB⟩
  | false =>
    rw [countUp, hi]
    rw [hi] at hcall
    have hpeek := rpeek_any i w h h1 h2
    have HR := h
    clear hi h
    go_enter Try.func49, Try.ntmps49
    go_wp2_with fail
    refine hcall.mono ?_
    rintro e w' ⟨rfl, rfl⟩
    go_wp2_with fail
    refine hpeek.mono ?_
    rintro e w2 ⟨rfl, rfl⟩
    go_wp2_with fail
    go_ret
    exact ⟨rfl, HR, .refl _ _⟩

theorem radd_any {C g : Nat} {vs : List Nat} {n : Nat} (i : Int) (y : Nat) (w : World) (h : RefC w C g vs n) (h1 : -9223372036854775808 ≤ i) (h2 : i ≤ 9223372036854775807) :
    Calls Try.prog 48 #[.pointer (some ⟨C, 0, none⟩), .int .i64 i, .int .u64 (y : Int)] w fun e w' => e = .returned (.int .u64 (cellAt vs i : Int)) ∧ RefNow w C g (addAt vs i y) (countUp vs.length n i) w' := by
  have hcall := rhas_any i w h h1 h2
  have hl := h.len
  cases hi : inRow vs.length i with
  | true =>
    rw [countUp, if_pos hi, addAt, putAt, if_pos hi]
    obtain ⟨k, rfl, hk⟩ := inRow_nat hi
    rw [hi] at hcall
    rw [Int.toNat_natCast, cellAt_nat hk]
    have hN := h.cellN
    have hz := h.frozen 1
    have hw := u64_succ' n
    have hp := u64_plus' (nth vs k) y
    have h' := h.setN (m := up n) rfl (up_lt n)
    obtain ⟨cap, hc, hcap⟩ := h'.cellS
    have hv := h'.cellV hk
    have hset := rset_any k (plus (nth vs k) y) _ h' hk (plus_lt _ _)
    have hB : But [C] w (w.setCell ⟨C, 1, none⟩ (.int .u64 (up n : Int))) := (But.refl _ w).set (.inl (by simp)) _
    clear h hi
    go_enter Try.func48, Try.ntmps48
    go_wp2_with fail
    refine hcall.mono ?_
    rintro e w' ⟨rfl, rfl⟩
    go_wp2_with fail
    refine hset.mono ?_
    rintro e w2 ⟨rfl, g', hR, hg, hB2⟩
    go_wp2_with fail
    go_ret
    exact ⟨rfl, g', hR, .inr (Nat.le_trans hB.size hg), hB.next hB2⟩
  | false =>
    rw [countUp, hi, addAt, putAt, hi, cellAt_out hi]
    rw [hi] at hcall
    have HR := h
    clear hi h
    go_enter Try.func48, Try.ntmps48
    go_wp2_with fail
    refine hcall.mono ?_
    rintro e w' ⟨rfl, rfl⟩
    go_wp2_with fail
    go_ret
    exact ⟨rfl, g, HR, .inl rfl, .refl _ _⟩
end Go.Proofs.Ytbjfongjdlankaa
