/-
  The walks of cell.Cas and its closure.
-/
import Derived.Test.YtbpelcclkmmglaaCAcc
namespace Go.Proofs.Ytbpelcclkmmglaa
open Go.RowKit

theorem cas1_yes {V i R D F : Nat} {x f : Nat} (w : World) (hv : w.cell? ⟨V, i, none⟩ = some (.int .u64 (x : Int))) (hz : w.frozen? ⟨V, i, none⟩ = false) (ho : Boxed w D 33 (.int .u64 (x : Int))) (hr : Boxed w R 4 (.bool false)) (hf : Boxed w F 33 (.int .u64 (f : Int))) (hVR : V ≠ R) (hFR : F ≠ R) :
    Calls Try.prog 38 #[.pointer (some ⟨V, i, none⟩), .pointer (some ⟨D, 0, none⟩), .pointer (some ⟨R, 0, none⟩), .pointer (some ⟨F, 0, none⟩)] w fun e w' => e = .returned (.tuple #[]) ∧ w' = ((w.setCell ⟨R, 0, none⟩ (.bool true)).setCell ⟨V, i, none⟩ (.int .u64 (f : Int))).drew := by
  have c1 := ho.cell
  have c2 := hr.cell
  have c3 := hf.cell
  have z2 := hr.frozen
  have hRV := hVR.symm
  have hRF := hFR.symm
  have q : ((x : Int) == (x : Int)) = true := by simp
  clear ho hr hf
  go_enter Try.func38, Try.ntmps38
  go_wp2_with fail
  go_region
  go_wp2_with fail
  go_end0
  exact ⟨rfl, rfl⟩
theorem cas1_no {V i R D F : Nat} {x y : Nat} (w : World) (hv : w.cell? ⟨V, i, none⟩ = some (.int .u64 (x : Int))) (ho : Boxed w D 33 (.int .u64 (y : Int))) (hr : Boxed w R 4 (.bool false)) (hxy : ¬ x = y) :
    Calls Try.prog 38 #[.pointer (some ⟨V, i, none⟩), .pointer (some ⟨D, 0, none⟩), .pointer (some ⟨R, 0, none⟩), .pointer (some ⟨F, 0, none⟩)] w fun e w' => e = .returned (.tuple #[]) ∧ w' = (w.setCell ⟨R, 0, none⟩ (.bool false)).drew := by
  have c1 := ho.cell
  have c2 := hr.cell
  have z2 := hr.frozen
  have q : ((x : Int) == (y : Int)) = false := by simp; omega
  clear ho hr hxy
  go_enter Try.func38, Try.ntmps38
  go_wp2_with fail
  go_region
  go_wp2_with fail
  go_end0
  exact ⟨rfl, rfl⟩

/-- What a Cas of cell i leaves. -/
def casV (vs : List Nat) (i x f : Nat) : List Nat := if nth vs i = x then vs.set i f else vs
theorem casV_len (vs : List Nat) (i x f : Nat) : (casV vs i x f).length = vs.length := by unfold casV; split <;> simp

theorem access_cas {B V R D F : Nat} {vs : List Nat} {n x f : Nat} (i : Nat) (w : World) (h : Cels w B V vs n) (hi : i < vs.length) (ho : Boxed w D 33 (.int .u64 (x : Int))) (hr : Boxed w R 4 (.bool false)) (hb : Boxed w F 33 (.int .u64 (f : Int))) (hf : f < 18446744073709551616) (hDB : D ≠ B) (hRB : R ≠ B) (hFB : F ≠ B) (hRV : R ≠ V) (hFR : F ≠ R) :
    Calls Try.prog 32 #[.pointer (some ⟨B, 0, none⟩), .int .i64 (i : Int), .func (.func 38) #[] #[.pointer (some ⟨D, 0, none⟩), .pointer (some ⟨R, 0, none⟩), .pointer (some ⟨F, 0, none⟩)]] w fun e w' => e = .returned (.tuple #[]) ∧ Cels w' B V (casV vs i x f) (up n) ∧ But [B, V, R] w w' ∧ Boxed w' R 4 (.bool (decide (nth vs i = x))) := by
  have hcall := has_any (i : Int) w h (by omega) (by have := h.len; omega)
  rw [show inRow vs.length (i : Int) = true from decide_eq_true (by omega)] at hcall
  have hl := h.len
  have hN := h.cellN
  have hS := h.cellS
  have hz := h.frozenB 1
  have hw := u64_succ n
  have h' := h.setN rfl (up_lt n)
  have hB' : But [B] w (w.setCell ⟨B, 1, none⟩ (.int .u64 (up n : Int))) := (But.refl _ w).set (.inl (by simp)) _
  have hox := hB'.boxed ho (by simpa using hDB)
  have hbx := hB'.boxed hb (by simpa using hFB)
  have hrx := hB'.boxed hr (by simpa using hRB)
  have hv' := h'.cellV hi
  have hz' := h'.frozenV i
  have hVR := hRV.symm
  clear h
  by_cases e : nth vs i = x
  · subst e
    rw [casV, if_pos rfl, decide_eq_true rfl]
    have hone := cas1_yes _ hv' hz' hox hrx hbx hVR hFR
    go_enter Try.func32, Try.ntmps32
    go_wp2_with (go_at_call 36; refine hcall.mono ?_; rintro e w' ⟨rfl, rfl⟩)
    refine hone.mono ?_
    rintro e w2 ⟨rfl, rfl⟩
    go_wp2_with fail
    go_end0
    have g1 : But [R] _ _ := (But.refl [R] (w'.setCell ⟨B, 1, none⟩ (.int .u64 (up n : Int)))).set (p := ⟨R, 0, none⟩) (.inl (by simp)) (.bool true)
    have h2 := h'.but g1 (by simpa using hRB.symm) (by simpa using hRV.symm)
    refine ⟨rfl, (h2.setV i rfl hf).drew, ?_, ?_⟩
    · exact ((((hB'.mono (by simp)).set (p := ⟨R, 0, none⟩) (.inl (by simp)) _)).set (.inl (by simp)) _).drew
    · exact (((But.refl [V] _).set (p := ⟨V, i, none⟩) (.inl (by simp)) _).drew).boxed (hrx.set _) (by simpa using hRV)
  · rw [casV, if_neg e, decide_eq_false e]
    have hone := cas1_no (F := F) _ hv' hox hrx e
    go_enter Try.func32, Try.ntmps32
    go_wp2_with (go_at_call 36; refine hcall.mono ?_; rintro e w' ⟨rfl, rfl⟩)
    refine hone.mono ?_
    rintro e w2 ⟨rfl, rfl⟩
    go_wp2_with fail
    go_end0
    have g1 : But [R] _ _ := (But.refl [R] (w'.setCell ⟨B, 1, none⟩ (.int .u64 (up n : Int)))).set (p := ⟨R, 0, none⟩) (.inl (by simp)) (.bool false)
    exact ⟨rfl, (h'.but g1 (by simpa using hRB.symm) (by simpa using hRV.symm)).drew, ((hB'.mono (by simp)).set (p := ⟨R, 0, none⟩) (.inl (by simp)) _).drew, hrx.set _⟩

/-- Is it done? What is left? -/
def casIs (vs : List Nat) (i : Int) (x : Nat) : Bool := inRow vs.length i && decide (nth vs i.toNat = x)
def casAt (vs : List Nat) (i : Int) (x f : Nat) : List Nat := if inRow vs.length i then casV vs i.toNat x f else vs
theorem casAt_len (vs : List Nat) (i : Int) (x f : Nat) : (casAt vs i x f).length = vs.length := by unfold casAt; split <;> simp [casV_len]

theorem cell_cas {B V : Nat} {vs : List Nat} {n : Nat} (i : Int) (x f : Nat) (w : World) (h : Cels w B V vs n) (h1 : -9223372036854775808 ≤ i) (h2 : i ≤ 9223372036854775807) (hf : f < 18446744073709551616) :
    Calls Try.prog 29 #[.pointer (some ⟨B, 0, none⟩), .int .i64 i, .int .u64 (x : Int), .int .u64 (f : Int)] w fun e w' => e = .returned (.bool (casIs vs i x)) ∧ Cels w' B V (casAt vs i x f) (countUp vs.length n i) ∧ But [B, V] w w' := by
  have d0 := Boxed.new w 33 (.int .u64 (x : Int))
  have g0 := But.of_none (World.grownBy_alloc w (.cells #[.int .u64 (x : Int)] 33) none) []
  have x0 := h.but g0 (by simp) (by simp)
  have hlB := h.ltB
  have hlV := h.ltV
  have f1 := Boxed.new (w.alloc (.cells #[.int .u64 (x : Int)] 33)) 33 (.int .u64 (f : Int))
  have g1 := But.of_none (World.grownBy_alloc (w.alloc (.cells #[.int .u64 (x : Int)] 33)) (.cells #[.int .u64 (f : Int)] 33) none) []
  have x1 := x0.but g1 (by simp) (by simp)
  have d1 := g1.boxed d0 (by simp)
  have r2 := Boxed.new ((w.alloc (.cells #[.int .u64 (x : Int)] 33)).alloc (.cells #[.int .u64 (f : Int)] 33)) 4 (.bool false)
  have g2 := But.of_none (World.grownBy_alloc ((w.alloc (.cells #[.int .u64 (x : Int)] 33)).alloc (.cells #[.int .u64 (f : Int)] 33)) (.cells #[.bool false] 4) none) []
  have hx' := x1.but g2 (by simp) (by simp)
  have hd := g2.boxed d1 (by simp)
  have hF := g2.boxed f1 (by simp)
  have hg := (g0.next g1).next g2
  rw [World.size_alloc] at f1 hF r2
  rw [World.size_alloc] at r2
  clear d0 g0 x0 f1 g1 x1 d1 g2
  have hDB : w.heap.size ≠ B := by omega
  have hFB : w.heap.size + 1 ≠ B := by omega
  have hRB : w.heap.size + 1 + 1 ≠ B := by omega
  have hRV : w.heap.size + 1 + 1 ≠ V := by omega
  have hFR : w.heap.size + 1 ≠ w.heap.size + 1 + 1 := by omega
  cases hin : inRow vs.length i with
  | true =>
    obtain ⟨k, rfl, hk⟩ := inRow_nat hin
    rw [casIs, casAt, if_pos hin, countUp, if_pos hin, hin, Bool.true_and, Int.toNat_natCast]
    have hacc := access_cas k _ hx' hk hd r2 hF hf hDB hRB hFB hRV hFR
    obtain ⟨b, hb⟩ : ∃ b, decide (nth vs k = x) = b := ⟨_, rfl⟩
    rw [hb] at hacc ⊢
    clear h hin hb
    go_enter Try.func29, Try.ntmps29
    go_wp2_with fail
    refine hacc.mono ?_
    rintro e w1 ⟨rfl, hC, hb, hr1⟩
    have hc := hr1.cell
    have hf := hr1.frozen
    clear hx' r2 hd hF hacc
    go_wp2_with fail
    refine bodyPost_ret (v := .bool b) (by simp [results, Try.f29, go_sem, hc]) rfl ⟨rfl, ?_, ?_⟩
    · exact hC.but ((But.refl [w.heap.size + 1 + 1] _).set (.inl (by simp)) _) (by simpa using hRB.symm) (by simpa using hRV.symm)
    · exact ((hg.mono (by simp)).trans hb (by simp; omega)).set (.inr (by show w.heap.size ≤ w.heap.size + 1 + 1; omega)) _
  | false =>
    rw [casIs, casAt, if_neg (by simp [hin]), countUp, if_neg (by simp [hin]), hin, Bool.false_and]
    have hc := r2.cell
    have hf := r2.frozen
    clear h hd hF
    go_enter Try.func29, Try.ntmps29
    go_wp2_with fail
    refine (access_out i _ _ hx' h1 h2 hin).mono ?_
    rintro e w1 ⟨rfl, rfl⟩
    go_wp2_with fail
    refine bodyPost_ret (v := .bool false) (by simp [results, Try.f29, go_sem, hc]) rfl ⟨rfl, hx', hg.mono (by simp)⟩
end Go.Proofs.Ytbpelcclkmmglaa
