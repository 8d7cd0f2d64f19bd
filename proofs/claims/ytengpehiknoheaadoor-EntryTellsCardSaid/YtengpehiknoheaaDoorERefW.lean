/-
  The walks of what the document's answer is made of: bounds, kinds, faults, words.
-/
import Derived.Test.YtengpehiknoheaaDoorESmall
namespace Go.Proofs.YtengpehiknoheaaDoor
open Go.RowKit Go.Shelf

attribute [local go_sem] Oper.semAt_some

theorem rflag_any (b : Bool) (w : World) :
    Calls Tryd.prog 26 #[.bool b] w fun e w' => e = .returned (.int .i64 (flagI b)) ∧ w' = w := by
  go_enter Tryd.func26, Tryd.ntmps26
  cases b
  all_goals
    go_wp2_with fail
    go_ret
    exact ⟨rfl, rfl⟩
def inB (v l m : Int) : Bool := decide (l ≤ v) && decide (v ≤ m)
theorem rin_any (v l m : Int) (w : World) :
    Calls Tryd.prog 36 #[.int .i64 v, .int .i64 l, .int .i64 m] w fun e w' => e = .returned (.bool (inB v l m)) ∧ w' = w := by
  go_enter Tryd.func36, Tryd.ntmps36
  by_cases h0 : l ≤ v
  · have HE : Hid (decide (v ≤ m) = inB v l m) := Lib.hid (by simp [inB, h0])
    go_wp2_with fail
    go_ret
    exact ⟨ret_v (by rw [← HE.out]; rfl), rfl⟩
  · have HE : Hid (inB v l m = false) := Lib.hid (by simp [inB, h0])
    have h1 : decide (l ≤ v) = false := by simpa using h0
    have h2 : v < l := by omega
    clear h0
    go_wp2_with fail
    go_ret
    exact ⟨ret_v (by rw [HE.out]; rfl), rfl⟩
theorem rknown_any (k : Nat) (w : World) :
    Calls Tryd.prog 34 #[.int .u8 (k : Int)] w fun e w' => e = .returned (.bool (known k)) ∧ w' = w := by
  go_enter Tryd.func34, Tryd.ntmps34
  by_cases h1 : 1 ≤ k
  · have g1 : (1 : Int) ≤ (k : Int) := by omega
    by_cases h2 : k ≤ 11
    · have g2 : (k : Int) ≤ 11 := by omega
      have d2 : decide ((k : Int) ≤ 11) = true := by simpa using g2
      have HE : Hid (known k = true) := Lib.hid (by simp [known]; omega)
      clear h1 h2
      go_wp2_with fail
      go_ret
      exact ⟨ret_v (by rw [HE.out]; rfl), rfl⟩
    · have g2 : (11 : Int) < (k : Int) := by omega
      have d2 : decide ((k : Int) ≤ 11) = false := by simp; omega
      by_cases h3 : 21 ≤ k
      · have g3 : (21 : Int) ≤ (k : Int) := by omega
        have HE : Hid (decide ((k : Int) ≤ 26) = known k) := Lib.hid (by unfold known; rw [decide_eq_decide]; omega)
        clear h1 h2 h3
        go_wp2_with fail
        go_ret
        exact ⟨ret_v (by rw [← HE.out]; rfl), rfl⟩
      · have g3 : (k : Int) < 21 := by omega
        have d3 : decide ((21 : Int) ≤ (k : Int)) = false := by simp; omega
        have HE : Hid (known k = false) := Lib.hid (by simp [known]; omega)
        clear h1 h2 h3
        go_wp2_with fail
        go_ret
        exact ⟨ret_v (by rw [HE.out]; rfl), rfl⟩
  · have g1 : (k : Int) < 1 := by omega
    have g3 : (k : Int) < 21 := by omega
    have d1 : decide ((1 : Int) ≤ (k : Int)) = false := by simp; omega
    have d3 : decide ((21 : Int) ≤ (k : Int)) = false := by simp; omega
    have HE : Hid (known k = false) := Lib.hid (by simp [known]; omega)
    clear h1
    go_wp2_with fail
    go_ret
    exact ⟨ret_v (by rw [HE.out]; rfl), rfl⟩
theorem rfault_any (v : Int) (w : World) :
    Calls Tryd.prog 37 #[.int .i64 v] w fun e w' => e = .returned (.bool (faultB v)) ∧ w' = w := by
  have HE : Hid (faultB v = (v == 140 || (v == 141 || (v == 142 || v == 143)))) := Lib.hid rfl
  go_enter Tryd.func37, Tryd.ntmps37
  cases h0 : (v == 140)
  · cases h1 : (v == 141)
    · cases h2 : (v == 142)
      · go_wp2_with fail
        go_ret
        exact ⟨ret_v (by rw [HE.out, h0, h1, h2]; rfl), rfl⟩
      · go_wp2_with fail
        go_ret
        exact ⟨ret_v (by rw [HE.out, h0, h1, h2]; rfl), rfl⟩
    · go_wp2_with fail
      go_ret
      exact ⟨ret_v (by rw [HE.out, h0, h1]; rfl), rfl⟩
  · go_wp2_with fail
    go_ret
    exact ⟨ret_v (by rw [HE.out, h0]; rfl), rfl⟩
/-- Block B is the words. -/
def WordsAt (W : World) (B : Nat) : Prop := W.heap[B]? = some (.cells #[.string ⟨#[]⟩, .string ⟨#[115, 101, 110, 100]⟩, .string ⟨#[114, 101, 99, 118]⟩, .string ⟨#[109, 101, 101, 116]⟩, .string ⟨#[114, 101, 102, 105, 108, 108]⟩, .string ⟨#[99, 108, 111, 115, 101]⟩, .string ⟨#[119, 97, 107, 101]⟩, .string ⟨#[100, 101, 102, 97, 117, 108, 116]⟩, .string ⟨#[98, 108, 111, 99, 107]⟩, .string ⟨#[115, 112, 97, 119, 110]⟩, .string ⟨#[101, 110, 100]⟩, .string ⟨#[102, 97, 117, 108, 116]⟩, .string ⟨#[]⟩, .string ⟨#[]⟩, .string ⟨#[]⟩, .string ⟨#[]⟩, .string ⟨#[]⟩, .string ⟨#[]⟩, .string ⟨#[]⟩, .string ⟨#[]⟩, .string ⟨#[]⟩, .string ⟨#[100, 105, 115, 112, 97, 116, 99, 104]⟩, .string ⟨#[114, 101, 97, 100, 121]⟩, .string ⟨#[112, 114, 101, 101, 109, 112, 116]⟩, .string ⟨#[108, 111, 99, 107, 101, 100]⟩, .string ⟨#[112, 111, 108, 108]⟩, .string ⟨#[102, 114, 101, 101]⟩] 9 (0, 0))
theorem WordsAt.cell {W : World} {B : Nat} (h : WordsAt W B) (k : Nat) (hk : k ≤ 26) : W.cell? ⟨B, k, none⟩ = some (.string ⟨(wordL k).toArray⟩) := by
  rcases (by omega : k = 0 ∨ k = 1 ∨ k = 2 ∨ k = 3 ∨ k = 4 ∨ k = 5 ∨ k = 6 ∨ k = 7 ∨ k = 8 ∨ k = 9 ∨ k = 10 ∨ k = 11 ∨ k = 12 ∨ k = 13 ∨ k = 14 ∨ k = 15 ∨ k = 16 ∨ k = 17 ∨ k = 18 ∨ k = 19 ∨ k = 20 ∨ k = 21 ∨ k = 22 ∨ k = 23 ∨ k = 24 ∨ k = 25 ∨ k = 26) with rfl | rfl | rfl | rfl | rfl | rfl | rfl | rfl | rfl | rfl | rfl | rfl | rfl | rfl | rfl | rfl | rfl | rfl | rfl | rfl | rfl | rfl | rfl | rfl | rfl | rfl | rfl
  all_goals simp [World.cell?, show W.heap[B]? = _ from h, wordL]
set_option maxHeartbeats 800000 in
theorem rword_any (k : Nat) (hk : k < 256) (w : World) :
    Calls Tryd.prog 17 #[.int .u8 (k : Int)] w fun e w' => e = .returned (.string ⟨(wordL k).toArray⟩) ∧ Below w.heap.size w w' := by
  have hb : ∀ o, Below w.heap.size w (w.alloc o) := fun o => below1 w o
  have hW : WordsAt (w.alloc (.cells #[.string ⟨#[]⟩, .string ⟨#[115, 101, 110, 100]⟩, .string ⟨#[114, 101, 99, 118]⟩, .string ⟨#[109, 101, 101, 116]⟩, .string ⟨#[114, 101, 102, 105, 108, 108]⟩, .string ⟨#[99, 108, 111, 115, 101]⟩, .string ⟨#[119, 97, 107, 101]⟩, .string ⟨#[100, 101, 102, 97, 117, 108, 116]⟩, .string ⟨#[98, 108, 111, 99, 107]⟩, .string ⟨#[115, 112, 97, 119, 110]⟩, .string ⟨#[101, 110, 100]⟩, .string ⟨#[102, 97, 117, 108, 116]⟩, .string ⟨#[]⟩, .string ⟨#[]⟩, .string ⟨#[]⟩, .string ⟨#[]⟩, .string ⟨#[]⟩, .string ⟨#[]⟩, .string ⟨#[]⟩, .string ⟨#[]⟩, .string ⟨#[]⟩, .string ⟨#[100, 105, 115, 112, 97, 116, 99, 104]⟩, .string ⟨#[114, 101, 97, 100, 121]⟩, .string ⟨#[112, 114, 101, 101, 109, 112, 116]⟩, .string ⟨#[108, 111, 99, 107, 101, 100]⟩, .string ⟨#[112, 111, 108, 108]⟩, .string ⟨#[102, 114, 101, 101]⟩] 9)) w.heap.size := World.alloc_heap_new w _
  have hwrap : IntKind.i64.wrap (k : Int) = (k : Int) := by
    rw [IntKind.wrap_i64]; omega
  by_cases h : k ≤ 26
  · have h1 : (k : Int) < 27 := by omega
    have hc := hW.cell k h
    obtain ⟨W1, hW1⟩ : ∃ W1, W1 = w.alloc (.cells #[.string ⟨#[]⟩, .string ⟨#[115, 101, 110, 100]⟩, .string ⟨#[114, 101, 99, 118]⟩, .string ⟨#[109, 101, 101, 116]⟩, .string ⟨#[114, 101, 102, 105, 108, 108]⟩, .string ⟨#[99, 108, 111, 115, 101]⟩, .string ⟨#[119, 97, 107, 101]⟩, .string ⟨#[100, 101, 102, 97, 117, 108, 116]⟩, .string ⟨#[98, 108, 111, 99, 107]⟩, .string ⟨#[115, 112, 97, 119, 110]⟩, .string ⟨#[101, 110, 100]⟩, .string ⟨#[102, 97, 117, 108, 116]⟩, .string ⟨#[]⟩, .string ⟨#[]⟩, .string ⟨#[]⟩, .string ⟨#[]⟩, .string ⟨#[]⟩, .string ⟨#[]⟩, .string ⟨#[]⟩, .string ⟨#[]⟩, .string ⟨#[]⟩, .string ⟨#[100, 105, 115, 112, 97, 116, 99, 104]⟩, .string ⟨#[114, 101, 97, 100, 121]⟩, .string ⟨#[112, 114, 101, 101, 109, 112, 116]⟩, .string ⟨#[108, 111, 99, 107, 101, 100]⟩, .string ⟨#[112, 111, 108, 108]⟩, .string ⟨#[102, 114, 101, 101]⟩] 9) := ⟨_, rfl⟩
    have hB : Below w.heap.size w W1 := by rw [hW1]; exact hb _
    clear hW
    go_enter Tryd.func17, Tryd.ntmps17
    go_wp2_with fail
    go_ret
    exact ⟨rfl, by rw [← hW1]; exact hB⟩
  · have h1 : (27 : Int) ≤ (k : Int) := by omega
    have HE : Hid (wordL k = []) := Lib.hid (wordL_out (by simp [known]; omega))
    clear hW
    go_enter Tryd.func17, Tryd.ntmps17
    go_wp2_with fail
    go_ret
    exact ⟨ret_v (by rw [HE.out]; rfl), hb _⟩
end Go.Proofs.YtengpehiknoheaaDoor
