/-
  The walk of log.ofKinds; those, held.
-/
import Derived.Test.YtnngkpggejmdkaaLMeant
namespace Go.Proofs.Ytnngkpggejmdkaa
open Go.RowKit

/-- The slice value v reads as the kinds ks. -/
def KRow (W : World) (v : Value) (ks : List Nat) : Prop :=
  ∃ a cap, v = .slice a ks.length cap ∧ (ks.length = 0 ∨ ∃ b off, a = some ⟨b, off, none⟩ ∧ b < W.heap.size ∧ ∀ (j k : Nat), ks[j]? = some k → W.cell? ⟨b, off + j, none⟩ = some (.int .u8 (k : Int)))
theorem KRow.one (W : World) (k : Nat) : KRow (W.alloc (.cells #[.int .u8 (k : Int)] 5)) (.slice (some ⟨W.heap.size, 0, none⟩) 1 1) [k] :=
  ⟨_, _, rfl, .inr ⟨W.heap.size, 0, rfl, lt_al W _, fun j i hj => by
    match j, hj with
    | 0, hj =>
      simp only [List.getElem?_cons_zero, Option.some.injEq] at hj
      subst hj
      exact cell_one_new W _ _ 0 _ (by simp)⟩⟩

def none256 : Array Value := Array.replicate 256 (.bool false)
theorem zero256 (W : World) : (zeroValue 70).run Try.prog W = .ok (.agg none256) W := by kernel_rfl
theorem told_none (W : World) : Told (W.alloc (.cells none256 70)) W.heap.size [] := by
  refine ⟨none256, World.alloc_heap_new W _, by simp [none256], fun k hk => ?_⟩
  simp [none256, hk]
theorem KRow.at {W : World} {a : Option Addr} {n c : Nat} {ks : List Nat} (h : KRow W (.slice a n c) ks) {j k : Nat} (hj : ks[j]? = some k) :
    ∃ b off, a = some ⟨b, off, none⟩ ∧ b < W.heap.size ∧ W.cell? ⟨b, off + j, none⟩ = some (.int .u8 (k : Int)) := by
  obtain ⟨a', c', h1, h2⟩ := h
  have hlt := (List.getElem?_eq_some_iff.1 hj).1
  simp only [Value.slice.injEq] at h1
  rcases h2 with h2 | ⟨b, off, h3, h4, h5⟩
  · omega
  · exact ⟨b, off, h1.1.trans h3, h4, h5 j k hj⟩
theorem take_snocK (l : List Nat) {k : Nat} {x : Nat} (hk : l[k]? = some x) : l.take (k + 1) = l.take k ++ [x] := by
  rw [List.take_add_one, hk]; rfl

set_option maxRecDepth 100000 in
set_option maxHeartbeats 1000000 in
theorem ofKinds_any (v : Value) (ks : List Nat) (w : World) (hr : KRow w v ks) (hk : ∀ k ∈ ks, k < 256) (hl : ks.length ≤ 1000) :
    Calls Try.prog 30 #[v] w fun e w' => e = .returned (.func (.func 42) #[] #[.pointer (some ⟨w.heap.size, 0, none⟩)]) ∧ Told w' w.heap.size ks ∧ Below w.heap.size w w' := by
  obtain ⟨a, cap, hv⟩ : ∃ a cap, v = .slice a ks.length cap := by obtain ⟨a, cap, h, _⟩ := hr; exact ⟨a, cap, h⟩
  subst hv
  have hz := zero256
  have hT := told_none w
  have hB := below1 w (.cells none256 70)
  go_enter Try.func30, Try.ntmps30
  go_wp2_with fail
  go_loopw [8] (fun i wr => ∃ j : Nat, i = .int .i64 j ∧ j ≤ ks.length ∧ Told wr w.heap.size (ks.take j) ∧ Below w.heap.size w wr) (fun i _ => ks.length - (intOf i).toNat)
  case atStart => exact ⟨0, rfl, Nat.zero_le _, hT, hB⟩
  case round =>
    obtain ⟨j, rfl, hj, hT, hB⟩ := hrel
    by_cases hlt : j < ks.length
    · have hlt' : (j : Int) < (ks.length : Int) := by omega
      have q0 : (0 : Int) ≤ (j : Int) := by omega
      obtain ⟨k, hkk⟩ : ∃ k, ks[j]? = some k := ⟨_, List.getElem?_eq_getElem hlt⟩
      have hk2 := hk k (List.mem_of_getElem? hkk)
      obtain ⟨b, off, rfl, hb, hc0⟩ := hr.at hkk
      have hc : wr.cell? ⟨b, off + j, none⟩ = some (.int .u8 (k : Int)) := (hB.cell (p := ⟨b, off + j, none⟩) hb).trans hc0
      have hk3 : (0 : Int) ≤ (k : Int) := by omega
      have hk4 : (k : Int) < 256 := by omega
      have hf := hT.frozen k
      have hct := hT.cell hk2
      have HT : Hid (ks.take (j + 1) = ks.take j ++ [k]) := Lib.hid (take_snocK ks hkk)
      clear hkk hc0 hz
      go_wp2_with fail
      go_roundw
      case rel => exact ⟨j + 1, by go_num, by omega, by rw [HT.out]; exact hT.set hk2, hB.setCell (p := ⟨w.heap.size, k, none⟩) (Nat.le_refl _) _⟩
      case measure => simp [intOf]; omega
    · have hlt' : ¬ (j : Int) < (ks.length : Int) := by omega
      have HT : Hid (ks.take j = ks) := Lib.hid (List.take_of_length_le (by omega))
      go_wp2_with fail
      go_ret
      exact ⟨rfl, by rw [HT.out] at hT; exact hT, hB⟩

theorem held_any {b B : Nat} {v : Value} {xs : List En} (w : World) (h : LogAt w b B v xs) :
    Calls Try.prog 32 #[.pointer (some ⟨B, 0, none⟩)] w fun e w' => e = .returned v ∧ w' = w := by
  have hc := h.head.cell
  go_enter Try.func32, Try.ntmps32
  go_wp2_with fail
  go_ret
  exact ⟨rfl, rfl⟩
theorem those_any (p : Option Addr) (K : Nat) (lb : Array Value) (w : World) :
    Calls Try.prog 33 #[.pointer p, .func (.func K) #[] lb] w fun e w' => e = .returned (.func (.func 44) #[] #[.pointer (some ⟨w.heap.size, 0, none⟩), .pointer (some ⟨w.heap.size + 1, 0, none⟩)]) ∧ w' = (w.alloc (.cells #[.pointer p] 24)).alloc (.cells #[.func (.func K) #[] lb] 49) := by
  go_enter Try.func33, Try.ntmps33
  go_wp2_with fail
  go_ret
  exact ⟨rfl, rfl⟩
theorem backward_any (a : Option Addr) (n c : Nat) (w : World) :
    Calls Try.prog 31 #[.slice a n c] w fun e w' => e = .returned (.func (.func 43) #[] #[.pointer (some ⟨w.heap.size, 0, none⟩)]) ∧ w' = w.alloc (.cells #[.slice a n c] 22) := by
  go_enter Try.func31, Try.ntmps31
  go_wp2_with fail
  go_ret
  exact ⟨rfl, rfl⟩
end Go.Proofs.Ytnngkpggejmdkaa
