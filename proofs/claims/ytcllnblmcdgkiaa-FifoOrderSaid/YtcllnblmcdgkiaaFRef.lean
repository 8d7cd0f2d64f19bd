/-
  Rows of the reference: a block of a number and a row; the walk of tollbarref08's At.
-/
import Derived.Test.YtcllnblmcdgkiaaFSame
import Derived.Test.YtcllnblmcdgkiaaFDrop
import Derived.Test.YtcllnblmcdgkiaaFCopy
namespace Go.Proofs.Ytcllnblmcdgkiaa
open Go.RowKit

/-- A row of ints, at one place. -/
theorem RowI.at {W : World} {a : Option Addr} {n c : Nat} {xs : List Int} (h : RowI W (.slice a n c) xs) {k : Nat} (hk : k < xs.length) : ∃ b off, a = some ⟨b, off, none⟩ ∧ b < W.heap.size ∧ W.cell? ⟨b, off + k, none⟩ = some (.int .i64 (xs[k]?.getD 0)) := by
  rcases h with ⟨rfl, _⟩ | ⟨b, off, c', he, _, hlt, hc⟩
  · simp at hk
  · simp only [Value.slice.injEq] at he
    obtain ⟨rfl, -, -⟩ := he
    exact ⟨b, off, rfl, hlt, hc k hk⟩
theorem RowI.slice {w : World} {v : Value} {xs : List Int} (h : RowI w v xs) : ∃ a c, v = .slice a xs.length c := by
  rcases h with ⟨rfl, a, c, rfl⟩ | ⟨b, off, c, rfl, _⟩
  · exact ⟨a, c, rfl⟩
  · exact ⟨_, c, rfl⟩
theorem ownsRow_at {W : World} {base : Nat} {e : TypeId} {size : Nat} {v : Value} {k : Nat} {xs : List Value} (h : W.ownsRow base e size v k xs) {g : Nat} (hg : v.ownBlock = some g) : ∃ cs z, W.heap[g]? = some (Obj.cells cs e z) := by
  rcases h.2 with ⟨rfl, _⟩ | ⟨g', cap, cur, rfl, _, hgb, _⟩
  · simp [Value.ownBlock] at hg
  · obtain rfl : g' = g := by simpa [Value.ownBlock] using hg
    exact ⟨_, _, hgb⟩
theorem ownsRow_low {W : World} {base : Nat} {e : TypeId} {size : Nat} {v : Value} {k : Nat} {xs : List Value} (h : W.ownsRow base e size v k xs) : W.ownsRow 0 e size v k xs :=
  ⟨h.1, h.2.imp id (fun ⟨g, cap, cur, h1, _, r⟩ => ⟨g, cap, cur, h1, Nat.zero_le _, r⟩)⟩
/-- Block R is a row of the reference, of that most, which has xs. -/
def RefF (W : World) (R m : Nat) (xs : List Int) : Prop :=
  ∃ sv, W.heap[R]? = some (Obj.cells #[.int .i64 (m : Int), sv] 31 (0, 0)) ∧ W.ownsRow 0 3 1 sv xs.length (I64 xs)
theorem grownBy_setCell'' (W : World) (B k : Nat) (v : Value) : W.grownBy (W.setCell ⟨B, k, none⟩ v) (some B) :=
  ⟨rfl, rfl, rfl, (KeepsWalks.setCell W _ v).size, fun i _ hk => Below.heap_setCell _ _ _ i (fun e => hk (by rw [e]))⟩
section
variable {W W' : World} {R m : Nat} {xs : List Int}
theorem RefF.lt (h : RefF W R m xs) : R < W.heap.size := by obtain ⟨sv, h, _⟩ := h; exact (Array.getElem?_eq_some_iff.1 h).1
theorem RefF.but (h : RefF W R m xs) {S : List Nat} (hb : But S W W') (hR : R ∉ S) (hS : ∀ x ∈ S, ∀ cs z, W.heap[x]? ≠ some (Obj.cells cs 3 z)) : RefF W' R m xs := by
  obtain ⟨sv, h1, h2⟩ := h
  refine ⟨sv, (hb.block R (Array.getElem?_eq_some_iff.1 h1).1 hR).trans h1, hb.row h2 (fun g hg hm => ?_)⟩
  obtain ⟨cs, z, hgb⟩ := ownsRow_at h2 hg
  exact hS g hm cs z hgb
theorem RefF.fresh (h : RefF W R m xs) (hb : But [] W W') : RefF W' R m xs := h.but hb (by simp) (by simp)
theorem RefF.drew (h : RefF W R m xs) : RefF W.drew R m xs := h.fresh (But.refl [] W).drew
theorem Fif.head {B n : Nat} {l : List Int} (h : Fif W B n l) : ∃ cs, W.heap[B]? = some (Obj.cells cs 55 (0, 0)) := by
  obtain ⟨vs, f, hr, _⟩ := h.raw; exact ⟨_, hr.2⟩
/-- What writes a row leaves the reference's. -/
theorem RefF.row (h : RefF W R m xs) {B n : Nat} {ys : List Int} (hq : Fif W B n ys) (hb : But [B] W W') : RefF W' R m xs := by
  obtain ⟨cs, hB⟩ := hq.head
  obtain ⟨sv, h1, _⟩ := id h
  refine h.but hb ?_ ?_
  · simp only [List.mem_singleton]
    rintro rfl; rw [hB] at h1; simp at h1
  · simp only [List.mem_singleton]
    rintro x rfl cs' z' e
    rw [hB] at e; simp at e
theorem Fif.ref {B n : Nat} {ys : List Int} (hq : Fif W B n ys) (h : RefF W R m xs) (hb : But [R] W W') : Fif W' B n ys := by
  obtain ⟨cs, hB⟩ := hq.head
  obtain ⟨sv, h1, _⟩ := h
  refine hq.but hb ?_
  simp only [List.mem_singleton]; rintro rfl; rw [hB] at h1; simp at h1
theorem cell2 {a b : Value} {t : TypeId} (h : W.heap[R]? = some (Obj.cells #[a, b] t (0, 0))) : W.cell? ⟨R, 0, none⟩ = some a ∧ W.cell? ⟨R, 1, none⟩ = some b ∧ W.frozen? ⟨R, 1, none⟩ = false := by
  simp [World.cell?, World.frozen?, h]
/-- What a store says of the row. -/
theorem RefF.of_set {w1 : World} {l : List Int} {sv' : Value} (hR : RefF W R m xs) (he : W' = w1.setCell ⟨R, 1, none⟩ sv') (ho : w1.ownsRow 0 3 1 sv' l.length (I64 l)) (hg : But [] W w1) : RefF W' R m l ∧ But [R] W W' := by
  subst he
  obtain ⟨sv, h1, h2⟩ := id hR
  have hb : w1.heap[R]? = _ := (hg.block R hR.lt (by simp)).trans h1
  refine ⟨⟨sv', heap_set_same _ hb, ho.kept (grownBy_setCell'' w1 R 1 sv') ?_⟩, (hg.mono (by simp)).set (p := ⟨R, 1, none⟩) (by simp) _⟩
  cases hb' : sv'.ownBlock with
  | none => exact .inl rfl
  | some g =>
    refine .inr fun e => ?_
    obtain ⟨cs, z, hgb⟩ := ownsRow_at ho hb'
    cases e
    rw [hb] at hgb
    cases hgb
end

set_option maxHeartbeats 800000 in
theorem rat_any {R m : Nat} {xs : List Int} (i : Int) (w : World) (h : RefF w R m xs) (hl : xs.length ≤ 1024) :
    Calls Try.prog 25 #[.pointer (some ⟨R, 0, none⟩), .int .i64 i] w fun e w' => e = .returned (.int .i64 (atV xs i)) ∧ w' = w := by
  obtain ⟨sv, h1, h2⟩ := h
  have hc := (cell2 h1).2.1
  have hrow := RowI.of_owns (ownsRow_low h2)
  obtain ⟨p, c, rfl⟩ := hrow.slice
  clear h1 h2
  go_enter Try.func25, Try.ntmps25
  go_wp2_with fail
  go_loopw [5] (fun iv wr => ∃ k : Nat, k ≤ xs.length ∧ iv = .int .i64 (k : Int) ∧ i ∉ xs.take k ∧ wr = w) (fun iv _ => xs.length - (intOf iv).toNat)
  case atStart => exact ⟨0, Nat.zero_le _, rfl, by simp, rfl⟩
  case round =>
    obtain ⟨k, hk, rfl, hn, rfl⟩ := hrel
    by_cases hlt : k < xs.length
    · have hlt' : (k : Int) < (xs.length : Int) := by omega
      have k0 : (0 : Int) ≤ (k : Int) := by omega
      obtain ⟨b, off, rfl, hb, hcell⟩ := hrow.at hlt
      obtain ⟨x, hx⟩ : ∃ x, xs[k]? = some x := ⟨_, List.getElem?_eq_getElem hlt⟩
      rw [hx] at hcell
      simp only [Option.getD_some] at hcell
      by_cases e : x = i
      · subst e
        have HF : Hid ((k : Int) = atV xs x) := Lib.hid (by rw [atV, idx_first hx hn])
        have hxx : (x == x) = true := by simp
        clear hx hn
        go_wp2_with fail
        go_ret
        exact ⟨ret_i HF.out, rfl⟩
      · have hxx : (x == i) = false := by simpa using e
        have HN : Hid (i ∉ xs.take (k + 1)) := Lib.hid (by
          rw [take_snocI xs k hlt, hx]
          simp only [Option.getD_some, List.mem_append, List.mem_singleton, not_or]
          exact ⟨hn, fun e' => e e'.symm⟩)
        clear hx hn
        go_wp2_with fail
        go_roundw
        case rel => exact ⟨k + 1, by omega, by go_num, HN.out, by first | rfl | trivial⟩
        case measure => simp [intOf]; omega
    · obtain rfl : k = xs.length := by omega
      have hlt' : ¬ ((xs.length : Int) < (xs.length : Int)) := by omega
      have HF : Hid ((-1 : Int) = atV xs i) := Lib.hid (by rw [List.take_length] at hn; rw [atV_not hn])
      clear hn
      go_wp2_with fail
      go_ret
      exact ⟨ret_i HF.out, rfl⟩

end Go.Proofs.Ytcllnblmcdgkiaa
