/-
  Rows of numbers in memory; the walks of octet.Row, tollbarref01.Row and Same.
-/
import Derived.Test.YtengpehiknoheaaDoorInts
namespace Go.Proofs.YtengpehiknoheaaDoor
open Go.RowKit Oct

theorem append_list (l : List UInt8) (s : ByteArray) : (⟨l.toArray⟩ : ByteArray) ++ s = ⟨(l ++ s.data.toList).toArray⟩ := by
  have := ByteArray.mk_append_mk l s.data.toList
  simpa using this

theorem getR_rest (l : List UInt8) : (getR l).2.1.length ≤ l.length := by
  unfold getR; split
  · simp
  · split <;> simp

theorem extract_mk (l : List UInt8) (a b : Nat) : (⟨l.toArray⟩ : ByteArray).extract a b = ⟨((l.drop a).take (b - a)).toArray⟩ := by
  rw [Lib.extract_eq]

def U64 (xs : List Nat) : List Value := xs.map fun (x : Nat) => .int .u64 (x : Int)

/-- The slice value v reads as the numbers xs. -/
def Row64 (w : World) (v : Value) (xs : List Nat) : Prop :=
  (xs = [] ∧ ∃ a cap, v = .slice a 0 cap) ∨
  (∃ b off cap, v = .slice (some ⟨b, off, none⟩) xs.length cap ∧ 0 < xs.length ∧ b < w.heap.size ∧ ∀ j, j < xs.length → w.cell? ⟨b, off + j, none⟩ = some (.int .u64 (xs[j]?.getD 0 : Nat)))

theorem Row64.below {w w' : World} {v : Value} {xs : List Nat} (h : Row64 w v xs) (hb : Below w.heap.size w w') : Row64 w' v xs := by
  rcases h with h | ⟨b, off, cap, h1, h0, h2, h3⟩
  · exact .inl h
  · exact .inr ⟨b, off, cap, h1, h0, Nat.lt_of_lt_of_le h2 hb.size, fun j hj => (hb.cell (p := ⟨b, off + j, none⟩) h2).trans (h3 j hj)⟩

theorem Row64.of_owns {w : World} {base : Nat} {v : Value} {xs : List Nat} (h : w.ownsRow base 23 1 v xs.length (U64 xs)) : Row64 w v xs := by
  rcases id h.2 with ⟨rfl, hz⟩ | ⟨g, cap, cur, rfl, _, hg, _⟩
  · exact .inl ⟨List.length_eq_zero_iff.mp hz, none, 0, rfl⟩
  · by_cases hz : xs = []
    · subst hz; exact .inl ⟨rfl, _, _, rfl⟩
    · refine .inr ⟨g, 0, cap, rfl, List.length_pos_iff.mpr hz, (Array.getElem?_eq_some_iff.mp hg).1, fun j hj => ?_⟩
      have := h.cellAt j (by omega)
      rw [Nat.zero_add, this, U64, List.getElem?_map, List.getElem?_eq_getElem hj]; rfl

theorem take_snocN (xs : List Nat) (k : Nat) (hk : k < xs.length) : xs.take (k + 1) = xs.take k ++ [xs[k]?.getD 0] := by
  rw [List.take_add_one, List.getElem?_eq_getElem hk]; rfl

/-- The bytes of a row. -/
def rowL (xs : List Nat) : List UInt8 := xs.flatMap numL
def rowI (xs : List Nat) : List Int := xs.flatMap numI
theorem rowI_snoc (xs : List Nat) (x : Nat) : rowI (xs ++ [x]) = rowI xs ++ numI x := by simp [rowI]
theorem rowL_snoc (xs : List Nat) (x : Nat) : rowL (xs ++ [x]) = rowL xs ++ numL x := by simp [rowL]
theorem rowI_len (xs : List Nat) (h : ∀ x ∈ xs, x < 18446744073709551616) : (rowI xs).length ≤ 10 * xs.length := by
  induction xs with
  | nil => simp [rowI]
  | cons x t ih =>
    have h1 := ih (fun y hy => h y (by simp [hy]))
    have h2 := numI_len x (h x (by simp))
    simp only [rowI, List.flatMap_cons, List.length_append, List.length_cons] at h1 ⊢; omega
theorem rowL_len (xs : List Nat) (h : ∀ x ∈ xs, x < 18446744073709551616) : (rowL xs).length ≤ 10 * xs.length := by
  induction xs with
  | nil => simp [rowL]
  | cons x t ih =>
    have h1 := ih (fun y hy => h y (by simp [hy]))
    have h2 := numL_len10 (h x (by simp))
    simp only [rowL, List.flatMap_cons, List.length_append, List.length_cons] at h1 ⊢; omega
theorem rowI_back (xs : List Nat) : ((rowI xs).map fun n => UInt8.ofNat n.toNat) = rowL xs := by
  induction xs with
  | nil => rfl
  | cons x t ih => simp only [rowI, rowL, List.flatMap_cons, List.map_append] at ih ⊢; rw [ih, numI_back]
theorem mem_of_getD {xs : List Nat} {k : Nat} (h : k < xs.length) : xs[k]?.getD 0 ∈ xs := by rw [List.getElem?_eq_getElem h]; simp

set_option maxHeartbeats 400000 in
theorem row_any (v : Value) (xs : List Nat) (w : World) (hr : Row64 w v xs) (hx : ∀ x ∈ xs, x < 18446744073709551616) (hlen : xs.length ≤ 1000) :
    Calls Tryd.prog 29 #[v] w fun e w' => e = .returned (.string ⟨(rowL xs).toArray⟩) ∧ Below w.heap.size w w' := by
  rcases hr with ⟨rfl, a, cap, rfl⟩ | ⟨b, off, cap, rfl, h0, hb, hc⟩
  · have hconv : ∀ wx, (convert 49 9 (.slice none 0 0)).run Tryd.prog wx = .ok (.string ⟨#[]⟩) wx := fun wx => conv_own 0 _ [] wx (World.ownsRow_nil _ _ _ _)
    go_enter Tryd.func29, Tryd.ntmps29
    go_wp2_with fail
    refine wp_loop_rounds 1 ?_
    rw [rounds_succ]
    go_wp2_with fail
    go_ret
    exact ⟨rfl, Below.refl _ _⟩
  · go_enter Tryd.func29, Tryd.ntmps29
    go_wp2_with fail
    go_loopw [3, 8] (fun bv i wr => ∃ k : Nat, k ≤ xs.length ∧ i = .int .i64 k ∧ wr.ownsRow w.heap.size 5 1 bv (rowI (xs.take k)).length (bytesV (rowI (xs.take k))) ∧ Below w.heap.size w wr) (fun _ i _ => xs.length - (intOf i).toNat)
    case atStart => exact ⟨0, Nat.zero_le _, rfl, World.ownsRow_nil _ _ _ _, Below.refl _ _⟩
    case round =>
      obtain ⟨k, hk, rfl, hown, hbl⟩ := hrel
      by_cases hlt : k < xs.length
      · have hlt' : (k : Int) < (xs.length : Int) := by omega
        have hcell : wr.cell? ⟨b, off + k, none⟩ = some (.int .u64 (xs[k]?.getD 0 : Nat)) := (hbl.cell (p := ⟨b, off + k, none⟩) hb).trans (hc k hlt)
        have hxk := hx _ (mem_of_getD hlt)
        have HT := Lib.hid (take_snocN xs k hlt)
        obtain ⟨x, hxe⟩ : ∃ x, x = xs[k]?.getD 0 := ⟨_, rfl⟩
        rw [← hxe] at hcell hxk HT
        clear hxe hc
        have hli : (rowI (xs.take k)).length ≤ 1000000 := by
          have := rowI_len (xs.take k) (fun y hy => hx y (List.mem_of_mem_take hy))
          have h2 : (xs.take k).length ≤ k := List.length_take_le _ _
          omega
        go_wp2_with (go_at_call 48; refine (put_any w.heap.size _ (rowI (xs.take k)) x _ hxk hli hbl.size hown).mono ?_; rintro e w1 ⟨v', rfl, hown', hb'⟩)
        have hown2 : w1.ownsRow w.heap.size 5 1 v' (rowI (xs.take (k + 1))).length (bytesV (rowI (xs.take (k + 1)))) := by
          rw [HT.out, rowI_snoc]; exact hown'
        have hb2 : Below w.heap.size w w1 := hbl.trans hb'
        clear hown' hown hb' hbl hcell
        go_roundw
        case rel => exact ⟨k + 1, by omega, by go_num, hown2, hb2⟩
        case measure => simp [intOf]; omega
      · have hlt' : ¬ (k : Int) < (xs.length : Int) := by omega
        obtain rfl : k = xs.length := by omega
        have hconv := conv_own _ _ _ _ hown
        rw [rowI_back, List.take_length] at hconv
        clear hown hc hx hlt
        go_wp2_with fail
        go_ret
        exact ⟨rfl, hbl⟩
end Go.Proofs.YtengpehiknoheaaDoor
