/-
  The walks of Round, the program's and the document's.
-/
import Derived.Test.YtfbcaicfppommaaBLocks
import Derived.Test.YtfbcaicfppommaaBPicks
namespace Go.Proofs.Ytfbcaicfppommaa
open Go.RowKit

theorem infoByte : (Try.prog.info? 5).map (fun i => (i.zero, i.size, i.bytes)) = some (some (.int .u8 0), 1, 1) := by kernel_rfl
theorem info_parts {i : Option TypeInfo} {z : Value} {s b : Nat} (h : i.map (fun i => (i.zero, i.size, i.bytes)) = some (some z, s, b)) : ∃ i0, i = some i0 ∧ i0.zero = some z ∧ i0.size = s ∧ i0.bytes = b := by
  cases i with
  | none => cases h
  | some i0 => simp only [Option.map_some, Option.some.injEq, Prod.mk.injEq] at h; exact ⟨i0, rfl, h.1, h.2.1, h.2.2⟩
def U8 (xs : List Int) : List Value := xs.map (Value.int .u8)
/-- Block V is a row of these bytes, and no more. -/
abbrev ArrB (W : World) (V : Nat) (xs : List Int) : Prop := Blk W V 5 (U8 xs).toArray
theorem ArrB.made {W : World} {base m : Nat} (h : W.ownsRow base 5 1 (.slice (some ⟨base, 0, none⟩) m m) m (madeCells (Value.int .u8 0).cells (m * 1)).toList) : ArrB W base (List.replicate m 0) := by
  rcases h.2 with ⟨h0, _⟩ | ⟨g, cap, cur, he, _, hg, _, _, hs, ht⟩
  · cases h0
  · simp only [Value.slice.injEq, Option.some.injEq, Addr.mk.injEq] at he
    obtain ⟨⟨rfl, -, -⟩, -, rfl⟩ := he
    refine (show W.heap[base]? = _ from hg).trans ?_
    have e : cur.toList = U8 (List.replicate m 0) := by
      rw [Nat.mul_one] at hs ht
      rw [List.take_of_length_le (by simp [hs])] at ht
      rw [ht]
      apply List.ext_getElem?
      intro j
      by_cases hj : j < m
      · simp [madeCells, U8, Value.cells, hj]
        rw [show j % 1 = 0 by omega]; rfl
      · rw [List.getElem?_eq_none (by simp [madeCells]; omega), List.getElem?_eq_none (by simp [U8]; omega)]
    rw [show cur = cur.toList.toArray by simp, e]
theorem ArrB.put {W : World} {V : Nat} {xs : List Int} (h : ArrB W V xs) (k : Nat) (x : Int) : ArrB (W.setCell ⟨V, k, none⟩ (.int .u8 x)) V (xs.set k x) := by
  refine (heap_set_same _ h).trans ?_
  rw [List.setIfInBounds_toArray]
  simp [U8, List.map_set]
theorem ArrB.at {W : World} {V : Nat} {xs : List Int} (h : ArrB W V xs) {k : Nat} (hk : k < xs.length) : W.cell? ⟨V, k, none⟩ = some (.int .u8 (xs[k]?.getD 0)) := by
  refine Blk.cell h ?_
  simp [U8, List.getElem?_map, List.getElem?_eq_getElem hk]
theorem foldl_push (ns : List Int) : ∀ (s : ByteArray), ns.foldl (fun r n => r.push (UInt8.ofNat n.toNat)) s = ⟨(s.data.toList ++ ns.map fun n => UInt8.ofNat n.toNat).toArray⟩ := by
  induction ns with
  | nil => intro s; simp
  | cons n ns ih => intro s; rw [List.foldl_cons, ih]; simp [ByteArray.push]
theorem add_head (g j : Nat) : Addr.add ⟨g, 0, none⟩ j = ⟨g, j, none⟩ := by
  by_cases h : j = 0
  · subst h; simp [Addr.add]
  · simp [Addr.add, h]
/-- A row of bytes as a string. -/
theorem conv_arr {V cap n : Nat} {xs : List Int} (w : World) (h : ArrB w V xs) (hn : n = xs.length) :
    (convert 48 9 (.slice (some ⟨V, 0, none⟩) n cap)).run Try.prog w = .ok (.string ⟨(xs.map fun n => UInt8.ofNat n.toNat).toArray⟩) w := by
  subst hn
  rw [run_convert_bytes_string w _ _ _ _ _ _ Try.underlying48 Try.underlying5 Try.underlying9]
  rw [run_bytesToString w ⟨V, 0, none⟩ xs.length cap xs, foldl_push]
  · rfl
  · have := run_loadCells_list (P := Try.prog) (w := w) ⟨V, 0, none⟩ (U8 xs) (fun j v hj => by
      rw [add_head]
      exact Blk.cell h (by simpa using hj))
    simpa [U8] using this

/-- The picks, when i are laid. -/
def turnI (p n i : Nat) : List Int := (List.range n).map fun (j : Nat) => if j < i then ((j % p : Nat) : Int) else 0
theorem turnI_len (p n i : Nat) : (turnI p n i).length = n := by simp [turnI]
theorem turnI_none (p n : Nat) : List.replicate n 0 = turnI p n 0 := by
  apply List.ext_getElem?
  intro j
  by_cases hj : j < n
  · rw [turnI, List.getElem?_map, List.getElem?_range hj, List.getElem?_replicate_of_lt hj]; simp
  · rw [List.getElem?_eq_none (by simp; omega), List.getElem?_eq_none (by rw [turnI_len]; omega)]
theorem turnI_next (p n i : Nat) : (turnI p n i).set i ((i % p : Nat) : Int) = turnI p n (i + 1) := by
  apply List.ext_getElem?
  intro j
  by_cases hj : j < n
  · by_cases e : j = i
    · subst e
      rw [List.getElem?_set_self (by rw [turnI_len]; exact hj), turnI, List.getElem?_map, List.getElem?_range hj, Option.map_some, if_pos (by omega)]
    · rw [List.getElem?_set_ne (by omega), turnI, turnI, List.getElem?_map, List.getElem?_map, List.getElem?_range hj, Option.map_some, Option.map_some]
      by_cases h : j < i
      · rw [if_pos h, if_pos (by omega)]
      · rw [if_neg h, if_neg (by omega)]
  · rw [List.getElem?_eq_none (by rw [List.length_set, turnI_len]; omega), List.getElem?_eq_none (by rw [turnI_len]; omega)]
theorem turnI_all (p n : Nat) : ((turnI p n n).map fun k => UInt8.ofNat k.toNat) = turnL p n := by
  apply List.ext_getElem?
  intro j
  by_cases hj : j < n
  · rw [turnI, turnL, List.getElem?_map, List.getElem?_map, List.getElem?_map, List.getElem?_range hj, Option.map_some, Option.map_some, Option.map_some, if_pos hj, Int.toNat_natCast]
  · rw [List.getElem?_eq_none (by simp [turnI]; omega), List.getElem?_eq_none (by rw [turnL_len]; omega)]

theorem mod_byte {p : Nat} (i : Nat) (h1 : 1 ≤ p) (h2 : p ≤ 255) : (i : Int) % (p : Int) % 256 = ((i % p : Nat) : Int) := by
  have := Nat.mod_lt i h1
  omega
theorem round_no {p : Int} (n : Int) (h : insB 1 255 p = false) (w : World) :
    Calls Try.prog 14 #[.int .i64 p, .int .i64 n] w fun e w' => e = .returned (.string ⟨#[]⟩) ∧ But [] w w' := by
  have hw := workers_is h w
  go_enter Try.func14, Try.ntmps14
  go_wp2_with fail
  refine hw.mono ?_
  rintro e w1 ⟨rfl, hb⟩
  clear hw
  go_wp2_with fail
  go_ret
  exact ⟨rfl, hb⟩
theorem round_out {p n : Int} (h : insB 1 255 p = true) (hn : insB 0 1000000 n = false) (w : World) :
    Calls Try.prog 14 #[.int .i64 p, .int .i64 n] w fun e w' => e = .returned (.string ⟨#[]⟩) ∧ But [] w w' := by
  have hw := workers_is h w
  have hW := within_any 0 1000000
  go_enter Try.func14, Try.ntmps14
  go_wp2_with fail
  refine hw.mono ?_
  rintro e w1 ⟨rfl, hb⟩
  clear hw
  go_wp2_with fail
  refine (hW _).mono ?_
  rintro e w2 ⟨rfl, hP, hQ, hb2⟩
  have hb := hb.next hb2
  go_wp2_with fail
  refine (in_is hn _ _ _ hP hQ).mono ?_
  rintro e w3 ⟨rfl, rfl⟩
  clear hP hQ hW hb2
  go_wp2_with fail
  go_ret
  exact ⟨rfl, hb⟩
set_option maxHeartbeats 1600000 in
theorem round_any (p n : Nat) (h1 : 1 ≤ p) (h2 : p ≤ 255) (hn : n ≤ 1000000) (w : World) :
    Calls Try.prog 14 #[.int .i64 (p : Int), .int .i64 (n : Int)] w fun e w' => e = .returned (.string ⟨(turnL p n).toArray⟩) ∧ But [] w w' := by
  obtain ⟨i0, hi, hz0, hz1, hz2⟩ := info_parts infoByte
  have hw := workers_is (p := (p : Int)) (b := true) (insB_iff.2 (by omega)) w
  have hnn : insB 0 1000000 (n : Int) = true := insB_iff.2 (by omega)
  have hW := within_any 0 1000000
  go_enter Try.func14, Try.ntmps14
  go_wp2_with fail
  refine hw.mono ?_
  rintro e w1 ⟨rfl, hb⟩
  clear hw
  go_wp2_with fail
  refine (hW _).mono ?_
  rintro e w2 ⟨rfl, hP, hQ, hb2⟩
  have hb := hb.next hb2
  go_wp2_with fail
  refine (in_is hnn _ _ _ hP hQ).mono ?_
  rintro e w3 ⟨rfl, rfl⟩
  clear hP hQ hW hb2 hnn
  go_wp2_with (at_make; refine wpList_make_full _ rfl _ _ 48 rfl w3.heap.size 5 i0 (.int .u8 0) 1 Try.underlying48 hi hz0 hz1 .i64 .i64 _ _ n rfl rfl rfl rfl (by rw [hz2]; omega) (by unfold maxLen; omega) (Nat.le_refl _) ?_; intro w4 hown hgrow)
  have hA := ArrB.made hown
  have hB := hb.next (But.of_none hgrow [])
  have HV := Lib.hid hb.size
  generalize w3.heap.size = V at hA HV ⊢
  rw [turnI_none p n] at hA
  clear hown hgrow hb hi hz0 hz1 hz2
  go_wp2_with fail
  go_loopw [20] (fun iv wr => ∃ i : Nat, i ≤ n ∧ iv = .int .i64 (i : Int) ∧ ArrB wr V (turnI p n i) ∧ But [] w wr) (fun iv _ => n - (intOf iv).toNat)
  case atStart => exact ⟨0, Nat.zero_le _, rfl, hA, hB⟩
  case round =>
    clear hA hB
    obtain ⟨i, hi, rfl, hA, hB⟩ := hrel
    by_cases hlt : i < n
    · have hlt' : (i : Int) < (n : Int) := by omega
      have i0 : (0 : Int) ≤ (i : Int) := by omega
      have hf := Blk.frozen hA i
      have hc := ArrB.at hA (k := i) (by rw [turnI_len]; exact hlt)
      have HE := Lib.hid (mod_byte i h1 h2)
      have hA2 := ArrB.put hA i ((i % p : Nat) : Int)
      rw [turnI_next] at hA2
      have HA2 := Lib.hid hA2
      have HB2 : Hid (But [] w (wr.setCell ⟨V, i, none⟩ (.int .u8 ((i % p : Nat) : Int)))) := Lib.hid (hB.set (.inr (by have := HV.out; simpa using this)) _)
      clear hA hA2 hB
      go_wp2_with fail
      go_roundw
      case rel => exact ⟨i + 1, by omega, by go_num, by rw [HE.out]; exact HA2.out, by rw [HE.out]; exact HB2.out⟩
      case measure => simp [intOf]; omega
    · obtain rfl : i = n := by omega
      have hlt' : ¬ (i : Int) < (i : Int) := by omega
      have hconv := conv_arr (cap := i) wr hA (turnI_len p i i).symm
      rw [turnI_all] at hconv
      clear hA
      go_wp2_with fail
      go_ret
      exact ⟨rfl, hB⟩

/-! ### The document's -/
theorem rround_no {p : Int} (n : Int) (h : insB 1 255 p = false) (w : World) :
    Calls Try.prog 15 #[.int .i64 p, .int .i64 n] w fun e w' => e = .returned (.string ⟨#[]⟩) ∧ But [] w w' := by
  go_enter Try.func15, Try.ntmps15
  go_wp2_with fail
  refine (rin_is h _).mono ?_
  rintro e w1 ⟨rfl, rfl⟩
  go_wp2_with fail
  go_ret
  exact ⟨rfl, But.refl _ _⟩
theorem rround_out {p n : Int} (h : insB 1 255 p = true) (hn : insB 0 1000000 n = false) (w : World) :
    Calls Try.prog 15 #[.int .i64 p, .int .i64 n] w fun e w' => e = .returned (.string ⟨#[]⟩) ∧ But [] w w' := by
  go_enter Try.func15, Try.ntmps15
  go_wp2_with fail
  refine (rin_is h _).mono ?_
  rintro e w1 ⟨rfl, rfl⟩
  go_wp2_with fail
  refine (rin_is hn _).mono ?_
  rintro e w2 ⟨rfl, rfl⟩
  go_wp2_with fail
  go_ret
  exact ⟨rfl, But.refl _ _⟩
set_option maxHeartbeats 1600000 in
theorem rround_any (p n : Nat) (h1 : 1 ≤ p) (h2 : p ≤ 255) (hn : n ≤ 1000000) (w : World) :
    Calls Try.prog 15 #[.int .i64 (p : Int), .int .i64 (n : Int)] w fun e w' => e = .returned (.string ⟨(turnL p n).toArray⟩) ∧ But [] w w' := by
  obtain ⟨i0, hi, hz0, hz1, hz2⟩ := info_parts infoByte
  have hpp : insB 1 255 (p : Int) = true := insB_iff.2 (by omega)
  have hnn : insB 0 1000000 (n : Int) = true := insB_iff.2 (by omega)
  go_enter Try.func15, Try.ntmps15
  go_wp2_with fail
  refine (rin_is hpp _).mono ?_
  rintro e w1 ⟨rfl, rfl⟩
  go_wp2_with fail
  refine (rin_is hnn _).mono ?_
  rintro e w3 ⟨rfl, rfl⟩
  clear hpp hnn
  go_wp2_with (at_make; refine wpList_make_full _ rfl _ _ 48 rfl w3.heap.size 5 i0 (.int .u8 0) 1 Try.underlying48 hi hz0 hz1 .i64 .i64 _ _ n rfl rfl rfl rfl (by rw [hz2]; omega) (by unfold maxLen; omega) (Nat.le_refl _) ?_; intro w4 hown hgrow)
  have hA := ArrB.made hown
  have hB := But.of_none hgrow []
  have HV : Hid (w3.heap.size ≤ w3.heap.size) := Lib.hid (Nat.le_refl _)
  obtain ⟨V, hV⟩ : ∃ V, V = w3.heap.size := ⟨_, rfl⟩
  rw [← hV] at hA ⊢
  have HV : Hid (w3.heap.size ≤ V) := Lib.hid (by omega)
  rw [turnI_none p n] at hA
  clear hown hgrow hi hz0 hz1 hz2 hV
  go_wp2_with fail
  go_loopw [6] (fun iv wr => ∃ i : Nat, i ≤ n ∧ iv = .int .i64 (i : Int) ∧ ArrB wr V (turnI p n i) ∧ But [] w3 wr) (fun iv _ => n - (intOf iv).toNat)
  case atStart => exact ⟨0, Nat.zero_le _, rfl, hA, hB⟩
  case round =>
    clear hA hB
    obtain ⟨i, hi, rfl, hA, hB⟩ := hrel
    by_cases hlt : i < n
    · have hlt' : (i : Int) < (n : Int) := by omega
      have i0 : (0 : Int) ≤ (i : Int) := by omega
      have hf := Blk.frozen hA i
      have hc := ArrB.at hA (k := i) (by rw [turnI_len]; exact hlt)
      have HE := Lib.hid (mod_byte i h1 h2)
      have hA2 := ArrB.put hA i ((i % p : Nat) : Int)
      rw [turnI_next] at hA2
      have HA2 := Lib.hid hA2
      have HB2 : Hid (But [] w3 (wr.setCell ⟨V, i, none⟩ (.int .u8 ((i % p : Nat) : Int)))) := Lib.hid (hB.set (.inr (by have := HV.out; simpa using this)) _)
      clear hA hA2 hB
      go_wp2_with fail
      go_roundw
      case rel => exact ⟨i + 1, by omega, by go_num, by rw [HE.out]; exact HA2.out, by rw [HE.out]; exact HB2.out⟩
      case measure => simp [intOf]; omega
    · obtain rfl : i = n := by omega
      have hlt' : ¬ (i : Int) < (i : Int) := by omega
      have hconv := conv_arr (cap := i) wr hA (turnI_len p i i).symm
      rw [turnI_all] at hconv
      clear hA
      go_wp2_with fail
      go_ret
      exact ⟨rfl, hB⟩
end Go.Proofs.Ytfbcaicfppommaa
