/-
  What the walks lean on: the library's variables, and its functions at base 10; strings cut at a blank; what lies below.
-/
import Derived.Test.YthellmecdmolcaaDoorIMath
import Derived.Test.YthellmecdmolcaaDoorShelf
import Derived.Test.YthellmecdmolcaaDoorRows
import Derived.WalkKit
import Derived.WalkLawsBesides
import Derived.WalkSpells
import Derived.Outline
import Derived.Below
import Derived.RangeFuncBox
import Derived.BigQuiet
import Derived.OwnWalk
import Derived.StillTailTactics
import Derived.Laws.StructEq
import Derived.Lib.SliceRun
import Derived.Lib.SmallJoins
namespace Go.Proofs.YthellmecdmolcaaDoor
open Go.RowKit

theorem below_next {n : Nat} {w w1 w2 : World} (h : Below n w w1) (k : Below w1.heap.size w1 w2) (hn : n ≤ w.heap.size) : Below n w w2 :=
  ⟨k.os.trans h.os, k.tape.trans h.tape, k.output.trans h.output, Nat.le_trans h.size k.size, fun i hi => (k.block i (Nat.lt_of_lt_of_le hi (Nat.le_trans hn h.size))).trans (h.block i hi)⟩
theorem below_drewN {n : Nat} {w w1 : World} (h : Below n w w1) (q : Nat) : Below n w (w1.drewN q) := ⟨h.os, h.tape, h.output, h.size, h.block⟩
theorem ret_v {a b : Value} (h : a = b) : Ending.returned a = .returned b := by rw [h]

/-- What the library's variables hold: a table of powers, and two errors. -/
structure Vars (w : World) : Prop where
  tab : Lib.TabIs Tryd.prog w "internal/strconv.uint64pow10" .u64 Lib.pow10Tab
  syn : ∃ ev, w.cell? ⟨2, 0, none⟩ = some ev ∧ (ev = .nilIface ∨ ∃ te pe, ev = .iface te pe)
  rng : ∃ ev, w.cell? ⟨3, 0, none⟩ = some ev ∧ (ev = .nilIface ∨ ∃ te pe, ev = .iface te pe)
theorem Vars.below {w w' : World} (h : Vars w) (hb : Below w.heap.size w w') : Vars w' :=
  ⟨Lib.tabBelow_of_tabIs h.tab w' hb,
   by obtain ⟨ev, h1, h2⟩ := h.syn; exact ⟨ev, (hb.cell (World.block_lt_of_cell? w _ h1)).trans h1, h2⟩,
   by obtain ⟨ev, h1, h2⟩ := h.rng; exact ⟨ev, (hb.cell (World.block_lt_of_cell? w _ h1)).trans h1, h2⟩⟩
theorem Vars.tabBelow {w0 w : World} (h : Vars w0) (hb : Below w0.heap.size w0 w) : Lib.TabBelow Tryd.prog w0.heap.size w "internal/strconv.uint64pow10" .u64 Lib.pow10Tab :=
  fun w' hb' => Lib.tabBelow_of_tabIs h.tab w' (hb.trans hb')
theorem Vars.drewN {w : World} (h : Vars w) (q : Nat) : Vars (w.drewN q) := h.below (below_drewN (Below.refl _ _) q)

theorem size_l (l : List UInt8) : (⟨l.toArray⟩ : ByteArray).size = l.length := rfl
theorem data_l (l : List UInt8) : (⟨l.toArray⟩ : ByteArray).data.toList = l := rfl

theorem itoa_any {v : Int} (hv : I64b v) (w : World) (h : Vars w) :
    Calls Tryd.prog 21 #[.int .i64 v] w fun e w' => e = .returned (.string ⟨(Lib.itoa v).toArray⟩) ∧ Below w.heap.size w w' :=
  (Any.strconv_Itoa Tryd.laysM171 v hv.1 hv.2 w h.tab).mono fun _ _ ⟨h1, k, os, h2⟩ => ⟨h1, by rw [h2]; exact Lib.below_grow _ _ (Nat.le_refl _) k os⟩
theorem fmt_any {v : Int} (hv : I64b v) (w : World) (h : Vars w) :
    Calls Tryd.prog 22 #[.int .i64 v, .int .i64 10] w fun e w' => e = .returned (.string ⟨(Lib.itoa v).toArray⟩) ∧ Below w.heap.size w w' :=
  (Any.strconv_FormatInt_10 Tryd.laysM173 v hv.1 hv.2 w h.tab).mono fun _ _ ⟨h1, k, os, h2⟩ => ⟨h1, by rw [h2]; exact Lib.below_grow _ _ (Nat.le_refl _) k os⟩
theorem appendInt_any {v : Int} (hv : I64b v) (B n : Nat) (sv : Value) (xs : List Value) (w : World) (hown : w.ownsRow B 5 1 sv n xs) (hB : B ≤ w.heap.size) (hn : n ≤ 4096) (htab : Lib.TabBelow Tryd.prog B w "internal/strconv.uint64pow10" .u64 Lib.pow10Tab) :
    Calls Tryd.prog 17 #[sv, .int .i64 v, .int .i64 10] w fun e w' => ∃ v', e = .returned v' ∧ w'.ownsRow B 5 1 v' (n + (Lib.itoa v).length) (xs ++ Lib.byteCells (Lib.itoa v)) ∧ Below B w w' ∧ Lib.OthersKept 5 none w w' :=
  Any.strconv_AppendInt_10 Tryd.laysM176 B n v hv.1 hv.2 sv xs w hown hB (by omega) htab
theorem parse_any (l : List UInt8) (hl : l.length ≤ 4096) (w : World) (h : Vars w) :
    Calls Tryd.prog 25 #[.string ⟨l.toArray⟩, .int .i64 10, .int .i64 64] w fun e w' => ∃ er, e = .returned (.tuple #[.int .i64 (parseV l), er]) ∧ Below w.heap.size w w' := by
  rcases hp : Lib.parseIntB 64 l with v | _ | _
  · refine (Any.strconv_ParseInt_10_at64_ok Tryd.laysC174 ⟨l.toArray⟩ (by rw [size_l]; omega) v hp w).mono ?_
    rintro e w' ⟨h1, h2⟩
    refine ⟨_, by rw [parseV, hp]; exact h1, ?_⟩
    rcases h2 with rfl | ⟨t, rfl⟩
    · exact Below.refl _ _
    · exact Lib.bytesWorld_below _ _ _
  · obtain ⟨ev, hv, hev⟩ := h.syn
    refine (Any.strconv_ParseInt_10_at64_syntax Tryd.laysC174 ⟨l.toArray⟩ (by rw [size_l]; omega) hp ev w hv hev).mono ?_
    rintro e w' ⟨N, h1, _, _, h2⟩
    exact ⟨_, by rw [parseV, hp]; exact h1, h2⟩
  · obtain ⟨ev, hv, hev⟩ := h.rng
    refine (Any.strconv_ParseInt_10_at64_range Tryd.laysC174 ⟨l.toArray⟩ (by rw [size_l]; omega) hp ev w hv hev).mono ?_
    rintro e w' ⟨N, h1, _, _, h2⟩
    exact ⟨_, by rw [parseV, hp]; exact h1, h2⟩

/-! ### Cut -/
def cutF (l : List UInt8) : Bool := l.contains 32
theorem index_cases (l : List UInt8) : (Lib.indexByte l 32 = -1 ∧ cut1 l = l ∧ cut2 l = [] ∧ cutF l = false) ∨ (∃ i : Nat, Lib.indexByte l 32 = i ∧ i < l.length ∧ cut1 l = l.take i ∧ cut2 l = l.drop (i + 1) ∧ cutF l = true) := by
  induction l with
  | nil => exact .inl ⟨rfl, rfl, rfl, rfl⟩
  | cons c t ih =>
    by_cases hc : c = 32
    · subst hc
      exact .inr ⟨0, by simp [Lib.indexByte], by simp, by simp [cut1], by simp [cut2], by simp [cutF]⟩
    · have hb : (c == 32) = false := by simpa using hc
      have h32 : ((32 : UInt8) == c) = false := by simpa using fun e : 32 = c => hc e.symm
      rcases ih with ⟨h1, h2, h3, h4⟩ | ⟨i, h1, h2, h3, h4, h5⟩
      · refine .inl ⟨?_, ?_, ?_, ?_⟩
        · simp [Lib.indexByte, hb, h1]
        · simp [cut1, hc, h2]
        · simp [cut2, hc, h3]
        · unfold cutF at h4 ⊢
          rw [List.contains_cons, h4, h32]; rfl
      · refine .inr ⟨i + 1, ?_, by simp; omega, ?_, ?_, ?_⟩
        · have : ((i : Int) == -1) = false := by rw [beq_eq_false_iff_ne]; omega
          simp [Lib.indexByte, hb, h1, this]
        · simp [cut1, hc, h3]
        · simp [cut2, hc, h4]
        · unfold cutF at h5 ⊢
          rw [List.contains_cons, h5, Bool.or_true]
theorem ext_take (l : List UInt8) (i : Nat) : (⟨l.toArray⟩ : ByteArray).extract 0 i = ⟨(l.take i).toArray⟩ := by
  rw [Lib.extract_eq]; simp
theorem ext_drop (l : List UInt8) (i : Nat) (n : Nat) (hn : n = l.length) : (⟨l.toArray⟩ : ByteArray).extract i n = ⟨(l.drop i).toArray⟩ := by
  subst hn
  rw [Lib.extract_eq]
  simp only
  rw [List.take_of_length_le (by simp)]

set_option maxHeartbeats 800000 in
theorem litecut_any (l : List UInt8) (hl : l.length ≤ 4096) (w : World) :
    Calls Tryd.prog 39 #[.string ⟨l.toArray⟩, .string ⟨#[32]⟩] w fun e w' => e = .returned (.tuple #[.string ⟨(cut1 l).toArray⟩, .string ⟨(cut2 l).toArray⟩, .bool (cutF l)]) ∧ ∃ q, w' = w.drewN q := by
  have hix : Calls Tryd.prog 48 #[.string ⟨l.toArray⟩, .string ⟨#[32]⟩] w fun e w' => e = .returned (.int .i64 (Lib.indexByte l 32)) ∧ w' = w := Any.stringslite_Index_one Tryd.lays219 ⟨l.toArray⟩ 32 w
  obtain ⟨s, hs⟩ : ∃ s : ByteArray, s = ⟨l.toArray⟩ := ⟨_, rfl⟩
  have HS := Lib.hid hs
  have hsz : s.size = l.length := by rw [hs]; rfl
  rw [← hs] at hix ⊢
  clear hs
  rcases index_cases l with ⟨h1, h2, h3, h4⟩ | ⟨i, h1, h2, h3, h4, h5⟩
  · rw [h1] at hix
    rw [h2, h3, h4, ← HS.out]
    clear h1 h2 h3 h4
    go_enter Tryd.func39, Tryd.ntmps39
    go_wp2_with fail
    refine hix.mono ?_
    rintro e w' ⟨rfl, rfl⟩
    go_wp2_with fail
    go_ret3
    exact ⟨rfl, 0, rfl⟩
  · rw [h1] at hix
    have HL := Lib.hid h2
    have i0 : (0 : Int) ≤ (i : Int) := by omega
    have i1 : (i : Int) ≤ (s.size : Int) := by omega
    have i2 : (0 : Int) ≤ (i : Int) + 1 := by omega
    have i3 : (i : Int) + 1 ≤ (s.size : Int) := by omega
    have q1 : IntKind.i64.wrap ((i : Int) + 1) = (i : Int) + 1 := by rw [IntKind.wrap_i64]; omega
    have E1 : Hid (s.extract 0 i = ⟨(cut1 l).toArray⟩) := Lib.hid (by rw [HS.out, ext_take, h3])
    have E2 : Hid (s.extract (i + 1) l.length = ⟨(cut2 l).toArray⟩) := Lib.hid (by rw [HS.out, ext_drop _ _ _ rfl, h4])
    have E3 := Lib.hid h5
    clear h1 h2 h3 h4 h5
    go_enter Tryd.func39, Tryd.ntmps39
    go_wp2_with fail
    refine hix.mono ?_
    rintro e w' ⟨rfl, rfl⟩
    go_wp2_with fail
    go_quiet (fail)
    go_wp2_with fail
    go_ret3
    rw [E1.out, E2.out, E3.out]
    exact ⟨rfl, _, rfl⟩
theorem cut_any (l : List UInt8) (hl : l.length ≤ 4096) (w : World) :
    Calls Tryd.prog 23 #[.string ⟨l.toArray⟩, .string ⟨#[32]⟩] w fun e w' => e = .returned (.tuple #[.string ⟨(cut1 l).toArray⟩, .string ⟨(cut2 l).toArray⟩, .bool (cutF l)]) ∧ ∃ q, w' = w.drewN q := by
  have hc := litecut_any l hl w
  generalize (⟨l.toArray⟩ : ByteArray) = s at hc ⊢
  generalize (⟨(cut1 l).toArray⟩ : ByteArray) = s1 at hc ⊢
  generalize (⟨(cut2 l).toArray⟩ : ByteArray) = s2 at hc ⊢
  generalize cutF l = b at hc ⊢
  go_enter Tryd.func23, Tryd.ntmps23
  go_wp2_with fail
  refine hc.mono ?_
  rintro e w' ⟨rfl, q, rfl⟩
  go_wp2_with fail
  go_ret3
  exact ⟨rfl, _, rfl⟩
end Go.Proofs.YthellmecdmolcaaDoor
