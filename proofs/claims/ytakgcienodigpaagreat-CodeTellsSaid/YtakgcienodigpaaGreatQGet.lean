/-
  The walks of the document's reader, and of Get.
-/
import Derived.Test.YtakgcienodigpaaGreatRefInts
import Derived.Test.YtakgcienodigpaaGreatKGetZ
import Derived.Test.YtakgcienodigpaaGreatQRefA
import Derived.Test.YtakgcienodigpaaGreatQMayE
import Derived.Test.YtakgcienodigpaaGreatKGet
namespace Go.Proofs.YtakgcienodigpaaGreat
open Go.RowKit Oct

/-! ### What is left, and whether all went well: pure -/
def st (b : Bool) (s : List UInt8) : Option (List UInt8) := if b then some s else none
def pr {α : Type} (b : Bool) (x : α) (s : List UInt8) : Option (α × List UInt8) := if b then some (x, s) else none
def Went {α : Type} (f : Rd α) (s : List UInt8) (b : Bool) (x : α) (s' : List UInt8) (b' : Bool) : Prop := (st b s).bind f = pr b' x s'
theorem went_step {α β : Type} {f : Rd α} {K : List UInt8 → Option β} {K' : α → List UInt8 → Option β} {s s' : List UInt8} {b b' : Bool} {x : α} (h : Went f s b x s' b') (hK : ∀ r, K r = (f r).bind fun p => K' p.1 p.2) : (st b s).bind K = (st b' s').bind (K' x) := by
  unfold Went at h
  have e : (st b s).bind K = ((st b s).bind f).bind fun p => K' p.1 p.2 := by
    cases b
    · rfl
    · exact hK s
  rw [e, h]
  cases b' <;> rfl
theorem went_done {α : Type} {f : Rd α} {s s' : List UInt8} {b b' : Bool} {x : α} (h : (st b s).bind f = (st b' s').bind fun r => some (x, r)) : Went f s b x s' b' := by
  unfold Went
  rw [h]
  cases b' <;> rfl
theorem went_map {α β : Type} {f : Rd α} {g : Rd β} {c : α → β} {s s' : List UInt8} {b b' : Bool} {x : α} (h : Went f s b x s' b') (hg : ∀ r, g r = (f r).map fun p => (c p.1, p.2)) : Went g s b (c x) s' b' := by
  refine went_done ?_
  refine went_step h (K' := fun x r => some (c x, r)) (fun r => ?_)
  rw [hg]
  cases f r <;> rfl
theorem went_none {α : Type} {f : Rd α} {s : List UInt8} {b : Bool} (x : α) (s' : List UInt8) (h : b = true → f s = none) : Went f s b x s' false := by
  unfold Went pr st
  cases b
  · rfl
  · simp [h rfl]
theorem went_some {α : Type} {f : Rd α} {s s' : List UInt8} {x : α} (h : f s = some (x, s')) : Went f s true x s' true := by
  unfold Went pr st
  simp [h]
theorem row_step {α β : Type} {f : Rd α} {n k : Nat} {pre : List α} {C : List α → List UInt8 → Option β} (hk : k < n) (r : List UInt8) :
    ((rdRow f (n - k) r).bind fun q => C (pre ++ q.1) q.2) = (f r).bind fun p => (rdRow f (n - (k + 1)) p.2).bind fun q => C ((pre ++ [p.1]) ++ q.1) q.2 := by
  rw [show n - k = (n - (k + 1)) + 1 by omega]
  simp only [rdRow]
  cases f r with
  | none => rfl
  | some p =>
    simp only [Option.bind_some]
    cases rdRow f (n - (k + 1)) p.2 <;> simp
theorem row_stop {α β : Type} {f : Rd α} {n k : Nat} {pre : List α} {C : List α → List UInt8 → Option β} (hk : ¬ k < n) (r : List UInt8) :
    ((rdRow f (n - k) r).bind fun q => C (pre ++ q.1) q.2) = C pre r := by
  rw [show n - k = 0 by omega]
  simp [rdRow]
theorem st_congr {β : Type} {b : Bool} {s : List UInt8} {K K' : List UInt8 → Option β} (h : ∀ r, K r = K' r) : (st b s).bind K = (st b s).bind K' := by
  cases b
  · rfl
  · exact h s

/-! ### The reader's block -/
def RdB (W : World) (R : Nat) (s : List UInt8) (b : Bool) : Prop := Blk W R 73 #[.string ⟨s.toArray⟩, .bool b]
/-- What a reading function of the document's leaves. -/
def RPost (w : World) (R : Nat) {α : Type} (V : World → Value → α → Prop) (f : Rd α) (s : List UInt8) (b : Bool) (e : Ending) (w' : World) : Prop :=
  ∃ (v : Value) (x : α) (s' : List UInt8) (b' : Bool), e = .returned v ∧ V w' v x ∧ Went f s b x s' b' ∧ RdB w' R s' b' ∧ s'.length ≤ s.length ∧ But [R] w w'
section
variable {W W' : World} {R B : Nat} {s r : List UInt8} {b : Bool} {t : TypeId} {cs : Array Value}
theorem rdB_put (h : RdB W R s b) (r : List UInt8) : RdB (W.setCell ⟨R, 0, none⟩ (.string ⟨r.toArray⟩)) R r b := Blk.set h 0 _
theorem rdB_bad (h : RdB W R s b) : RdB (W.setCell ⟨R, 1, none⟩ (.bool false)) R s false := Blk.set h 1 _
theorem Blk.rover (h : Blk W B t cs) (hR : RdB W R s b) (ht : t ≠ 73) (hb : But [R] W W') : Blk W' B t cs :=
  (hb.block B h.lt (by simpa using blk_ne h hR ht)).trans h
theorem rdB_beside (hR : RdB W R s b) (h : Blk W B t cs) (ht : t ≠ 73) (hb : But [B] W W') : RdB W' R s b :=
  (hb.block R (Blk.lt hR) (by simpa using (blk_ne h hR ht).symm)).trans hR
end

set_option maxRecDepth 100000 in
set_option maxHeartbeats 800000 in
theorem rnumR_any (m R : Nat) (s : List UInt8) (b : Bool) (w : World) (h : RdB w R s b) (hm : m ≤ 1000) (hz : s.length ≤ maxLen) :
    Calls Tryz.prog 31 #[.pointer (some ⟨R, 0, none⟩), .int .u64 (m : Int)] w (RPost w R (fun _ v (x : Nat) => v = .int .i64 (x : Int) ∧ x ≤ m) (rdN m) s b) := by
  have c0 := Blk.cell h (k := 0) (v := .string ⟨s.toArray⟩) rfl
  obtain ⟨u, r, n, hg⟩ : ∃ u r n, getR s = (u, r, n) := ⟨_, _, _, rfl⟩
  have hget : Calls Tryz.prog 66 #[.string ⟨s.toArray⟩] w fun x w' => x = .returned (.tuple #[.int .u64 u, .string ⟨r.toArray⟩, .int .i64 (n : Int)]) ∧ Below w.heap.size w w' :=
    refGet_at ⟨s.toArray⟩ w (by rw [size_of]; exact hz) (Lib.hid (by rw [bytes_of]; exact hg))
  go_enter Tryz.func31, Tryz.ntmps31
  go_wp2_with fail
  refine hget.mono ?_
  rintro e w1 ⟨rfl, hb1⟩
  have hR1 : RdB w1 R s b := keepK hb1 h
  have hb2 : But [R] w (w1.setCell ⟨R, 1, none⟩ (.bool false)) := (But.of_below hb1 [R]).set (p := ⟨R, 1, none⟩) (.inl (by simp)) _
  have hb3 : But [R] w (w1.setCell ⟨R, 0, none⟩ (.string ⟨r.toArray⟩)) := (But.of_below hb1 [R]).set (p := ⟨R, 0, none⟩) (.inl (by simp)) _
  have d0 := Blk.cell hR1 (k := 0) (v := .string ⟨s.toArray⟩) rfl
  have d1 := Blk.cell hR1 (k := 1) (v := .bool b) rfl
  have f0 := Blk.frozen hR1 0
  have f1 := Blk.frozen hR1 1
  clear hget c0 h hb1
  by_cases hgood : b = true ∧ n = 0 ∧ u ≤ m
  · obtain ⟨rfl, rfl, hu⟩ := hgood
    have hr := rest_le hg
    have HO := Lib.hid (rdN_some.2 ⟨hg, hu⟩)
    have hu' : ¬ (m : Int) < (u : Int) := by omega
    have hud : decide ((m : Int) < (u : Int)) = false := decide_eq_false hu'
    have hw2 : IntKind.i64.wrap (u : Int) = (u : Int) := by rw [IntKind.wrap_i64]; omega
    have hR2 := rdB_put hR1 r
    clear hg hR1 hb2
    go_wp2_with fail
    go_ret
    exact ⟨_, u, r, true, rfl, ⟨rfl, hu⟩, went_some HO.out, hR2, hr, hb3⟩
  have HO : Hid (b = true → rdN m s = none) := Lib.hid (fun e => rdN_none hg (by
    by_cases h1 : n = 0
    · by_cases h2 : u ≤ m
      · exact absurd ⟨e, h1, h2⟩ hgood
      · exact .inr h2
    · exact .inl h1))
  have hR2 := rdB_bad hR1
  clear hR1 hb3
  cases b with
  | false =>
    clear hg hgood
    go_wp2_with fail
    go_ret
    exact ⟨_, 0, s, false, rfl, ⟨rfl, Nat.zero_le _⟩, went_none 0 s HO.out, hR2, Nat.le_refl _, hb2⟩
  | true =>
    by_cases hn : n = 0
    · subst hn
      have hu : ¬ u ≤ m := fun e => hgood ⟨rfl, rfl, e⟩
      have hu' : (m : Int) < (u : Int) := by omega
      clear hg hgood
      go_wp2_with fail
      go_ret
      exact ⟨_, 0, s, false, rfl, ⟨rfl, Nat.zero_le _⟩, went_none 0 s (fun _ => HO.out trivial), hR2, Nat.le_refl _, hb2⟩
    · have hn' : ((n : Int) != 0) = true := by simp; omega
      clear hg hgood
      go_wp2_with fail
      go_ret
      exact ⟨_, 0, s, false, rfl, ⟨rfl, Nat.zero_le _⟩, went_none 0 s (fun _ => HO.out trivial), hR2, Nat.le_refl _, hb2⟩

set_option maxRecDepth 100000 in
set_option maxHeartbeats 800000 in
theorem rintR_any (R : Nat) (s : List UInt8) (b : Bool) (w : World) (h : RdB w R s b) (hz : s.length ≤ maxLen) :
    Calls Tryz.prog 67 #[.pointer (some ⟨R, 0, none⟩)] w (RPost w R (fun _ v (x : Int) => v = .int .i64 x ∧ I64b x) rdI s b) := by
  have c0 := Blk.cell h (k := 0) (v := .string ⟨s.toArray⟩) rfl
  obtain ⟨u, r, n, hg⟩ : ∃ u r n, getR s = (u, r, n) := ⟨_, _, _, rfl⟩
  have hu : u < 18446744073709551616 := by have := getR_lt s; rwa [hg] at this
  have hi : I64b (backI u) := by unfold I64b backI; split <;> omega
  have hget : Calls Tryz.prog 85 #[.string ⟨s.toArray⟩] w fun x w' => x = .returned (.tuple #[.int .i64 (backI u), .string ⟨r.toArray⟩, .int .i64 (n : Int)]) ∧ Below w.heap.size w w' := by
    have := refGetInt_any ⟨s.toArray⟩ w (by rw [size_of]; exact hz)
    rw [bytes_of] at this
    unfold GetIntV at this
    rw [hg] at this
    exact this
  have Hi := Lib.hid hi
  clear hi
  go_enter Tryz.func67, Tryz.ntmps67
  go_wp2_with fail
  refine hget.mono ?_
  rintro e w1 ⟨rfl, hb1⟩
  have hR1 : RdB w1 R s b := keepK hb1 h
  have hb2 : But [R] w (w1.setCell ⟨R, 1, none⟩ (.bool false)) := (But.of_below hb1 [R]).set (p := ⟨R, 1, none⟩) (.inl (by simp)) _
  have hb3 : But [R] w (w1.setCell ⟨R, 0, none⟩ (.string ⟨r.toArray⟩)) := (But.of_below hb1 [R]).set (p := ⟨R, 0, none⟩) (.inl (by simp)) _
  have d0 := Blk.cell hR1 (k := 0) (v := .string ⟨s.toArray⟩) rfl
  have d1 := Blk.cell hR1 (k := 1) (v := .bool b) rfl
  have f0 := Blk.frozen hR1 0
  have f1 := Blk.frozen hR1 1
  clear hget c0 h hb1
  have h0 : I64b 0 := ⟨by omega, by omega⟩
  have H0 := Lib.hid h0
  clear h0
  by_cases hgood : b = true ∧ n = 0
  · obtain ⟨rfl, rfl⟩ := hgood
    have hr := rest_le hg
    have HO := Lib.hid (rdI_some.2 ⟨u, hg, rfl⟩)
    have hR2 := rdB_put hR1 r
    clear hg hR1 hb2 hu
    go_wp2_with fail
    go_ret
    exact ⟨_, backI u, r, true, rfl, ⟨rfl, Hi.out⟩, went_some HO.out, hR2, hr, hb3⟩
  have HO : Hid (b = true → rdI s = none) := Lib.hid (fun e => rdI_none hg (fun h1 => hgood ⟨e, h1⟩))
  have hR2 := rdB_bad hR1
  clear hR1 hb3 hu
  cases b with
  | false =>
    clear hg hgood
    go_wp2_with fail
    go_ret
    exact ⟨_, 0, s, false, rfl, ⟨rfl, H0.out⟩, went_none 0 s HO.out, hR2, Nat.le_refl _, hb2⟩
  | true =>
    have hn : ¬ n = 0 := fun e => hgood ⟨rfl, e⟩
    have hn' : ((n : Int) != 0) = true := by simp; omega
    clear hg hgood
    go_wp2_with fail
    go_ret
    exact ⟨_, 0, s, false, rfl, ⟨rfl, H0.out⟩, went_none 0 s (fun _ => HO.out trivial), hR2, Nat.le_refl _, hb2⟩
end Go.Proofs.YtakgcienodigpaaGreat

namespace Go.Proofs.YtakgcienodigpaaGreat
open Go.RowKit Oct

/-- What ins stands on: the reader's block, the result's cell, the instruction, what its kind names. -/
structure IS (w W : World) (R xb fb : Nat) (s : List UInt8) (i : Bool) (o : Int) (a b c k : Int) (p q r t : Bool) : Prop where
  rd : RdB W R s i
  C : Blk W w.heap.size 42 #[.int .u8 0, .int .i64 0, .int .i64 0, .int .i64 0, .int .i64 0]
  I : Blk W xb 42 #[.int .u8 o, .int .i64 a, .int .i64 b, .int .i64 c, .int .i64 k]
  F : Blk W fb 104 #[.bool p, .bool q, .bool r, .bool t]
  N : But [R] w W
  lx : w.heap.size < xb
section
variable {w W W' : World} {R xb fb : Nat} {s : List UInt8} {i : Bool} {o a b c k : Int} {p q r t : Bool}
theorem IS.over (h : IS w W R xb fb s i o a b c k p q r t) {s' : List UInt8} {i' : Bool} (hb : But [R] W W') (hR : RdB W' R s' i') : IS w W' R xb fb s' i' o a b c k p q r t :=
  ⟨hR, h.C.rover h.rd (by decide) hb, h.I.rover h.rd (by decide) hb, h.F.rover h.rd (by decide) hb, h.N.next hb, h.lx⟩
theorem IS.put (h : IS w W R xb fb s i o a b c k p q r t) {o' a' b' c' k' : Int} (hb : But [xb] W W') (hI : Blk W' xb 42 #[.int .u8 o', .int .i64 a', .int .i64 b', .int .i64 c', .int .i64 k']) : IS w W' R xb fb s i o' a' b' c' k' p q r t :=
  ⟨rdB_beside h.rd h.I (by decide) hb, (hb.block _ h.C.lt (by have := h.lx; simp; omega)).trans h.C, hI, (hb.block _ h.F.lt (by simp; exact blk_ne h.F h.I (by decide))).trans h.F, h.N.own hb (by have := h.lx; simp; omega), h.lx⟩
theorem IS.cells (h : IS w W R xb fb s i o a b c k p q r t) :
    (W.cell? ⟨xb, 0, none⟩ = some (.int .u8 o) ∧ W.cell? ⟨xb, 1, none⟩ = some (.int .i64 a) ∧ W.cell? ⟨xb, 2, none⟩ = some (.int .i64 b) ∧ W.cell? ⟨xb, 3, none⟩ = some (.int .i64 c) ∧ W.cell? ⟨xb, 4, none⟩ = some (.int .i64 k)) ∧
    (W.cell? ⟨fb, 0, none⟩ = some (.bool p) ∧ W.cell? ⟨fb, 1, none⟩ = some (.bool q) ∧ W.cell? ⟨fb, 2, none⟩ = some (.bool r) ∧ W.cell? ⟨fb, 3, none⟩ = some (.bool t)) ∧
    (W.frozen? ⟨xb, 1, none⟩ = false ∧ W.frozen? ⟨xb, 2, none⟩ = false ∧ W.frozen? ⟨xb, 3, none⟩ = false ∧ W.frozen? ⟨xb, 4, none⟩ = false) :=
  ⟨⟨h.I.cell rfl, h.I.cell rfl, h.I.cell rfl, h.I.cell rfl, h.I.cell rfl⟩, ⟨h.F.cell rfl, h.F.cell rfl, h.F.cell rfl, h.F.cell rfl⟩, h.I.frozen 1, h.I.frozen 2, h.I.frozen 3, h.I.frozen 4⟩
theorem IS.res (h : IS w W R xb fb s i o a b c k p q r t) :
    (W.cell? ⟨w.heap.size, 0, none⟩ = some (.int .u8 0) ∧ W.cell? ⟨w.heap.size, 1, none⟩ = some (.int .i64 0) ∧ W.cell? ⟨w.heap.size, 2, none⟩ = some (.int .i64 0) ∧ W.cell? ⟨w.heap.size, 3, none⟩ = some (.int .i64 0) ∧ W.cell? ⟨w.heap.size, 4, none⟩ = some (.int .i64 0)) ∧
    (W.frozen? ⟨w.heap.size, 0, none⟩ = false ∧ W.frozen? ⟨w.heap.size, 1, none⟩ = false ∧ W.frozen? ⟨w.heap.size, 2, none⟩ = false ∧ W.frozen? ⟨w.heap.size, 3, none⟩ = false ∧ W.frozen? ⟨w.heap.size, 4, none⟩ = false) :=
  ⟨⟨h.C.cell rfl, h.C.cell rfl, h.C.cell rfl, h.C.cell rfl, h.C.cell rfl⟩, h.C.frozen 0, h.C.frozen 1, h.C.frozen 2, h.C.frozen 3, h.C.frozen 4⟩
/-- The result, stored whole. -/
theorem IS.done (h : IS w W R xb fb s i o a b c k p q r t) :
    ∃ W', W' = (((((W.setCell ⟨w.heap.size, 0, none⟩ (.int .u8 o)).setCell ⟨w.heap.size, 1, none⟩ (.int .i64 a)).setCell ⟨w.heap.size, 2, none⟩ (.int .i64 b)).setCell ⟨w.heap.size, 3, none⟩ (.int .i64 c)).setCell ⟨w.heap.size, 4, none⟩ (.int .i64 k)) ∧
      W'.cell? ⟨w.heap.size, 0, none⟩ = some (.int .u8 o) ∧ W'.cell? ⟨w.heap.size, 1, none⟩ = some (.int .i64 a) ∧ W'.cell? ⟨w.heap.size, 2, none⟩ = some (.int .i64 b) ∧ W'.cell? ⟨w.heap.size, 3, none⟩ = some (.int .i64 c) ∧ W'.cell? ⟨w.heap.size, 4, none⟩ = some (.int .i64 k) ∧ RdB W' R s i ∧ But [R] w W' := by
  obtain ⟨h1, h2⟩ := blk_set5 h.C (.int .u8 o) (.int .i64 a) (.int .i64 b) (.int .i64 c) (.int .i64 k)
  exact ⟨_, rfl, h1.cell rfl, h1.cell rfl, h1.cell rfl, h1.cell rfl, h1.cell rfl, rdB_beside h.rd h.C (by decide) h2, h.N.own h2 (by simp)⟩
end
theorem pats (o : Nat) (h : o ≤ 10) : (fldA o = nA o ∧ fldB o = nB o ∧ fldC o = nC o ∧ fldK o = nK o) ∧ ((nA o = false ∧ nB o = false ∧ nC o = false ∧ nK o = false) ∨ (nA o = true ∧ nB o = false ∧ nC o = false ∧ nK o = true) ∨ (nA o = true ∧ nB o = true ∧ nC o = false ∧ nK o = false) ∨ (nA o = false ∧ nB o = false ∧ nC o = false ∧ nK o = true) ∨ (nA o = true ∧ nB o = false ∧ nC o = true ∧ nK o = false) ∨ (nA o = true ∧ nB o = true ∧ nC o = true ∧ nK o = false) ∨ (nA o = false ∧ nB o = false ∧ nC o = true ∧ nK o = false) ∨ (nA o = false ∧ nB o = true ∧ nC o = false ∧ nK o = true)) := by
  have : o = 0 ∨ o = 1 ∨ o = 2 ∨ o = 3 ∨ o = 4 ∨ o = 5 ∨ o = 6 ∨ o = 7 ∨ o = 8 ∨ o = 9 ∨ o = 10 := by omega
  rcases this with rfl | rfl | rfl | rfl | rfl | rfl | rfl | rfl | rfl | rfl | rfl <;> decide
/-- What is read once the Op is. -/
def rdTail (p q r t : Bool) (o : Nat) : List UInt8 → Option (In × List UInt8) := fun s =>
  (rdOpt p (rdZ 8) s).bind fun a => (rdOpt q (rdZ 8) a.2).bind fun b => (rdOpt r rdC b.2).bind fun c => (rdOpt t rdI c.2).bind fun k => some (⟨o, a.1, b.1, c.1, k.1⟩, k.2)

set_option maxRecDepth 100000 in
set_option maxHeartbeats 6400000 in
theorem insR_any (R : Nat) (s : List UInt8) (i : Bool) (w : World) (h : RdB w R s i) (hz : s.length ≤ maxLen) :
    Calls Tryz.prog 33 #[.pointer (some ⟨R, 0, none⟩)] w (RPost w R insRes (rdIns 8) s i) := by
  obtain ⟨wf, hwf⟩ : ∃ wf, wf = w.alloc (.cells #[.int .u8 0, .int .i64 0, .int .i64 0, .int .i64 0, .int .i64 0] 42) := ⟨_, rfl⟩
  have hB0 : Below w.heap.size w wf := by rw [hwf]; exact (Below.refl _ w).alloc (Nat.le_refl _) _
  have hsf : wf.heap.size = w.heap.size + 1 := by rw [hwf]; simp
  have hR0 : RdB wf R s i := Blk.later h hB0 (Blk.lt h)
  have hC0 : Blk wf w.heap.size 42 #[.int .u8 0, .int .i64 0, .int .i64 0, .int .i64 0, .int .i64 0] := by rw [hwf]; exact blk_new w _ _
  have hN0 : But [R] w wf := But.of_below hB0 _
  have hc := rnumR_any 10 R s i wf hR0 (by omega) hz
  go_enter Tryz.func33, Tryz.ntmps33
  go_wp2_with fail
  rw [← hwf]
  clear hwf
  refine hc.mono ?_
  rintro e w1 ⟨v, o, s1, i1, rfl, ⟨rfl, ho⟩, hW, hR1, hl1, hb⟩
  have hz1 : s1.length ≤ maxLen := Nat.le_trans hl1 hz
  have hC1 := hC0.rover hR0 (by decide) hb
  have hN1 := hN0.next hb
  have hs1 := hb.size
  have hw8 : IntKind.u8.wrap (o : Int) = (o : Int) := by rw [wrap_u8]; omega
  obtain ⟨⟨fa, fb, fc, fk⟩, hpat⟩ := pats o ho
  have hW1 : (st i s).bind (rdIns 8) = (st i1 s1).bind (rdTail (nA o) (nB o) (nC o) (nK o) o) := went_step hW (K' := fun o => rdTail (fldA o) (fldB o) (fldC o) (fldK o) o) (fun r => rfl) |>.trans (by simp only [fa, fb, fc, fk])
  have HW := Lib.hid hW1
  clear hc hB0 hR0 hC0 hN0 hb hW hW1 fa fb fc fk ho
  obtain ⟨w2, hw2⟩ : ∃ w2, w2 = w1.alloc (.cells #[.int .u8 (o : Int), .int .i64 0, .int .i64 0, .int .i64 0, .int .i64 0] 42) := ⟨_, rfl⟩
  have hI2 : Blk w2 w1.heap.size 42 #[.int .u8 (o : Int), .int .i64 0, .int .i64 0, .int .i64 0, .int .i64 0] := by rw [hw2]; exact blk_new w1 _ _
  have hB2 : Below w1.heap.size w1 w2 := by rw [hw2]; exact (Below.refl _ w1).alloc (Nat.le_refl _) _
  have hR2 : RdB w2 R s1 i1 := Blk.later hR1 hB2 (Blk.lt hR1)
  have hC2 := hC1.later hB2 hC1.lt
  have hN2 : But [R] w w2 := hN1.next (But.of_below hB2 _)
  have d0 := hI2.cell (k := 0) (v := .int .u8 (o : Int)) rfl
  have hof := of_any o w2
  rw [hw2] at d0
  clear hB2 hC1 hN1 hR1
  go_wp2_with fail
  rw [← hw2]
  clear hw2
  refine hof.mono ?_
  rintro e w3 ⟨rfl, hb⟩
  obtain ⟨w4, hw4⟩ : ∃ w4, w4 = w3.alloc (.cells #[.bool (nA o), .bool (nB o), .bool (nC o), .bool (nK o)] 104) := ⟨_, rfl⟩
  have hb4 : But [] w2 w4 := by rw [hw4]; exact hb.alloc _
  have hG : IS w w4 R w1.heap.size w3.heap.size s1 i1 (o : Int) 0 0 0 0 (nA o) (nB o) (nC o) (nK o) :=
    ⟨(hb4.block _ (Blk.lt hR2) (by simp)).trans hR2, (hb4.block _ hC2.lt (by simp)).trans hC2, (hb4.block _ hI2.lt (by simp)).trans hI2, by rw [hw4]; exact blk_new w3 _ _, hN2.trans hb4 (by simp), by omega⟩
  clear hof hb hb4 hR2 hC2 hI2 hN2 d0
  generalize nA o = p at *
  generalize nB o = q at *
  generalize nC o = r at *
  generalize nK o = t at *
  rcases hpat with ⟨rfl, rfl, rfl, rfl⟩ | ⟨rfl, rfl, rfl, rfl⟩ | ⟨rfl, rfl, rfl, rfl⟩ | ⟨rfl, rfl, rfl, rfl⟩ | ⟨rfl, rfl, rfl, rfl⟩ | ⟨rfl, rfl, rfl, rfl⟩ | ⟨rfl, rfl, rfl, rfl⟩ | ⟨rfl, rfl, rfl, rfl⟩
  · have hK : (st i s).bind (rdIns 8) = (st i1 s1).bind (fun z => some ((⟨o, 0, 0, 0, 0⟩ : In), z)) := HW.out.trans (st_congr fun _ => rfl)
    clear HW
    have HK := Lib.hid hK
    clear hK
    obtain ⟨⟨c0, c1, c2, c3, c4⟩, ⟨c5, c6, c7, c8⟩, c9, c10, c11, c12⟩ := hG.cells
    rw [hw4] at c0 c1 c2 c3 c4 c5 c6 c7 c8 c9 c10 c11 c12
    obtain ⟨⟨r0, r1, r2, r3, r4⟩, z0, z1, z2, z3, z4⟩ := hG.res
    rw [hw4] at r0 r1 r2 r3 r4 z0 z1 z2 z3 z4
    obtain ⟨W', hW', q0, q1, q2, q3, q4, hR5, hN5⟩ := hG.done
    rw [hw4] at hW'
    subst hW'
    clear hG
    go_wp2_with fail
    refine bodyPost_ret (v := .agg #[.int .u8 (o : Int), .int .i64 0, .int .i64 0, .int .i64 0, .int .i64 0]) (by simp [results, Tryz.f33, go_sem, q0, q1, q2, q3, q4]) rfl ?_
    exact ⟨_, ⟨o, 0, 0, 0, 0⟩, s1, i1, rfl, rfl, went_done HK.out, hR5, by omega, hN5⟩
  · have hK : (st i s).bind (rdIns 8) = (st i1 s1).bind (fun z => (rdZ 8 z).bind fun ya => (rdI ya.2).bind fun yk => some ((⟨o, ya.1, 0, 0, yk.1⟩ : In), yk.2)) := HW.out.trans (st_congr fun _ => rfl)
    clear HW
    have HK := Lib.hid hK
    clear hK
    obtain ⟨⟨c0, c1, c2, c3, c4⟩, ⟨c5, c6, c7, c8⟩, c9, c10, c11, c12⟩ := hG.cells
    rw [hw4] at c0 c1 c2 c3 c4 c5 c6 c7 c8 c9 c10 c11 c12
    have hc := rnumR_any 8 R s1 i1 _ hG.rd (by omega) hz1
    go_wp2_with fail
    rw [← hw4]
    clear hw4
    refine hc.mono ?_
    rintro e x1 ⟨v, n1, t1, j1, rfl, ⟨rfl, hm⟩, hW, hR, gl1, hb⟩
    have gz1 : t1.length ≤ maxLen := Nat.le_trans gl1 hz1
    replace hG := hG.over hb hR
    clear c0 c1 c2 c3 c4 c5 c6 c7 c8 c9 c10 c11 c12
    obtain ⟨⟨c0, c1, c2, c3, c4⟩, ⟨c5, c6, c7, c8⟩, c9, c10, c11, c12⟩ := hG.cells
    have hK : (st i s).bind (rdIns 8) = (st j1 t1).bind (fun z => (rdI z).bind fun yk => some ((⟨o, ((n1 : Nat) : Int), 0, 0, yk.1⟩ : In), yk.2)) := HK.out.trans (went_step (went_map hW (g := rdZ 8) (c := fun v : Nat => (v : Int)) (fun _ => rfl)) (K' := fun v z => (rdI z).bind fun yk => some ((⟨o, v, 0, 0, yk.1⟩ : In), yk.2)) (fun z => rfl))
    clear HK
    have HK := Lib.hid hK
    clear hK
    have hG' : IS w (x1.setCell ⟨w1.heap.size, 1, none⟩ (.int .i64 ((n1 : Nat) : Int))) R w1.heap.size w3.heap.size t1 j1 (o : Int) ((n1 : Nat) : Int) 0 0 0 true false false true := hG.put But.cellset (hG.I.set 1 (.int .i64 ((n1 : Nat) : Int)))
    obtain ⟨⟨e0, e1, e2, e3, e4⟩, ⟨e5, e6, e7, e8⟩, e9, e10, e11, e12⟩ := hG'.cells
    clear hc hR hb hm hW
    clear hG
    have hG := hG'
    clear hG'
    have hc := rintR_any R t1 j1 _ hG.rd gz1
    go_wp2_with fail
    refine hc.mono ?_
    rintro e x2 ⟨v, n2, t2, j2, rfl, ⟨rfl, hm⟩, hW, hR, gl2, hb⟩
    have gz2 : t2.length ≤ maxLen := Nat.le_trans gl2 gz1
    replace hG := hG.over hb hR
    clear c0 c1 c2 c3 c4 c5 c6 c7 c8 c9 c10 c11 c12
    obtain ⟨⟨c0, c1, c2, c3, c4⟩, ⟨c5, c6, c7, c8⟩, c9, c10, c11, c12⟩ := hG.cells
    have hK : (st i s).bind (rdIns 8) = (st j2 t2).bind (fun z => some ((⟨o, ((n1 : Nat) : Int), 0, 0, n2⟩ : In), z)) := HK.out.trans (went_step hW (K' := fun v z => some ((⟨o, ((n1 : Nat) : Int), 0, 0, v⟩ : In), z)) (fun z => rfl))
    clear HK
    have HK := Lib.hid hK
    clear hK
    have hG' : IS w (x2.setCell ⟨w1.heap.size, 4, none⟩ (.int .i64 n2)) R w1.heap.size w3.heap.size t2 j2 (o : Int) ((n1 : Nat) : Int) 0 0 n2 true false false true := hG.put But.cellset (hG.I.set 4 (.int .i64 n2))
    obtain ⟨⟨e0, e1, e2, e3, e4⟩, ⟨e5, e6, e7, e8⟩, e9, e10, e11, e12⟩ := hG'.cells
    clear hc hR hb hm hW
    clear hG
    have hG := hG'
    clear hG'
    obtain ⟨⟨r0, r1, r2, r3, r4⟩, z0, z1, z2, z3, z4⟩ := hG.res
    obtain ⟨W', hW', q0, q1, q2, q3, q4, hR5, hN5⟩ := hG.done
    subst hW'
    clear hG
    go_wp2_with fail
    refine bodyPost_ret (v := .agg #[.int .u8 (o : Int), .int .i64 ((n1 : Nat) : Int), .int .i64 0, .int .i64 0, .int .i64 n2]) (by simp [results, Tryz.f33, go_sem, q0, q1, q2, q3, q4]) rfl ?_
    exact ⟨_, ⟨o, ((n1 : Nat) : Int), 0, 0, n2⟩, t2, j2, rfl, rfl, went_done HK.out, hR5, by omega, hN5⟩
  · have hK : (st i s).bind (rdIns 8) = (st i1 s1).bind (fun z => (rdZ 8 z).bind fun ya => (rdZ 8 ya.2).bind fun yb => some ((⟨o, ya.1, yb.1, 0, 0⟩ : In), yb.2)) := HW.out.trans (st_congr fun _ => rfl)
    clear HW
    have HK := Lib.hid hK
    clear hK
    obtain ⟨⟨c0, c1, c2, c3, c4⟩, ⟨c5, c6, c7, c8⟩, c9, c10, c11, c12⟩ := hG.cells
    rw [hw4] at c0 c1 c2 c3 c4 c5 c6 c7 c8 c9 c10 c11 c12
    have hc := rnumR_any 8 R s1 i1 _ hG.rd (by omega) hz1
    go_wp2_with fail
    rw [← hw4]
    clear hw4
    refine hc.mono ?_
    rintro e x1 ⟨v, n1, t1, j1, rfl, ⟨rfl, hm⟩, hW, hR, gl1, hb⟩
    have gz1 : t1.length ≤ maxLen := Nat.le_trans gl1 hz1
    replace hG := hG.over hb hR
    clear c0 c1 c2 c3 c4 c5 c6 c7 c8 c9 c10 c11 c12
    obtain ⟨⟨c0, c1, c2, c3, c4⟩, ⟨c5, c6, c7, c8⟩, c9, c10, c11, c12⟩ := hG.cells
    have hK : (st i s).bind (rdIns 8) = (st j1 t1).bind (fun z => (rdZ 8 z).bind fun yb => some ((⟨o, ((n1 : Nat) : Int), yb.1, 0, 0⟩ : In), yb.2)) := HK.out.trans (went_step (went_map hW (g := rdZ 8) (c := fun v : Nat => (v : Int)) (fun _ => rfl)) (K' := fun v z => (rdZ 8 z).bind fun yb => some ((⟨o, v, yb.1, 0, 0⟩ : In), yb.2)) (fun z => rfl))
    clear HK
    have HK := Lib.hid hK
    clear hK
    have hG' : IS w (x1.setCell ⟨w1.heap.size, 1, none⟩ (.int .i64 ((n1 : Nat) : Int))) R w1.heap.size w3.heap.size t1 j1 (o : Int) ((n1 : Nat) : Int) 0 0 0 true true false false := hG.put But.cellset (hG.I.set 1 (.int .i64 ((n1 : Nat) : Int)))
    obtain ⟨⟨e0, e1, e2, e3, e4⟩, ⟨e5, e6, e7, e8⟩, e9, e10, e11, e12⟩ := hG'.cells
    clear hc hR hb hm hW
    clear hG
    have hG := hG'
    clear hG'
    have hc := rnumR_any 8 R t1 j1 _ hG.rd (by omega) gz1
    go_wp2_with fail
    refine hc.mono ?_
    rintro e x2 ⟨v, n2, t2, j2, rfl, ⟨rfl, hm⟩, hW, hR, gl2, hb⟩
    have gz2 : t2.length ≤ maxLen := Nat.le_trans gl2 gz1
    replace hG := hG.over hb hR
    clear c0 c1 c2 c3 c4 c5 c6 c7 c8 c9 c10 c11 c12
    obtain ⟨⟨c0, c1, c2, c3, c4⟩, ⟨c5, c6, c7, c8⟩, c9, c10, c11, c12⟩ := hG.cells
    have hK : (st i s).bind (rdIns 8) = (st j2 t2).bind (fun z => some ((⟨o, ((n1 : Nat) : Int), ((n2 : Nat) : Int), 0, 0⟩ : In), z)) := HK.out.trans (went_step (went_map hW (g := rdZ 8) (c := fun v : Nat => (v : Int)) (fun _ => rfl)) (K' := fun v z => some ((⟨o, ((n1 : Nat) : Int), v, 0, 0⟩ : In), z)) (fun z => rfl))
    clear HK
    have HK := Lib.hid hK
    clear hK
    have hG' : IS w (x2.setCell ⟨w1.heap.size, 2, none⟩ (.int .i64 ((n2 : Nat) : Int))) R w1.heap.size w3.heap.size t2 j2 (o : Int) ((n1 : Nat) : Int) ((n2 : Nat) : Int) 0 0 true true false false := hG.put But.cellset (hG.I.set 2 (.int .i64 ((n2 : Nat) : Int)))
    obtain ⟨⟨e0, e1, e2, e3, e4⟩, ⟨e5, e6, e7, e8⟩, e9, e10, e11, e12⟩ := hG'.cells
    clear hc hR hb hm hW
    clear hG
    have hG := hG'
    clear hG'
    obtain ⟨⟨r0, r1, r2, r3, r4⟩, z0, z1, z2, z3, z4⟩ := hG.res
    obtain ⟨W', hW', q0, q1, q2, q3, q4, hR5, hN5⟩ := hG.done
    subst hW'
    clear hG
    go_wp2_with fail
    refine bodyPost_ret (v := .agg #[.int .u8 (o : Int), .int .i64 ((n1 : Nat) : Int), .int .i64 ((n2 : Nat) : Int), .int .i64 0, .int .i64 0]) (by simp [results, Tryz.f33, go_sem, q0, q1, q2, q3, q4]) rfl ?_
    exact ⟨_, ⟨o, ((n1 : Nat) : Int), ((n2 : Nat) : Int), 0, 0⟩, t2, j2, rfl, rfl, went_done HK.out, hR5, by omega, hN5⟩
  · have hK : (st i s).bind (rdIns 8) = (st i1 s1).bind (fun z => (rdI z).bind fun yk => some ((⟨o, 0, 0, 0, yk.1⟩ : In), yk.2)) := HW.out.trans (st_congr fun _ => rfl)
    clear HW
    have HK := Lib.hid hK
    clear hK
    obtain ⟨⟨c0, c1, c2, c3, c4⟩, ⟨c5, c6, c7, c8⟩, c9, c10, c11, c12⟩ := hG.cells
    rw [hw4] at c0 c1 c2 c3 c4 c5 c6 c7 c8 c9 c10 c11 c12
    have hc := rintR_any R s1 i1 _ hG.rd hz1
    go_wp2_with fail
    rw [← hw4]
    clear hw4
    refine hc.mono ?_
    rintro e x1 ⟨v, n1, t1, j1, rfl, ⟨rfl, hm⟩, hW, hR, gl1, hb⟩
    have gz1 : t1.length ≤ maxLen := Nat.le_trans gl1 hz1
    replace hG := hG.over hb hR
    clear c0 c1 c2 c3 c4 c5 c6 c7 c8 c9 c10 c11 c12
    obtain ⟨⟨c0, c1, c2, c3, c4⟩, ⟨c5, c6, c7, c8⟩, c9, c10, c11, c12⟩ := hG.cells
    have hK : (st i s).bind (rdIns 8) = (st j1 t1).bind (fun z => some ((⟨o, 0, 0, 0, n1⟩ : In), z)) := HK.out.trans (went_step hW (K' := fun v z => some ((⟨o, 0, 0, 0, v⟩ : In), z)) (fun z => rfl))
    clear HK
    have HK := Lib.hid hK
    clear hK
    have hG' : IS w (x1.setCell ⟨w1.heap.size, 4, none⟩ (.int .i64 n1)) R w1.heap.size w3.heap.size t1 j1 (o : Int) 0 0 0 n1 false false false true := hG.put But.cellset (hG.I.set 4 (.int .i64 n1))
    obtain ⟨⟨e0, e1, e2, e3, e4⟩, ⟨e5, e6, e7, e8⟩, e9, e10, e11, e12⟩ := hG'.cells
    clear hc hR hb hm hW
    clear hG
    have hG := hG'
    clear hG'
    obtain ⟨⟨r0, r1, r2, r3, r4⟩, z0, z1, z2, z3, z4⟩ := hG.res
    obtain ⟨W', hW', q0, q1, q2, q3, q4, hR5, hN5⟩ := hG.done
    subst hW'
    clear hG
    go_wp2_with fail
    refine bodyPost_ret (v := .agg #[.int .u8 (o : Int), .int .i64 0, .int .i64 0, .int .i64 0, .int .i64 n1]) (by simp [results, Tryz.f33, go_sem, q0, q1, q2, q3, q4]) rfl ?_
    exact ⟨_, ⟨o, 0, 0, 0, n1⟩, t1, j1, rfl, rfl, went_done HK.out, hR5, by omega, hN5⟩
  · have hK : (st i s).bind (rdIns 8) = (st i1 s1).bind (fun z => (rdZ 8 z).bind fun ya => (rdC ya.2).bind fun yc => some ((⟨o, ya.1, 0, yc.1, 0⟩ : In), yc.2)) := HW.out.trans (st_congr fun _ => rfl)
    clear HW
    have HK := Lib.hid hK
    clear hK
    obtain ⟨⟨c0, c1, c2, c3, c4⟩, ⟨c5, c6, c7, c8⟩, c9, c10, c11, c12⟩ := hG.cells
    rw [hw4] at c0 c1 c2 c3 c4 c5 c6 c7 c8 c9 c10 c11 c12
    have hc := rnumR_any 8 R s1 i1 _ hG.rd (by omega) hz1
    go_wp2_with fail
    rw [← hw4]
    clear hw4
    refine hc.mono ?_
    rintro e x1 ⟨v, n1, t1, j1, rfl, ⟨rfl, hm⟩, hW, hR, gl1, hb⟩
    have gz1 : t1.length ≤ maxLen := Nat.le_trans gl1 hz1
    replace hG := hG.over hb hR
    clear c0 c1 c2 c3 c4 c5 c6 c7 c8 c9 c10 c11 c12
    obtain ⟨⟨c0, c1, c2, c3, c4⟩, ⟨c5, c6, c7, c8⟩, c9, c10, c11, c12⟩ := hG.cells
    have hK : (st i s).bind (rdIns 8) = (st j1 t1).bind (fun z => (rdC z).bind fun yc => some ((⟨o, ((n1 : Nat) : Int), 0, yc.1, 0⟩ : In), yc.2)) := HK.out.trans (went_step (went_map hW (g := rdZ 8) (c := fun v : Nat => (v : Int)) (fun _ => rfl)) (K' := fun v z => (rdC z).bind fun yc => some ((⟨o, v, 0, yc.1, 0⟩ : In), yc.2)) (fun z => rfl))
    clear HK
    have HK := Lib.hid hK
    clear hK
    have hG' : IS w (x1.setCell ⟨w1.heap.size, 1, none⟩ (.int .i64 ((n1 : Nat) : Int))) R w1.heap.size w3.heap.size t1 j1 (o : Int) ((n1 : Nat) : Int) 0 0 0 true false true false := hG.put But.cellset (hG.I.set 1 (.int .i64 ((n1 : Nat) : Int)))
    obtain ⟨⟨e0, e1, e2, e3, e4⟩, ⟨e5, e6, e7, e8⟩, e9, e10, e11, e12⟩ := hG'.cells
    clear hc hR hb hm hW
    clear hG
    have hG := hG'
    clear hG'
    have hc := rnumR_any 6 R t1 j1 _ hG.rd (by omega) gz1
    go_wp2_with fail
    refine hc.mono ?_
    rintro e x2 ⟨v, n2, t2, j2, rfl, ⟨rfl, hm⟩, hW, hR, gl2, hb⟩
    have gz2 : t2.length ≤ maxLen := Nat.le_trans gl2 gz1
    replace hG := hG.over hb hR
    clear c0 c1 c2 c3 c4 c5 c6 c7 c8 c9 c10 c11 c12
    obtain ⟨⟨c0, c1, c2, c3, c4⟩, ⟨c5, c6, c7, c8⟩, c9, c10, c11, c12⟩ := hG.cells
    have hK : (st i s).bind (rdIns 8) = (st j2 t2).bind (fun z => some ((⟨o, ((n1 : Nat) : Int), 0, (((n2 : Nat) : Int) - 1), 0⟩ : In), z)) := HK.out.trans (went_step (went_map hW (g := rdC) (c := fun v : Nat => (v : Int) - 1) (fun _ => rfl)) (K' := fun v z => some ((⟨o, ((n1 : Nat) : Int), 0, v, 0⟩ : In), z)) (fun z => rfl))
    clear HK
    have HK := Lib.hid hK
    clear hK
    have hwc2 : IntKind.i64.wrap (((n2 : Nat) : Int) - 1) = ((n2 : Nat) : Int) - 1 := by rw [IntKind.wrap_i64]; omega
    have hG' : IS w (x2.setCell ⟨w1.heap.size, 3, none⟩ (.int .i64 (((n2 : Nat) : Int) - 1))) R w1.heap.size w3.heap.size t2 j2 (o : Int) ((n1 : Nat) : Int) 0 (((n2 : Nat) : Int) - 1) 0 true false true false := hG.put But.cellset (hG.I.set 3 (.int .i64 (((n2 : Nat) : Int) - 1)))
    obtain ⟨⟨e0, e1, e2, e3, e4⟩, ⟨e5, e6, e7, e8⟩, e9, e10, e11, e12⟩ := hG'.cells
    clear hc hR hb hm hW
    clear hG
    have hG := hG'
    clear hG'
    obtain ⟨⟨r0, r1, r2, r3, r4⟩, z0, z1, z2, z3, z4⟩ := hG.res
    obtain ⟨W', hW', q0, q1, q2, q3, q4, hR5, hN5⟩ := hG.done
    subst hW'
    clear hG
    go_wp2_with fail
    refine bodyPost_ret (v := .agg #[.int .u8 (o : Int), .int .i64 ((n1 : Nat) : Int), .int .i64 0, .int .i64 (((n2 : Nat) : Int) - 1), .int .i64 0]) (by simp [results, Tryz.f33, go_sem, q0, q1, q2, q3, q4]) rfl ?_
    exact ⟨_, ⟨o, ((n1 : Nat) : Int), 0, (((n2 : Nat) : Int) - 1), 0⟩, t2, j2, rfl, rfl, went_done HK.out, hR5, by omega, hN5⟩
  · have hK : (st i s).bind (rdIns 8) = (st i1 s1).bind (fun z => (rdZ 8 z).bind fun ya => (rdZ 8 ya.2).bind fun yb => (rdC yb.2).bind fun yc => some ((⟨o, ya.1, yb.1, yc.1, 0⟩ : In), yc.2)) := HW.out.trans (st_congr fun _ => rfl)
    clear HW
    have HK := Lib.hid hK
    clear hK
    obtain ⟨⟨c0, c1, c2, c3, c4⟩, ⟨c5, c6, c7, c8⟩, c9, c10, c11, c12⟩ := hG.cells
    rw [hw4] at c0 c1 c2 c3 c4 c5 c6 c7 c8 c9 c10 c11 c12
    have hc := rnumR_any 8 R s1 i1 _ hG.rd (by omega) hz1
    go_wp2_with fail
    rw [← hw4]
    clear hw4
    refine hc.mono ?_
    rintro e x1 ⟨v, n1, t1, j1, rfl, ⟨rfl, hm⟩, hW, hR, gl1, hb⟩
    have gz1 : t1.length ≤ maxLen := Nat.le_trans gl1 hz1
    replace hG := hG.over hb hR
    clear c0 c1 c2 c3 c4 c5 c6 c7 c8 c9 c10 c11 c12
    obtain ⟨⟨c0, c1, c2, c3, c4⟩, ⟨c5, c6, c7, c8⟩, c9, c10, c11, c12⟩ := hG.cells
    have hK : (st i s).bind (rdIns 8) = (st j1 t1).bind (fun z => (rdZ 8 z).bind fun yb => (rdC yb.2).bind fun yc => some ((⟨o, ((n1 : Nat) : Int), yb.1, yc.1, 0⟩ : In), yc.2)) := HK.out.trans (went_step (went_map hW (g := rdZ 8) (c := fun v : Nat => (v : Int)) (fun _ => rfl)) (K' := fun v z => (rdZ 8 z).bind fun yb => (rdC yb.2).bind fun yc => some ((⟨o, v, yb.1, yc.1, 0⟩ : In), yc.2)) (fun z => rfl))
    clear HK
    have HK := Lib.hid hK
    clear hK
    have hG' : IS w (x1.setCell ⟨w1.heap.size, 1, none⟩ (.int .i64 ((n1 : Nat) : Int))) R w1.heap.size w3.heap.size t1 j1 (o : Int) ((n1 : Nat) : Int) 0 0 0 true true true false := hG.put But.cellset (hG.I.set 1 (.int .i64 ((n1 : Nat) : Int)))
    obtain ⟨⟨e0, e1, e2, e3, e4⟩, ⟨e5, e6, e7, e8⟩, e9, e10, e11, e12⟩ := hG'.cells
    clear hc hR hb hm hW
    clear hG
    have hG := hG'
    clear hG'
    have hc := rnumR_any 8 R t1 j1 _ hG.rd (by omega) gz1
    go_wp2_with fail
    refine hc.mono ?_
    rintro e x2 ⟨v, n2, t2, j2, rfl, ⟨rfl, hm⟩, hW, hR, gl2, hb⟩
    have gz2 : t2.length ≤ maxLen := Nat.le_trans gl2 gz1
    replace hG := hG.over hb hR
    clear c0 c1 c2 c3 c4 c5 c6 c7 c8 c9 c10 c11 c12
    obtain ⟨⟨c0, c1, c2, c3, c4⟩, ⟨c5, c6, c7, c8⟩, c9, c10, c11, c12⟩ := hG.cells
    have hK : (st i s).bind (rdIns 8) = (st j2 t2).bind (fun z => (rdC z).bind fun yc => some ((⟨o, ((n1 : Nat) : Int), ((n2 : Nat) : Int), yc.1, 0⟩ : In), yc.2)) := HK.out.trans (went_step (went_map hW (g := rdZ 8) (c := fun v : Nat => (v : Int)) (fun _ => rfl)) (K' := fun v z => (rdC z).bind fun yc => some ((⟨o, ((n1 : Nat) : Int), v, yc.1, 0⟩ : In), yc.2)) (fun z => rfl))
    clear HK
    have HK := Lib.hid hK
    clear hK
    have hG' : IS w (x2.setCell ⟨w1.heap.size, 2, none⟩ (.int .i64 ((n2 : Nat) : Int))) R w1.heap.size w3.heap.size t2 j2 (o : Int) ((n1 : Nat) : Int) ((n2 : Nat) : Int) 0 0 true true true false := hG.put But.cellset (hG.I.set 2 (.int .i64 ((n2 : Nat) : Int)))
    obtain ⟨⟨e0, e1, e2, e3, e4⟩, ⟨e5, e6, e7, e8⟩, e9, e10, e11, e12⟩ := hG'.cells
    clear hc hR hb hm hW
    clear hG
    have hG := hG'
    clear hG'
    have hc := rnumR_any 6 R t2 j2 _ hG.rd (by omega) gz2
    go_wp2_with fail
    refine hc.mono ?_
    rintro e x3 ⟨v, n3, t3, j3, rfl, ⟨rfl, hm⟩, hW, hR, gl3, hb⟩
    have gz3 : t3.length ≤ maxLen := Nat.le_trans gl3 gz2
    replace hG := hG.over hb hR
    clear c0 c1 c2 c3 c4 c5 c6 c7 c8 c9 c10 c11 c12
    obtain ⟨⟨c0, c1, c2, c3, c4⟩, ⟨c5, c6, c7, c8⟩, c9, c10, c11, c12⟩ := hG.cells
    have hK : (st i s).bind (rdIns 8) = (st j3 t3).bind (fun z => some ((⟨o, ((n1 : Nat) : Int), ((n2 : Nat) : Int), (((n3 : Nat) : Int) - 1), 0⟩ : In), z)) := HK.out.trans (went_step (went_map hW (g := rdC) (c := fun v : Nat => (v : Int) - 1) (fun _ => rfl)) (K' := fun v z => some ((⟨o, ((n1 : Nat) : Int), ((n2 : Nat) : Int), v, 0⟩ : In), z)) (fun z => rfl))
    clear HK
    have HK := Lib.hid hK
    clear hK
    have hwc3 : IntKind.i64.wrap (((n3 : Nat) : Int) - 1) = ((n3 : Nat) : Int) - 1 := by rw [IntKind.wrap_i64]; omega
    have hG' : IS w (x3.setCell ⟨w1.heap.size, 3, none⟩ (.int .i64 (((n3 : Nat) : Int) - 1))) R w1.heap.size w3.heap.size t3 j3 (o : Int) ((n1 : Nat) : Int) ((n2 : Nat) : Int) (((n3 : Nat) : Int) - 1) 0 true true true false := hG.put But.cellset (hG.I.set 3 (.int .i64 (((n3 : Nat) : Int) - 1)))
    obtain ⟨⟨e0, e1, e2, e3, e4⟩, ⟨e5, e6, e7, e8⟩, e9, e10, e11, e12⟩ := hG'.cells
    clear hc hR hb hm hW
    clear hG
    have hG := hG'
    clear hG'
    obtain ⟨⟨r0, r1, r2, r3, r4⟩, z0, z1, z2, z3, z4⟩ := hG.res
    obtain ⟨W', hW', q0, q1, q2, q3, q4, hR5, hN5⟩ := hG.done
    subst hW'
    clear hG
    go_wp2_with fail
    refine bodyPost_ret (v := .agg #[.int .u8 (o : Int), .int .i64 ((n1 : Nat) : Int), .int .i64 ((n2 : Nat) : Int), .int .i64 (((n3 : Nat) : Int) - 1), .int .i64 0]) (by simp [results, Tryz.f33, go_sem, q0, q1, q2, q3, q4]) rfl ?_
    exact ⟨_, ⟨o, ((n1 : Nat) : Int), ((n2 : Nat) : Int), (((n3 : Nat) : Int) - 1), 0⟩, t3, j3, rfl, rfl, went_done HK.out, hR5, by omega, hN5⟩
  · have hK : (st i s).bind (rdIns 8) = (st i1 s1).bind (fun z => (rdC z).bind fun yc => some ((⟨o, 0, 0, yc.1, 0⟩ : In), yc.2)) := HW.out.trans (st_congr fun _ => rfl)
    clear HW
    have HK := Lib.hid hK
    clear hK
    obtain ⟨⟨c0, c1, c2, c3, c4⟩, ⟨c5, c6, c7, c8⟩, c9, c10, c11, c12⟩ := hG.cells
    rw [hw4] at c0 c1 c2 c3 c4 c5 c6 c7 c8 c9 c10 c11 c12
    have hc := rnumR_any 6 R s1 i1 _ hG.rd (by omega) hz1
    go_wp2_with fail
    rw [← hw4]
    clear hw4
    refine hc.mono ?_
    rintro e x1 ⟨v, n1, t1, j1, rfl, ⟨rfl, hm⟩, hW, hR, gl1, hb⟩
    have gz1 : t1.length ≤ maxLen := Nat.le_trans gl1 hz1
    replace hG := hG.over hb hR
    clear c0 c1 c2 c3 c4 c5 c6 c7 c8 c9 c10 c11 c12
    obtain ⟨⟨c0, c1, c2, c3, c4⟩, ⟨c5, c6, c7, c8⟩, c9, c10, c11, c12⟩ := hG.cells
    have hK : (st i s).bind (rdIns 8) = (st j1 t1).bind (fun z => some ((⟨o, 0, 0, (((n1 : Nat) : Int) - 1), 0⟩ : In), z)) := HK.out.trans (went_step (went_map hW (g := rdC) (c := fun v : Nat => (v : Int) - 1) (fun _ => rfl)) (K' := fun v z => some ((⟨o, 0, 0, v, 0⟩ : In), z)) (fun z => rfl))
    clear HK
    have HK := Lib.hid hK
    clear hK
    have hwc1 : IntKind.i64.wrap (((n1 : Nat) : Int) - 1) = ((n1 : Nat) : Int) - 1 := by rw [IntKind.wrap_i64]; omega
    have hG' : IS w (x1.setCell ⟨w1.heap.size, 3, none⟩ (.int .i64 (((n1 : Nat) : Int) - 1))) R w1.heap.size w3.heap.size t1 j1 (o : Int) 0 0 (((n1 : Nat) : Int) - 1) 0 false false true false := hG.put But.cellset (hG.I.set 3 (.int .i64 (((n1 : Nat) : Int) - 1)))
    obtain ⟨⟨e0, e1, e2, e3, e4⟩, ⟨e5, e6, e7, e8⟩, e9, e10, e11, e12⟩ := hG'.cells
    clear hc hR hb hm hW
    clear hG
    have hG := hG'
    clear hG'
    obtain ⟨⟨r0, r1, r2, r3, r4⟩, z0, z1, z2, z3, z4⟩ := hG.res
    obtain ⟨W', hW', q0, q1, q2, q3, q4, hR5, hN5⟩ := hG.done
    subst hW'
    clear hG
    go_wp2_with fail
    refine bodyPost_ret (v := .agg #[.int .u8 (o : Int), .int .i64 0, .int .i64 0, .int .i64 (((n1 : Nat) : Int) - 1), .int .i64 0]) (by simp [results, Tryz.f33, go_sem, q0, q1, q2, q3, q4]) rfl ?_
    exact ⟨_, ⟨o, 0, 0, (((n1 : Nat) : Int) - 1), 0⟩, t1, j1, rfl, rfl, went_done HK.out, hR5, by omega, hN5⟩
  · have hK : (st i s).bind (rdIns 8) = (st i1 s1).bind (fun z => (rdZ 8 z).bind fun yb => (rdI yb.2).bind fun yk => some ((⟨o, 0, yb.1, 0, yk.1⟩ : In), yk.2)) := HW.out.trans (st_congr fun _ => rfl)
    clear HW
    have HK := Lib.hid hK
    clear hK
    obtain ⟨⟨c0, c1, c2, c3, c4⟩, ⟨c5, c6, c7, c8⟩, c9, c10, c11, c12⟩ := hG.cells
    rw [hw4] at c0 c1 c2 c3 c4 c5 c6 c7 c8 c9 c10 c11 c12
    have hc := rnumR_any 8 R s1 i1 _ hG.rd (by omega) hz1
    go_wp2_with fail
    rw [← hw4]
    clear hw4
    refine hc.mono ?_
    rintro e x1 ⟨v, n1, t1, j1, rfl, ⟨rfl, hm⟩, hW, hR, gl1, hb⟩
    have gz1 : t1.length ≤ maxLen := Nat.le_trans gl1 hz1
    replace hG := hG.over hb hR
    clear c0 c1 c2 c3 c4 c5 c6 c7 c8 c9 c10 c11 c12
    obtain ⟨⟨c0, c1, c2, c3, c4⟩, ⟨c5, c6, c7, c8⟩, c9, c10, c11, c12⟩ := hG.cells
    have hK : (st i s).bind (rdIns 8) = (st j1 t1).bind (fun z => (rdI z).bind fun yk => some ((⟨o, 0, ((n1 : Nat) : Int), 0, yk.1⟩ : In), yk.2)) := HK.out.trans (went_step (went_map hW (g := rdZ 8) (c := fun v : Nat => (v : Int)) (fun _ => rfl)) (K' := fun v z => (rdI z).bind fun yk => some ((⟨o, 0, v, 0, yk.1⟩ : In), yk.2)) (fun z => rfl))
    clear HK
    have HK := Lib.hid hK
    clear hK
    have hG' : IS w (x1.setCell ⟨w1.heap.size, 2, none⟩ (.int .i64 ((n1 : Nat) : Int))) R w1.heap.size w3.heap.size t1 j1 (o : Int) 0 ((n1 : Nat) : Int) 0 0 false true false true := hG.put But.cellset (hG.I.set 2 (.int .i64 ((n1 : Nat) : Int)))
    obtain ⟨⟨e0, e1, e2, e3, e4⟩, ⟨e5, e6, e7, e8⟩, e9, e10, e11, e12⟩ := hG'.cells
    clear hc hR hb hm hW
    clear hG
    have hG := hG'
    clear hG'
    have hc := rintR_any R t1 j1 _ hG.rd gz1
    go_wp2_with fail
    refine hc.mono ?_
    rintro e x2 ⟨v, n2, t2, j2, rfl, ⟨rfl, hm⟩, hW, hR, gl2, hb⟩
    have gz2 : t2.length ≤ maxLen := Nat.le_trans gl2 gz1
    replace hG := hG.over hb hR
    clear c0 c1 c2 c3 c4 c5 c6 c7 c8 c9 c10 c11 c12
    obtain ⟨⟨c0, c1, c2, c3, c4⟩, ⟨c5, c6, c7, c8⟩, c9, c10, c11, c12⟩ := hG.cells
    have hK : (st i s).bind (rdIns 8) = (st j2 t2).bind (fun z => some ((⟨o, 0, ((n1 : Nat) : Int), 0, n2⟩ : In), z)) := HK.out.trans (went_step hW (K' := fun v z => some ((⟨o, 0, ((n1 : Nat) : Int), 0, v⟩ : In), z)) (fun z => rfl))
    clear HK
    have HK := Lib.hid hK
    clear hK
    have hG' : IS w (x2.setCell ⟨w1.heap.size, 4, none⟩ (.int .i64 n2)) R w1.heap.size w3.heap.size t2 j2 (o : Int) 0 ((n1 : Nat) : Int) 0 n2 false true false true := hG.put But.cellset (hG.I.set 4 (.int .i64 n2))
    obtain ⟨⟨e0, e1, e2, e3, e4⟩, ⟨e5, e6, e7, e8⟩, e9, e10, e11, e12⟩ := hG'.cells
    clear hc hR hb hm hW
    clear hG
    have hG := hG'
    clear hG'
    obtain ⟨⟨r0, r1, r2, r3, r4⟩, z0, z1, z2, z3, z4⟩ := hG.res
    obtain ⟨W', hW', q0, q1, q2, q3, q4, hR5, hN5⟩ := hG.done
    subst hW'
    clear hG
    go_wp2_with fail
    refine bodyPost_ret (v := .agg #[.int .u8 (o : Int), .int .i64 0, .int .i64 ((n1 : Nat) : Int), .int .i64 0, .int .i64 n2]) (by simp [results, Tryz.f33, go_sem, q0, q1, q2, q3, q4]) rfl ?_
    exact ⟨_, ⟨o, 0, ((n1 : Nat) : Int), 0, n2⟩, t2, j2, rfl, rfl, went_done HK.out, hR5, by omega, hN5⟩
end Go.Proofs.YtakgcienodigpaaGreat

namespace Go.Proofs.YtakgcienodigpaaGreat
open Go.RowKit Oct

theorem owns_but {W W' : World} {R base n k : Nat} {e : TypeId} {v : Value} {xs : List Value} {s : List UInt8} {b : Bool} (h : W.ownsRow base e k v n xs) (hR : RdB W R s b) (he : e ≠ 73) (hb : But [R] W W') : W'.ownsRow base e k v n xs := by
  refine owns_keep h fun j cs z _ hj => hb.block j (Array.getElem?_eq_some_iff.1 hj).1 ?_
  simp only [List.mem_cons, List.not_mem_nil, or_false]
  rintro rfl
  have hR' := hR
  unfold RdB Blk at hR'
  rw [hj] at hR'
  simp only [Option.some.injEq, Obj.cells.injEq] at hR'
  exact he hR'.2.1
/-- What is known while a case is read. -/
structure CS (wr W : World) (R Y : Nat) (s : List UInt8) (i : Bool) (a b c e : Value) : Prop where
  rd : RdB W R s i
  yy : Blk W Y 52 #[a, b, c, e]
  N : But [R] wr W
  ly : wr.heap.size ≤ Y
section
variable {wr W W' : World} {R Y : Nat} {s : List UInt8} {i : Bool} {a b c e : Value}
theorem CS.over (h : CS wr W R Y s i a b c e) {s' : List UInt8} {i' : Bool} (hb : But [R] W W') (hR : RdB W' R s' i') : CS wr W' R Y s' i' a b c e :=
  ⟨hR, h.yy.rover h.rd (by decide) hb, h.N.next hb, h.ly⟩
theorem CS.put (h : CS wr W R Y s i a b c e) (k : Nat) (u : Value) {a' b' c' e' : Value} (hy : (#[a, b, c, e] : Array Value).setIfInBounds k u = #[a', b', c', e']) : CS wr (W.setCell ⟨Y, k, none⟩ u) R Y s i a' b' c' e' :=
  ⟨rdB_beside h.rd h.yy (by decide) But.cellset, hy ▸ h.yy.set k u, h.N.own But.cellset (by have := h.ly; simp; omega), h.ly⟩
theorem CS.cells (h : CS wr W R Y s i a b c e) : (W.cell? ⟨Y, 0, none⟩ = some a ∧ W.cell? ⟨Y, 1, none⟩ = some b ∧ W.cell? ⟨Y, 2, none⟩ = some c ∧ W.cell? ⟨Y, 3, none⟩ = some e) ∧
    (W.frozen? ⟨Y, 1, none⟩ = false ∧ W.frozen? ⟨Y, 2, none⟩ = false ∧ W.frozen? ⟨Y, 3, none⟩ = false) :=
  ⟨⟨h.yy.cell rfl, h.yy.cell rfl, h.yy.cell rfl, h.yy.cell rfl⟩, h.yy.frozen 1, h.yy.frozen 2, h.yy.frozen 3⟩
end
/-- What site answers. -/
def sitR (base : Nat) (W : World) (v : Value) (x : Sit) : Prop := ∃ ga gc, v = .agg #[.slice ga x.cs.length gc, .bool x.d] ∧ OwnCases base W (.slice ga x.cs.length gc) x.cs
theorem flag_val (n : Nat) : ((n : Int) == 1) = (n == 1) := by rw [Bool.eq_iff_iff]; simp; omega

set_option maxRecDepth 100000 in
set_option maxHeartbeats 6400000 in
theorem siteR_any (R : Nat) (s : List UInt8) (i : Bool) (w : World) (h : RdB w R s i) (hz : s.length ≤ maxLen) :
    Calls Tryz.prog 32 #[.pointer (some ⟨R, 0, none⟩)] w (RPost w R (sitR w.heap.size) (rdSite 8) s i) := by
  obtain ⟨i0, hi, hz0, hz1, hz2⟩ := info_parts infoCase
  obtain ⟨wf, hwf⟩ : ∃ wf, wf = w.alloc (.cells #[.slice none 0 0, .bool false] 40) := ⟨_, rfl⟩
  have hB0 : Below w.heap.size w wf := by rw [hwf]; exact (Below.refl _ w).alloc (Nat.le_refl _) _
  have hsf : wf.heap.size = w.heap.size + 1 := by rw [hwf]; simp
  have hRw := Blk.lt h
  have hR0 : RdB wf R s i := Blk.later h hB0 hRw
  have hC0 : Blk wf w.heap.size 40 #[.slice none 0 0, .bool false] := by rw [hwf]; exact blk_new w _ _
  have hN0 : But [R] w wf := But.of_below hB0 _
  have hc := rnumR_any 1 R s i wf hR0 (by omega) hz
  go_enter Tryz.func32, Tryz.ntmps32
  go_wp2_with fail
  rw [← hwf]
  clear hwf
  refine hc.mono ?_
  rintro e w1 ⟨v, d0, s1, i1, rfl, ⟨rfl, hd0⟩, hW, hR1, hl1, hb⟩
  have hz1' : s1.length ≤ maxLen := Nat.le_trans hl1 hz
  have hC1 := hC0.rover hR0 (by decide) hb
  have hN1 := hN0.next hb
  have hs1 := hb.size
  have hWF := went_map hW (g := rdF) (c := fun v : Nat => v == 1) (fun _ => rfl)
  obtain ⟨d, hd⟩ : ∃ d, ((d0 : Int) == 1) = d := ⟨_, rfl⟩
  rw [show ((d0 == 1) = d) by rw [← flag_val]; exact hd] at hWF
  have HW : Hid ((st i s).bind (rdSite 8) = (st i1 s1).bind (fun r => (rdL 6 (rdCase 8) r).bind fun cs => some ((⟨cs.1, d⟩ : Sit), cs.2))) := Lib.hid (went_step hWF (K' := fun d r => (rdL 6 (rdCase 8) r).bind fun cs => some ((⟨cs.1, d⟩ : Sit), cs.2)) (fun r => rfl))
  clear hc hB0 hR0 hC0 hN0 hb hW hWF hd0
  obtain ⟨X, hX⟩ : ∃ X, X = w1.heap.size := ⟨_, rfl⟩
  obtain ⟨w2, hw2⟩ : ∃ w2, w2 = w1.alloc (.cells #[.slice none 0 0, .bool d] 40) := ⟨_, rfl⟩
  have hX2 : Blk w2 X 40 #[.slice none 0 0, .bool d] := by rw [hw2, hX]; exact blk_new w1 _ _
  have hB2 : Below w1.heap.size w1 w2 := by rw [hw2]; exact (Below.refl _ w1).alloc (Nat.le_refl _) _
  have hR2 : RdB w2 R s1 i1 := Blk.later hR1 hB2 (Blk.lt hR1)
  have hC2 := hC1.later hB2 hC1.lt
  have hN2 : But [R] w w2 := hN1.next (But.of_below hB2 _)
  have hXw : w.heap.size < X := by omega
  have hc := rnumR_any 6 R s1 i1 w2 hR2 (by omega) hz1'
  clear hB2 hC1 hN1 hR1
  go_wp2_with fail
  rw [← hw2, ← hX]
  clear hw2 hX hd
  refine hc.mono ?_
  rintro e w3 ⟨v, n, s2, i2, rfl, ⟨rfl, hn⟩, hW, hR3, hl2, hb⟩
  have hz2' : s2.length ≤ maxLen := Nat.le_trans hl2 hz1'
  have hX3 := hX2.rover hR2 (by decide) hb
  have hC3 := hC2.rover hR2 (by decide) hb
  have hN3 := hN2.next hb
  have hO3 : OwnCases w.heap.size w3 (.slice none 0 0) [] := World.ownsRow_nil _ _ _ _
  have HK : Hid ((st i s).bind (rdSite 8) = (st i2 s2).bind (fun r => (rdRow (rdCase 8) (n - 0) r).bind fun q => some ((⟨[] ++ q.1, d⟩ : Sit), q.2))) := Lib.hid (HW.out.trans (went_step hW (K' := fun n r => (rdRow (rdCase 8) (n - 0) r).bind fun q => some ((⟨[] ++ q.1, d⟩ : Sit), q.2)) (fun r => by unfold rdL; rw [Option.bind_assoc]; rfl)))
  clear hc hR2 hX2 hC2 hN2 hb hW HW
  go_wp2_with fail
  go_loopw [5] (fun iv wr => ∃ (k : Nat) (pre : List Cas) (v : Value) (r : List UInt8) (j : Bool), k ≤ n ∧ iv = .int .i64 (k : Int) ∧ RdB wr R r j ∧ Blk wr w.heap.size 40 #[.slice none 0 0, .bool false] ∧ Blk wr X 40 #[v, .bool d] ∧ OwnCases w.heap.size wr v pre ∧ But [R] w wr ∧ r.length ≤ s2.length ∧ Hid (pre.length = k) ∧
    Hid ((st i s).bind (rdSite 8) = (st j r).bind (fun r => (rdRow (rdCase 8) (n - k) r).bind fun q => some ((⟨pre ++ q.1, d⟩ : Sit), q.2)))) (fun iv _ => n - (intOf iv).toNat)
  case atStart => exact ⟨0, [], _, s2, i2, Nat.zero_le _, rfl, hR3, hC3, hX3, hO3, hN3, Nat.le_refl _, Lib.hid rfl, HK⟩
  case round =>
    clear HK hR3 hC3 hX3 hO3 hN3
    obtain ⟨k, pre, v, r, j, hk, rfl, hRr, hCr, hXr, hOr, hNr, hlr, HL, HK⟩ := hrel
    obtain ⟨ga, gc, rfl⟩ := owns_slice hOr
    have hzr : r.length ≤ maxLen := Nat.le_trans hlr hz2'
    have hsr := hNr.size
    by_cases hlt : k < n
    rotate_left 1
    · have hlt' : ¬ (k : Int) < (n : Int) := by omega
      have HE := Lib.hid (HK.out.trans (st_congr (fun z => row_stop (C := fun cs r => some ((⟨cs, d⟩ : Sit), r)) hlt z)))
      clear HK
      have x0 := hXr.cell (k := 0) (v := .slice ga pre.length gc) rfl
      have x1 := hXr.cell (k := 1) (v := .bool d) rfl
      have y0 := hCr.cell (k := 0) (v := .slice none 0 0) rfl
      have y1 := hCr.cell (k := 1) (v := .bool false) rfl
      have f0 := hCr.frozen 0
      have f1 := hCr.frozen 1
      obtain ⟨W', hW'⟩ : ∃ W', W' = (wr.setCell ⟨w.heap.size, 0, none⟩ (.slice ga pre.length gc)).setCell ⟨w.heap.size, 1, none⟩ (.bool d) := ⟨_, rfl⟩
      have hCf : Blk W' w.heap.size 40 #[.slice ga pre.length gc, .bool d] := by rw [hW']; exact (hCr.set 0 _).set 1 _
      have hbf : But [w.heap.size] wr W' := by rw [hW']; exact ((But.refl [w.heap.size] wr).set (p := ⟨w.heap.size, 0, none⟩) (.inl (by simp)) _).set (p := ⟨w.heap.size, 1, none⟩) (.inl (by simp)) _
      have hRf := rdB_beside hRr hCr (by decide) hbf
      have hOf : OwnCases w.heap.size W' (.slice ga pre.length gc) pre := by rw [hW']; exact owns_beside (owns_beside hOr hCr (by decide) _) (hCr.set 0 _) (by decide) _
      have hNf : But [R] w W' := hNr.own hbf (by simp)
      have q0 := hCf.cell (k := 0) (v := .slice ga pre.length gc) rfl
      have q1 := hCf.cell (k := 1) (v := .bool d) rfl
      rw [hW'] at q0 q1
      clear hCf hbf hRr hOr hNr hXr hCr
      go_wp2_with fail
      refine bodyPost_ret (v := .agg #[.slice ga pre.length gc, .bool d]) (by simp [results, Tryz.f32, go_sem, q0, q1]) rfl ?_
      rw [← hW']
      exact ⟨_, ⟨pre, d⟩, r, j, rfl, ⟨ga, gc, rfl, hOf⟩, went_done HE.out, hRf, by omega, hNf⟩
    have hlt' : (k : Int) < (n : Int) := by omega
    have hw2 : IntKind.i64.wrap ((k : Int) + 1) = (k : Int) + 1 := by rw [IntKind.wrap_i64]; omega
    have hc := rnumR_any 1 R r j wr hRr (by omega) hzr
    go_wp2_with fail
    refine hc.mono ?_
    rintro e x1 ⟨v, a0, r1, j1, rfl, ⟨rfl, ha0⟩, hW, hR1, gl1, hb1⟩
    have gz1 : r1.length ≤ maxLen := Nat.le_trans gl1 hzr
    have hWF := went_map hW (g := rdF) (c := fun v : Nat => v == 1) (fun _ => rfl)
    obtain ⟨a, hd⟩ : ∃ a, ((a0 : Int) == 1) = a := ⟨_, rfl⟩
    rw [show ((a0 == 1) = a) by rw [← flag_val]; exact hd] at hWF
    have H1 : Hid ((st j r).bind (rdCase 8) = (st j1 r1).bind (fun r => (rdC r).bind fun c => (rdZ 8 c.2).bind fun v => (rdZ 8 v.2).bind fun o => some ((⟨a, c.1, v.1, o.1⟩ : Cas), o.2))) := Lib.hid (went_step hWF (K' := fun a r => (rdC r).bind fun c => (rdZ 8 c.2).bind fun v => (rdZ 8 v.2).bind fun o => some ((⟨a, c.1, v.1, o.1⟩ : Cas), o.2)) (fun r => rfl))
    obtain ⟨Y, hY⟩ : ∃ Y, Y = x1.heap.size := ⟨_, rfl⟩
    obtain ⟨x2, hx2⟩ : ∃ x2, x2 = x1.alloc (.cells #[.bool a, .int .i64 0, .int .i64 0, .int .i64 0] 52) := ⟨_, rfl⟩
    have hS : CS wr x2 R Y r1 j1 (.bool a) (.int .i64 0) (.int .i64 0) (.int .i64 0) :=
      ⟨by rw [hx2]; exact Blk.alloc hR1 _, by rw [hx2, hY]; exact blk_new x1 _ _, by rw [hx2]; exact hb1.alloc _, by have := hb1.size; omega⟩
    clear hc hW hWF ha0 hb1 hR1
    obtain ⟨⟨c0, c1, c2, c3⟩, f1, f2, f3⟩ := hS.cells
    have hc := rnumR_any 6 R r1 j1 x2 hS.rd (by omega) gz1
    go_wp2_with fail
    rw [← hx2, ← hY]
    clear hx2 hY hd
    refine hc.mono ?_
    rintro e x3 ⟨v, c, r2, j2, rfl, ⟨rfl, hm⟩, hW, hR2, gl2, hb2⟩
    have gz2 : r2.length ≤ maxLen := Nat.le_trans gl2 gz1
    have H2 : Hid ((st j r).bind (rdCase 8) = (st j2 r2).bind (fun r => (rdZ 8 r).bind fun v => (rdZ 8 v.2).bind fun o => some ((⟨a, (c : Int) - 1, v.1, o.1⟩ : Cas), o.2))) := Lib.hid (H1.out.trans (went_step (went_map hW (g := rdC) (c := fun v : Nat => (v : Int) - 1) (fun _ => rfl)) (K' := fun c r => (rdZ 8 r).bind fun v => (rdZ 8 v.2).bind fun o => some ((⟨a, c, v.1, o.1⟩ : Cas), o.2)) (fun r => rfl)))
    have hwc : IntKind.i64.wrap ((c : Int) - 1) = (c : Int) - 1 := by rw [IntKind.wrap_i64]; omega
    replace hS := hS.over hb2 hR2
    clear c0 c1 c2 c3 f1 f2 f3
    obtain ⟨⟨c0, c1, c2, c3⟩, f1, f2, f3⟩ := hS.cells
    have hS' := hS.put 1 (.int .i64 ((c : Int) - 1)) rfl
    clear hc hW hR2 hb2 hm H1 hS
    have hc := rnumR_any 8 R r2 j2 _ hS'.rd (by omega) gz2
    go_wp2_with fail
    refine hc.mono ?_
    rintro e x4 ⟨v, p, r3, j3, rfl, ⟨rfl, hm⟩, hW, hR3, gl3, hb3⟩
    have gz3 : r3.length ≤ maxLen := Nat.le_trans gl3 gz2
    have H3 : Hid ((st j r).bind (rdCase 8) = (st j3 r3).bind (fun r => (rdZ 8 r).bind fun o => some ((⟨a, (c : Int) - 1, (p : Int), o.1⟩ : Cas), o.2))) := Lib.hid (H2.out.trans (went_step (went_map hW (g := rdZ 8) (c := fun v : Nat => (v : Int)) (fun _ => rfl)) (K' := fun v r => (rdZ 8 r).bind fun o => some ((⟨a, (c : Int) - 1, v, o.1⟩ : Cas), o.2)) (fun r => rfl)))
    have hS := hS'.over hb3 hR3
    clear c0 c1 c2 c3 f1 f2 f3 hS' hwc
    obtain ⟨⟨c0, c1, c2, c3⟩, f1, f2, f3⟩ := hS.cells
    have hS' := hS.put 2 (.int .i64 (p : Int)) rfl
    clear hc hW hR3 hb3 hm H2 hS
    have hc := rnumR_any 8 R r3 j3 _ hS'.rd (by omega) gz3
    go_wp2_with fail
    refine hc.mono ?_
    rintro e x5 ⟨v, q, r4, j4, rfl, ⟨rfl, hm⟩, hW, hR4, gl4, hb4⟩
    have H4 := went_done (x := (⟨a, (c : Int) - 1, (p : Int), (q : Int)⟩ : Cas)) (H3.out.trans (went_step (went_map hW (g := rdZ 8) (c := fun v : Nat => (v : Int)) (fun _ => rfl)) (K' := fun o r => some ((⟨a, (c : Int) - 1, (p : Int), o⟩ : Cas), r)) (fun r => rfl)))
    have HK' := Lib.hid (HK.out.trans (went_step H4 (K' := fun x r => (rdRow (rdCase 8) (n - (k + 1)) r).bind fun q => some ((⟨(pre ++ [x]) ++ q.1, d⟩ : Sit), q.2)) (row_step (C := fun cs r => some ((⟨cs, d⟩ : Sit), r)) hlt)))
    have hS := hS'.over hb4 hR4
    clear c0 c1 c2 c3 f1 f2 f3 hS'
    obtain ⟨⟨c0, c1, c2, c3⟩, f1, f2, f3⟩ := hS.cells
    have hS' := hS.put 3 (.int .i64 (q : Int)) rfl
    clear hc hW hR4 hb4 hm H3 H4 HK hS
    obtain ⟨⟨d0, d1, d2, d3⟩, -, -, -⟩ := hS'.cells
    obtain ⟨x6, hx6⟩ : ∃ x6, x6 = x5.setCell ⟨Y, 3, none⟩ (.int .i64 (q : Int)) := ⟨_, rfl⟩
    rw [← hx6] at hS'
    have hX6 := hXr.rover hRr (by decide) hS'.N
    have hC6 := hCr.rover hRr (by decide) hS'.N
    have hO6 : OwnCases w.heap.size x6 _ pre := owns_but hOr hRr (by decide) hS'.N
    have hN6 := hNr.next hS'.N
    have hR6 := hS'.rd
    have hs6 := hN6.size
    have e0 := hX6.cell (k := 0) (v := .slice ga pre.length gc) rfl
    rw [hx6] at e0
    clear hS' hXr hCr hOr hNr hRr
    have hB3 : Below x6.heap.size x6 (x6.alloc (.cells #[.bool a, .int .i64 ((c : Int) - 1), .int .i64 (p : Int), .int .i64 (q : Int)] 52)) := (Below.refl _ _).alloc (Nat.le_refl _) _
    have hO7 : OwnCases w.heap.size (x6.alloc (.cells #[.bool a, .int .i64 ((c : Int) - 1), .int .i64 (p : Int), .int .i64 (q : Int)] 52)) _ pre := owns_fresh hO6 hB3
    have hX7 := hX6.later hB3 hX6.lt
    have hC7 := hC6.later hB3 hC6.lt
    have hR7 : RdB (x6.alloc (.cells #[.bool a, .int .i64 ((c : Int) - 1), .int .i64 (p : Int), .int .i64 (q : Int)] 52)) R r4 j4 := Blk.later hR6 hB3 (Blk.lt hR6)
    have hN7 : But [R] w (x6.alloc (.cells #[.bool a, .int .i64 ((c : Int) - 1), .int .i64 (p : Int), .int .i64 (q : Int)] 52)) := hN6.next (But.of_below hB3 _)
    have hB := blk_new x6 52 #[.bool a, .int .i64 ((c : Int) - 1), .int .i64 (p : Int), .int .i64 (q : Int)]
    have hpl : pre.length ≤ 1000 := by have := HL.out; omega
    obtain ⟨hrow, hsp⟩ := OwnCases.split hO7
    have hs56 : x6.heap.size = x5.heap.size := by rw [hx6]; simp
    have hne : ∀ (j : Nat) u, ([.bool a, .int .i64 ((c : Int) - 1), .int .i64 (p : Int), .int .i64 (q : Int)] : List Value)[j]? = some u → (x6.alloc (.cells #[.bool a, .int .i64 ((c : Int) - 1), .int .i64 (p : Int), .int .i64 (q : Int)] 52)).cell? (Addr.add ⟨x5.heap.size, 0, none⟩ j) = some u := fun j u hj => by
      rw [show Addr.add ⟨x5.heap.size, 0, none⟩ j = ⟨x6.heap.size, j, none⟩ by rw [hs56]; by_cases e : j = 0 <;> simp [Addr.add, e]]
      exact hB.cell (by simpa using hj)
    rw [hx6] at hrow hne hsp
    go_wp2_with (at_builtin; refine wpList_append_own _ rfl _ _ 38 rfl w.heap.size 52 i0 (.agg #[.bool false, .int .i64 0, .int .i64 0, .int .i64 0]) 4 32 Tryz.underlying38 hi hz0 hz1 hz2 rfl (by decide) _ _ _ rfl hrow ⟨x5.heap.size, 0, none⟩ 1 1 ([.bool a, .int .i64 ((c : Int) - 1), .int .i64 (p : Int), .int .i64 (q : Int)]) rfl rfl hne ?c2 ?c3 ?c4 ?c5 ?_)
    case c2 => intro u hu; simp at hu; rcases hu with rfl | rfl | rfl | rfl <;> rfl
    case c3 => unfold maxLen; omega
    case c4 => omega
    case c5 => first | omega | (simp; omega)
    intro v' w4 hown' hgrow _
    have hO4 := hsp _ _ (⟨a, (c : Int) - 1, (p : Int), (q : Int)⟩ : Cas) hown' hgrow
    rw [← hx6] at hrow hgrow
    have hB4 : Below w.heap.size (x6.alloc (.cells #[.bool a, .int .i64 ((c : Int) - 1), .int .i64 (p : Int), .int .i64 (q : Int)] 52)) w4 := grown_below hrow hgrow (by simp; omega)
    have hX4 := grown_other hrow hgrow hX7 (by decide)
    have hC4 := grown_other hrow hgrow hC7 (by decide)
    have hR4 : RdB w4 R r4 j4 := Blk.later hR7 hB4 hRw
    have hN4 : But [R] w w4 := but_below hN7 hB4
    have HL' : Hid ((pre ++ [(⟨a, (c : Int) - 1, (p : Int), (q : Int)⟩ : Cas)]).length = k + 1) := Lib.hid (by rw [List.length_append, HL.out]; rfl)
    obtain ⟨L, hL⟩ : ∃ L, L = (pre ++ [(⟨a, (c : Int) - 1, (p : Int), (q : Int)⟩ : Cas)]).length := ⟨_, rfl⟩
    obtain ⟨ga', gc', hv'⟩ := owns_slice hO4
    rw [← hL] at hv'
    subst hv'
    clear hL
    have hX8 := hX4.set 0 (.slice ga' L gc')
    have hb8 := But.cellset (W := w4) (B := X) (k := 0) (v := (.slice ga' L gc'))
    have hC8 : Blk (w4.setCell ⟨X, 0, none⟩ (.slice ga' L gc')) w.heap.size 40 #[.slice none 0 0, .bool false] := hC4.beside (p := ⟨X, 0, none⟩) (by simp; omega) (.slice ga' L gc')
    have hR8 := rdB_beside hR4 hX4 (by decide) hb8
    have hO8 := owns_beside hO4 (g := X) (k := 0) hX4 (by decide) (.slice ga' L gc')
    have hN8 : But [R] w (w4.setCell ⟨X, 0, none⟩ (.slice ga' L gc')) := hN4.own hb8 (by simp; omega)
    have g0 := hX4.cell (k := 0) (v := .slice ga pre.length gc) rfl
    have g1 := hX4.frozen 0
    clear hown' hgrow hrow hsp hne hB hB3 hB4 hO7 hX7 hC7 hR7 hN7 hO6 hX6 hC6 hR6 hN6 hb8 hR4 hX4 hO4 hN4 hC4 c0 c1 c2 c3 d0 d1 d2 d3 f1 f2 f3 e0 hx6
    go_wp2_with fail
    go_roundw
    case rel => exact ⟨k + 1, _, (.slice ga' L gc'), r4, j4, by omega, by go_num, hR8, hC8, hX8, hO8, hN8, by omega, HL', HK'⟩
    case measure => simp [intOf]; omega
end Go.Proofs.YtakgcienodigpaaGreat

namespace Go.Proofs.YtakgcienodigpaaGreat
open Go.RowKit Oct

/-! ### What is kept -/
def KeepT (T : TypeId) (W W' : World) : Prop := ∀ (j : Nat) (cs : Array Value) (t : TypeId) (z : Nat × Nat), t ≠ T → W.heap[j]? = some (.cells cs t z) → W'.heap[j]? = W.heap[j]?
section
variable {W W' : World} {R B base n k : Nat} {s : List UInt8} {b : Bool} {e t T : TypeId} {v : Value} {xs : List Value} {cs : Array Value}
theorem keepT_rd (hR : RdB W R s b) (hb : But [R] W W') : KeepT 73 W W' := fun j cs t z ht hj => hb.block j (Array.getElem?_eq_some_iff.1 hj).1 (by
  simp only [List.mem_cons, List.not_mem_nil, or_false]
  rintro rfl
  have hR' := hR
  unfold RdB Blk at hR'
  rw [hj] at hR'
  simp only [Option.some.injEq, Obj.cells.injEq] at hR'
  exact ht hR'.2.1)
theorem keepT_grown (hr : W.ownsRow base e k v n xs) (hg : W.grownBy W' v.ownBlock) : KeepT e W W' := fun j cs t z ht hj => hg.block j (Array.getElem?_eq_some_iff.1 hj).1 (by
  intro e1
  rcases hr.2 with ⟨hv, _⟩ | ⟨g, cap, cur, hv, _, hc, _⟩
  · rw [hv] at e1; cases e1
  · rw [hv] at e1
    simp only [Value.ownBlock, Option.some.injEq] at e1
    subst e1
    rw [hj] at hc
    simp only [Option.some.injEq, Obj.cells.injEq] at hc
    exact ht hc.2.1)
theorem keepT_set (hp : Blk W B t cs) (q : Nat) (u : Value) : KeepT t W (W.setCell ⟨B, q, none⟩ u) := fun j cs' t' z ht hj => Below.heap_setCell W ⟨B, q, none⟩ u j (by
  intro e1
  simp only at e1
  subst e1
  unfold Blk at hp
  rw [hj] at hp
  simp only [Option.some.injEq, Obj.cells.injEq] at hp
  exact ht hp.2.1)
theorem owns_keepT (h : W.ownsRow base e k v n xs) (hk : KeepT T W W') (he : e ≠ T) : W'.ownsRow base e k v n xs := owns_keep h fun j cs z _ hj => hk j cs _ z he hj
theorem codes_keepT {l : List (List In)} (h : OwnCodes base W v l) (hk : KeepT T W W') (h1 : 37 ≠ T) (h2 : 42 ≠ T) : OwnCodes base W' v l := by
  obtain ⟨us, e1, e2⟩ := h
  exact ⟨us, owns_keepT e1 hk h1, fun k u x hu hx => owns_keepT (e2 k u x hu hx) hk h2⟩
theorem sites_keepT {l : List Sit} (h : OwnSites base W v l) (hk : KeepT T W W') (h1 : 40 ≠ T) (h2 : 52 ≠ T) : OwnSites base W' v l := by
  obtain ⟨xs, e1, e2⟩ := h
  exact ⟨xs, owns_keepT e1 hk h1, fun k x hx => by obtain ⟨u, u1, u2, u3⟩ := e2 k x hx; exact ⟨u, u1, u2, owns_keepT u3 hk h2⟩⟩
theorem prg_keepT {v1 v2 v3 : Value} {p : Prg} (h : OwnPrg base W v1 v2 v3 p) (hk : KeepT T W W') (h0 : 3 ≠ T) (h1 : 37 ≠ T) (h2 : 42 ≠ T) (h3 : 40 ≠ T) (h4 : 52 ≠ T) : OwnPrg base W' v1 v2 v3 p :=
  ⟨owns_keepT h.caps hk h0, codes_keepT h.codes hk h1 h2, sites_keepT h.sites hk h3 h4⟩
end

/-- What Get stands on between its statements: the reader, the result's cell, the program. -/
structure GT (w W : World) (R P : Nat) (s : List UInt8) (i : Bool) (v1 v2 v3 : Value) (p : Prg) : Prop where
  rd : RdB W R s i
  cc : Blk W w.heap.size 26 #[.slice none 0 0, .slice none 0 0, .slice none 0 0]
  pp : Blk W P 26 #[v1, v2, v3]
  oo : OwnPrg w.heap.size W v1 v2 v3 p
  nn : Below w.heap.size w W
  lp : w.heap.size < P
  lr : w.heap.size ≤ R
section
variable {w W W' : World} {R P : Nat} {s s' : List UInt8} {i i' : Bool} {v1 v2 v3 v' : Value} {p : Prg}
theorem GT.over (h : GT w W R P s i v1 v2 v3 p) (hb : But [R] W W') (hR : RdB W' R s' i') : GT w W' R P s' i' v1 v2 v3 p :=
  ⟨hR, h.cc.rover h.rd (by decide) hb, h.pp.rover h.rd (by decide) hb, prg_keepT h.oo (keepT_rd h.rd hb) (by decide) (by decide) (by decide) (by decide) (by decide), h.nn.trans (hb.below h.nn.size (by have := h.lr; simp; omega)), h.lp, h.lr⟩
theorem GT.fresh (h : GT w W R P s i v1 v2 v3 p) (hb : Below W.heap.size W W') : GT w W' R P s i v1 v2 v3 p :=
  ⟨Blk.later h.rd hb (Blk.lt h.rd), h.cc.later hb h.cc.lt, h.pp.later hb h.pp.lt, h.oo.fresh hb, below_next h.nn hb (Nat.le_refl _), h.lp, h.lr⟩
/-- One field of the program is stored. -/
theorem GT.fld (rd : RdB W R s i) (cc : Blk W w.heap.size 26 #[.slice none 0 0, .slice none 0 0, .slice none 0 0]) (pp : Blk W P 26 #[v1, v2, v3]) (nn : Below w.heap.size w W) (lp : w.heap.size < P) (lr : w.heap.size ≤ R)
    (k : Nat) (u : Value) {y1 y2 y3 : Value} (hy : (#[v1, v2, v3] : Array Value).setIfInBounds k u = #[y1, y2, y3]) {q : Prg} (oo : OwnPrg w.heap.size W y1 y2 y3 q) : GT w (W.setCell ⟨P, k, none⟩ u) R P s i y1 y2 y3 q :=
  ⟨rdB_beside rd pp (by decide) But.cellset, cc.beside (p := ⟨P, k, none⟩) (by simp; omega) u, hy ▸ pp.set k u, prg_keepT oo (keepT_set pp k u) (by decide) (by decide) (by decide) (by decide) (by decide), nn.trans ((But.cellset (W := W) (B := P) (k := k) (v := u)).below nn.size (by simp; omega)), lp, lr⟩
theorem GT.caps (h : GT w W R P s i v1 v2 v3 p) (x : Int) (hown : W'.ownsRow w.heap.size 3 1 v' (p.caps.length + 1) (I64 p.caps ++ [.int .i64 x])) (hg : W.grownBy W' v1.ownBlock) : GT w (W'.setCell ⟨P, 0, none⟩ v') R P s i v' v2 v3 ⟨p.caps ++ [x], p.codes, p.sites⟩ := by
  have hr := h.oo.caps
  have hk := keepT_grown hr hg
  exact GT.fld (grown_other hr hg h.rd (by decide)) (grown_other hr hg h.cc (by decide)) (grown_other hr hg h.pp (by decide)) (h.nn.trans (grown_below hr hg h.nn.size)) h.lp h.lr 0 v' rfl
    ⟨(OwnInts.split hr).2 W' v' x hown hg, codes_keepT h.oo.codes hk (by decide) (by decide), sites_keepT h.oo.sites hk (by decide) (by decide)⟩
theorem GT.sites (h : GT w W R P s i v1 v2 v3 p) : ∃ us : List Value, W.ownsRow w.heap.size 40 2 v3 p.sites.length us ∧
    ∀ (W' : World) (v' u : Value) (x : Sit), OwnCases w.heap.size W u x.cs → W'.ownsRow w.heap.size 40 2 v' (p.sites.length + 1) (us ++ [u, .bool x.d]) → W.grownBy W' v3.ownBlock → GT w (W'.setCell ⟨P, 2, none⟩ v') R P s i v1 v2 v' ⟨p.caps, p.codes, p.sites ++ [x]⟩ := by
  obtain ⟨us, hr, hsp⟩ := OwnSites.split h.oo.sites
  refine ⟨us, hr, fun W' v' u x hu hown hg => ?_⟩
  have hk := keepT_grown hr hg
  exact GT.fld (grown_other hr hg h.rd (by decide)) (grown_other hr hg h.cc (by decide)) (grown_other hr hg h.pp (by decide)) (h.nn.trans (grown_below hr hg h.nn.size)) h.lp h.lr 2 v' rfl
    ⟨owns_keepT h.oo.caps hk (by decide), codes_keepT h.oo.codes hk (by decide) (by decide), hsp W' v' u x hu hown hg⟩
theorem GT.codes (h : GT w W R P s i v1 v2 v3 p) : ∃ us : List Value, W.ownsRow w.heap.size 37 1 v2 p.codes.length us ∧
    ∀ (W' : World) (v' u : Value) (x : List In), OwnCode w.heap.size W u x → W'.ownsRow w.heap.size 37 1 v' (p.codes.length + 1) (us ++ [u]) → W.grownBy W' v2.ownBlock → GT w (W'.setCell ⟨P, 1, none⟩ v') R P s i v1 v' v3 ⟨p.caps, p.codes ++ [x], p.sites⟩ := by
  obtain ⟨us, hr, hsp⟩ := OwnCodes.split h.oo.codes
  refine ⟨us, hr, fun W' v' u x hu hown hg => ?_⟩
  have hk := keepT_grown hr hg
  exact GT.fld (grown_other hr hg h.rd (by decide)) (grown_other hr hg h.cc (by decide)) (grown_other hr hg h.pp (by decide)) (h.nn.trans (grown_below hr hg h.nn.size)) h.lp h.lr 1 v' rfl
    ⟨owns_keepT h.oo.caps hk (by decide), hsp W' v' u x hu hown hg, sites_keepT h.oo.sites hk (by decide) (by decide)⟩
theorem GT.cells (h : GT w W R P s i v1 v2 v3 p) :
    (W.cell? ⟨R, 0, none⟩ = some (.string ⟨s.toArray⟩) ∧ W.cell? ⟨R, 1, none⟩ = some (.bool i)) ∧
    (W.cell? ⟨P, 0, none⟩ = some v1 ∧ W.cell? ⟨P, 1, none⟩ = some v2 ∧ W.cell? ⟨P, 2, none⟩ = some v3) ∧
    (W.cell? ⟨w.heap.size, 0, none⟩ = some (.slice none 0 0) ∧ W.cell? ⟨w.heap.size, 1, none⟩ = some (.slice none 0 0) ∧ W.cell? ⟨w.heap.size, 2, none⟩ = some (.slice none 0 0)) ∧
    (W.frozen? ⟨w.heap.size, 0, none⟩ = false ∧ W.frozen? ⟨w.heap.size, 1, none⟩ = false ∧ W.frozen? ⟨w.heap.size, 2, none⟩ = false) :=
  ⟨⟨Blk.cell h.rd rfl, Blk.cell h.rd rfl⟩, ⟨h.pp.cell rfl, h.pp.cell rfl, h.pp.cell rfl⟩, ⟨h.cc.cell rfl, h.cc.cell rfl, h.cc.cell rfl⟩, h.cc.frozen 0, h.cc.frozen 1, h.cc.frozen 2⟩
/-- The result, stored whole. -/
theorem GT.res (h : GT w W R P s i v1 v2 v3 p) (x y z : Value) : ∃ W', W' = (((W.setCell ⟨w.heap.size, 0, none⟩ x).setCell ⟨w.heap.size, 1, none⟩ y).setCell ⟨w.heap.size, 2, none⟩ z) ∧
    W'.cell? ⟨w.heap.size, 0, none⟩ = some x ∧ W'.cell? ⟨w.heap.size, 1, none⟩ = some y ∧ W'.cell? ⟨w.heap.size, 2, none⟩ = some z ∧ Below w.heap.size w W' ∧ OwnPrg w.heap.size W' v1 v2 v3 p ∧ RdB W' R s i := by
  have h1 := h.cc.set 0 x
  have h2 := h1.set 1 y
  have h3 := h2.set 2 z
  have hb : But [w.heap.size] W (((W.setCell ⟨w.heap.size, 0, none⟩ x).setCell ⟨w.heap.size, 1, none⟩ y).setCell ⟨w.heap.size, 2, none⟩ z) := (((But.refl [w.heap.size] W).set (p := ⟨w.heap.size, 0, none⟩) (.inl (by simp)) _).set (p := ⟨w.heap.size, 1, none⟩) (.inl (by simp)) _).set (p := ⟨w.heap.size, 2, none⟩) (.inl (by simp)) _
  have d : ∀ {W1 W2 : World}, OwnPrg w.heap.size W1 v1 v2 v3 p → KeepT 26 W1 W2 → OwnPrg w.heap.size W2 v1 v2 v3 p := fun h hk => prg_keepT h hk (by decide) (by decide) (by decide) (by decide) (by decide)
  exact ⟨_, rfl, h3.cell rfl, h3.cell rfl, h3.cell rfl, h.nn.trans (hb.below h.nn.size (by simp)), d (d (d h.oo (keepT_set h.cc 0 x)) (keepT_set h1 1 y)) (keepT_set h2 2 z), rdB_beside h.rd h.cc (by decide) hb⟩
end

/-! ### Pure -/
theorem rdL_bind {α β : Type} {f : Rd α} {m : Nat} {C : List α × List UInt8 → Option β} (r : List UInt8) : (rdL m f r).bind C = (rdN m r).bind fun p => (rdRow f p.1 p.2).bind C := by
  unfold rdL
  exact Option.bind_assoc ..
def c1 (caps : List Int) : List UInt8 → Option (Prg × List UInt8) := fun r => (rdL 12 (rdSite 8) r).bind fun b => (rdL 8 (rdCode 8) b.2).bind fun c => some ((⟨caps, c.1, b.1⟩ : Prg), c.2)
def c2 (caps : List Int) (sites : List Sit) : List UInt8 → Option (Prg × List UInt8) := fun r => (rdL 8 (rdCode 8) r).bind fun c => some ((⟨caps, c.1, sites⟩ : Prg), c.2)
def c3 (caps : List Int) (sites : List Sit) (codes : List (List In)) : List UInt8 → Option (Prg × List UInt8) := fun r => some ((⟨caps, codes, sites⟩ : Prg), r)
theorem rdPrg_1 (r : List UInt8) : rdPrg 8 r = (rdN 6 r).bind fun p => (rdRow (rdZ 8) (p.1 - 0) p.2).bind fun q => c1 ([] ++ q.1) q.2 := rdL_bind r
theorem c1_1 (caps : List Int) (r : List UInt8) : c1 caps r = (rdN 12 r).bind fun p => (rdRow (rdSite 8) (p.1 - 0) p.2).bind fun q => c2 caps ([] ++ q.1) q.2 := rdL_bind r
theorem c2_1 (caps : List Int) (sites : List Sit) (r : List UInt8) : c2 caps sites r = (rdN 8 r).bind fun p => (rdRow (rdCode 8) (p.1 - 0) p.2).bind fun q => c3 caps sites ([] ++ q.1) q.2 := rdL_bind r
theorem rdCode_1 (r : List UInt8) : rdCode 8 r = (rdN 40 r).bind fun p => (rdRow (rdIns 8) (p.1 - 0) p.2).bind fun q => some ([] ++ q.1, q.2) := by
  have h : ∀ z, rdCode 8 z = (rdCode 8 z).bind fun q => some q := fun z => by cases rdCode 8 z <;> rfl
  rw [h]
  exact rdL_bind r
theorem prg_fits {R : Nat} (hR : R ≤ 1000) {s r : List UInt8} {p : Prg} (h : rdPrg R s = some (p, r)) : Fit p ∧ Small p := by
  obtain ⟨⟨a, s1⟩, e1, e⟩ := Option.bind_eq_some_iff.1 h
  obtain ⟨⟨b, s2⟩, e2, e⟩ := Option.bind_eq_some_iff.1 e
  obtain ⟨⟨c, s3⟩, e3, e⟩ := Option.bind_eq_some_iff.1 e
  cases e
  exact fits_of hR e1 e2 e3
/-- What is read, be the registers read more or less freely, is the same: it must be a program that may be. -/
theorem getP_8 (s : List UInt8) : getP s = (rdPrg 8 s).bind fun q => if mayP q.1 then some q else none := by
  cases hg : getP s with
  | some q =>
    obtain ⟨p, r⟩ := q
    have hb := getP_back hg
    have h7 : rdPrg 7 s = some (p, r) := by
      unfold getP at hg
      obtain ⟨⟨q, r'⟩, h1, h2⟩ := Option.bind_eq_some_iff.1 hg
      simp only at h2
      split at h2
      · cases h2; exact h1
      · cases h2
    have hf := (prg_fits (by omega) h7).1
    have h8 := prg_back (mayP_iff.1 hb.1) hf.codes (R := 8) (by omega) (by omega) r
    have e : prgL p ++ r = s := by
      have := hb.2
      unfold putS at this
      rw [if_pos hb.1] at this
      exact this
    rw [e] at h8
    rw [h8]
    simp [hb.1]
  | none =>
    cases h8 : rdPrg 8 s with
    | none => rfl
    | some q =>
      obtain ⟨p, r⟩ := q
      simp only [Option.bind_some]
      cases hm : mayP p with
      | false => rfl
      | true =>
        exfalso
        have hf := (prg_fits (by omega) h8).1
        have h7 := prg_back (mayP_iff.1 hm) hf.codes (R := 7) (by omega) (by omega) r
        rw [rdPrg_sound 8 _ _ _ h8] at h7
        unfold getP at hg
        rw [h7] at hg
        simp [hm] at hg
end Go.Proofs.YtakgcienodigpaaGreat

namespace Go.Proofs.YtakgcienodigpaaGreat
open Go.RowKit Oct

set_option maxRecDepth 100000 in
set_option maxHeartbeats 12800000 in
theorem getR_any (s : List UInt8) (w : World) (hz : s.length ≤ maxLen) :
    Calls Tryz.prog 9 #[.string ⟨s.toArray⟩] w (GetEnd w (getP s)) := by
  obtain ⟨i0, hi, hz0, hz1, hz2⟩ := info_parts infoInt
  obtain ⟨l0, ki, kz0, kz1, kz2⟩ := info_parts infoSite
  obtain ⟨m0, mi, mz0, mz1, mz2⟩ := info_parts infoCode
  obtain ⟨n0, ni, nz0, nz1, nz2⟩ := info_parts infoIns
  obtain ⟨wf, hwf⟩ : ∃ wf, wf = ((w.alloc (.cells #[.slice none 0 0, .slice none 0 0, .slice none 0 0] 26)).alloc (.cells #[.string ⟨s.toArray⟩, .bool true] 73)).alloc (.cells #[.slice none 0 0, .slice none 0 0, .slice none 0 0] 26) := ⟨_, rfl⟩
  have hG : GT w wf (w.heap.size + 1) (w.heap.size + 1 + 1) s true (.slice none 0 0) (.slice none 0 0) (.slice none 0 0) ⟨[], [], []⟩ := by
    refine ⟨?_, ?_, ?_, ⟨World.ownsRow_nil _ _ _ _, ⟨[], World.ownsRow_nil _ _ _ _, by simp⟩, ⟨[], World.ownsRow_nil _ _ _ _, by simp⟩⟩, ?_, by omega, by omega⟩
    · rw [hwf]; exact Blk.alloc (blk_at (World.size_alloc _ _).symm) _
    · rw [hwf]; exact ((blk_new w _ _).alloc _).alloc _
    · rw [hwf]; exact blk_at (by simp)
    · rw [hwf]; exact ((below2 w _ _)).alloc (by simp; omega) _
  have hc := rnumR_any 6 _ s true wf hG.rd (by omega) hz
  go_enter Tryz.func9, Tryz.ntmps9
  go_wp2_with fail
  rw [← hwf]
  clear hwf
  refine hc.mono ?_
  rintro e w1 ⟨v, n, s1, b1, rfl, ⟨rfl, hn⟩, hW, hR1, hl1, hb⟩
  have hz1' : s1.length ≤ maxLen := Nat.le_trans hl1 hz
  replace hG := hG.over hb hR1
  have HK : Hid ((st true s).bind (rdPrg 8) = (st b1 s1).bind (fun r => (rdRow (rdZ 8) (n - 0) r).bind fun q => c1 ([] ++ q.1) q.2)) := Lib.hid (went_step hW (K' := fun n r => (rdRow (rdZ 8) (n - 0) r).bind fun q => c1 ([] ++ q.1) q.2) rdPrg_1)
  obtain ⟨R, hR⟩ : ∃ R, R = w.heap.size + 1 := ⟨_, rfl⟩
  obtain ⟨P, hP⟩ : ∃ P, P = w.heap.size + 1 + 1 := ⟨_, rfl⟩
  have hPs : P ≠ w.heap.size := by omega
  clear hc hb hR1 hW
  rw [← hP, ← hR] at hG
  go_wp2_with fail
  rw [← hP, ← hR]
  clear hR hP
  go_loopw [8] (fun iv wr => ∃ (k : Nat) (pre : List Int) (v1 : Value) (r : List UInt8) (j : Bool), k ≤ n ∧ iv = .int .i64 (k : Int) ∧ GT w wr R P r j v1 (.slice none 0 0) (.slice none 0 0) ⟨pre, [], []⟩ ∧ r.length ≤ s.length ∧ Hid (pre.length = k) ∧
    Hid ((st true s).bind (rdPrg 8) = (st j r).bind (fun r => (rdRow (rdZ 8) (n - k) r).bind fun q => c1 (pre ++ q.1) q.2))) (fun iv _ => n - (intOf iv).toNat)
  case atStart => exact ⟨0, [], _, s1, b1, Nat.zero_le _, rfl, hG, hl1, Lib.hid rfl, HK⟩
  case round =>
    clear HK hG hl1 hz1'
    obtain ⟨k, pre, v1, r, j, hk, rfl, hG, hlr, HL, HK⟩ := hrel
    obtain ⟨a1, g1, rfl⟩ := owns_slice hG.oo.caps
    have hzr : r.length ≤ maxLen := Nat.le_trans hlr hz
    by_cases hlt : k < n
    · have hlt' : (k : Int) < (n : Int) := by omega
      have hw2 : IntKind.i64.wrap ((k : Int) + 1) = (k : Int) + 1 := by rw [IntKind.wrap_i64]; omega
      have hc := rnumR_any 8 R r j wr hG.rd (by omega) hzr
      go_wp2_with fail
      refine hc.mono ?_
      rintro e x1 ⟨v, x, r1, j1, rfl, ⟨rfl, hx⟩, hW, hR1, gl1, hb1⟩
      replace hG := hG.over hb1 hR1
      have HK' := Lib.hid (HK.out.trans (went_step (went_map hW (g := rdZ 8) (c := fun v : Nat => (v : Int)) (fun _ => rfl)) (K' := fun x r => (rdRow (rdZ 8) (n - (k + 1)) r).bind fun q => c1 ((pre ++ [x]) ++ q.1) q.2) (row_step (C := c1) hlt)))
      have e0 := hG.pp.cell (k := 0) (v := .slice a1 pre.length g1) rfl
      have hB3 : Below x1.heap.size x1 (x1.alloc (.cells #[.int .i64 (x : Int)] 3)) := (Below.refl _ _).alloc (Nat.le_refl _) _
      have hG3 := hG.fresh hB3
      have hB := blk_new x1 3 #[.int .i64 (x : Int)]
      have hpl : pre.length ≤ 1000 := by have := HL.out; omega
      have hsx := hG.nn.size
      have hrow := hG3.oo.caps
      have hne : ∀ (j : Nat) u, ([.int .i64 (x : Int)] : List Value)[j]? = some u → (x1.alloc (.cells #[.int .i64 (x : Int)] 3)).cell? (Addr.add ⟨x1.heap.size, 0, none⟩ j) = some u := fun j u hj => by
        rw [show Addr.add ⟨x1.heap.size, 0, none⟩ j = ⟨x1.heap.size, j, none⟩ by by_cases e : j = 0 <;> simp [Addr.add, e]]
        exact hB.cell (by simpa using hj)
      clear hc hb1 hR1 hW HK
      go_wp2_with (at_builtin; refine wpList_append_own _ rfl _ _ 22 rfl w.heap.size 3 i0 (.int .i64 0) 1 8 Tryz.underlying22 hi hz0 hz1 hz2 rfl (by decide) _ _ _ rfl hrow ⟨x1.heap.size, 0, none⟩ 1 1 ([.int .i64 (x : Int)]) rfl rfl hne ?c2 ?c3 ?c4 ?c5 ?_)
      case c2 => first | rfl | (intro u hu; simp at hu; subst hu; rfl)
      case c3 => unfold maxLen; (try simp only); omega
      case c4 => omega
      case c5 => first | omega | (simp; omega)
      intro v' w4 hown' hgrow _
      obtain ⟨ga, gc, hv'⟩ := owns_slice hown'
      subst hv'
      have hG5 := hG3.caps (x : Int) hown' hgrow
      have hp4 := grown_other hrow hgrow hG3.pp (by decide)
      have d0 := hp4.cell (k := 0) (v := .slice a1 pre.length g1) rfl
      have d1 := hp4.frozen 0
      have HL' : Hid ((pre ++ [(x : Int)]).length = k + 1) := Lib.hid (by rw [List.length_append, HL.out]; rfl)
      clear hown' hgrow hrow hne hB hB3 hG3 hG e0 hp4
      go_wp2_with fail
      go_roundw
      case rel => exact ⟨k + 1, _, _, r1, j1, by omega, by go_num, hG5, by omega, HL', HK'⟩
      case measure => simp [intOf]; omega
    have hlt' : ¬ (k : Int) < (n : Int) := by omega
    have HK1 := Lib.hid (HK.out.trans (st_congr (fun z => row_stop (C := c1) hlt z)))
    clear HK hk hlt HL hn
    have hc := rnumR_any 12 R r j wr hG.rd (by omega) hzr
    go_wp2_with fail
    clear hlt'
    refine hc.mono ?_
    rintro e w2 ⟨v, n, s2, b2, rfl, ⟨rfl, hn⟩, hW, hR2, hl2, hb⟩
    replace hG := hG.over hb hR2
    have hl2' : s2.length ≤ s.length := Nat.le_trans hl2 hlr
    have HK : Hid ((st true s).bind (rdPrg 8) = (st b2 s2).bind (fun r => (rdRow (rdSite 8) (n - 0) r).bind fun q => c2 pre ([] ++ q.1) q.2)) := Lib.hid (HK1.out.trans (went_step hW (K' := fun n r => (rdRow (rdSite 8) (n - 0) r).bind fun q => c2 pre ([] ++ q.1) q.2) (c1_1 pre)))
    clear hc hb hR2 hW HK1 hl2 hlr hzr
    go_wp2_with fail
    go_loopw [10] (fun iv wr => ∃ (k : Nat) (qre : List Sit) (v3 : Value) (r : List UInt8) (j : Bool), k ≤ n ∧ iv = .int .i64 (k : Int) ∧ GT w wr R P r j (.slice a1 pre.length g1) (.slice none 0 0) v3 ⟨pre, [], qre⟩ ∧ r.length ≤ s.length ∧ Hid (qre.length = k) ∧
      Hid ((st true s).bind (rdPrg 8) = (st j r).bind (fun r => (rdRow (rdSite 8) (n - k) r).bind fun q => c2 pre (qre ++ q.1) q.2))) (fun iv _ => n - (intOf iv).toNat)
    case atStart => exact ⟨0, [], _, s2, b2, Nat.zero_le _, rfl, hG, hl2', Lib.hid rfl, HK⟩
    case round =>
      clear HK hG hl2'
      obtain ⟨k, qre, v3, r, j, hk, rfl, hG, hlr, HL, HK⟩ := hrel
      obtain ⟨a3, g3, rfl⟩ := hG.oo.sites.slice
      have hzr : r.length ≤ maxLen := Nat.le_trans hlr hz
      by_cases hlt : k < n
      · have hlt' : (k : Int) < (n : Int) := by omega
        have hw2 : IntKind.i64.wrap ((k : Int) + 1) = (k : Int) + 1 := by rw [IntKind.wrap_i64]; omega
        have hc := siteR_any R r j wr hG.rd hzr
        have hsw := hG.nn.size
        go_wp2_with fail
        refine hc.mono ?_
        rintro e x1 ⟨v, x, r1, j1, rfl, ⟨ua, uc, rfl, hu⟩, hW, hR1, gl1, hb1⟩
        replace hG := hG.over hb1 hR1
        have HK' := Lib.hid (HK.out.trans (went_step hW (K' := fun x r => (rdRow (rdSite 8) (n - (k + 1)) r).bind fun q => c2 pre ((qre ++ [x]) ++ q.1) q.2) (row_step (C := c2 pre) hlt)))
        have hu1 : OwnCases w.heap.size x1 (.slice ua x.cs.length uc) x.cs := owns_base hu hsw
        obtain ⟨W2, hW2⟩ : ∃ W2, W2 = (x1.alloc (.cells #[.slice ua x.cs.length uc, .bool x.d] 40)).alloc (.cells #[.slice ua x.cs.length uc, .bool x.d] 40) := ⟨_, rfl⟩
        have hB1 : Below x1.heap.size x1 (x1.alloc (.cells #[.slice ua x.cs.length uc, .bool x.d] 40)) := (Below.refl _ _).alloc (Nat.le_refl _) _
        have hB3 : Below x1.heap.size x1 W2 := by rw [hW2]; exact below2 x1 _ _
        have e0 := (hG.pp.later hB1 hG.pp.lt).cell (k := 2) (v := .slice a3 qre.length g3) rfl
        have e1 := (blk_new x1 40 #[.slice ua x.cs.length uc, .bool x.d]).cell (k := 0) (v := .slice ua x.cs.length uc) rfl
        have e2 := (blk_new x1 40 #[.slice ua x.cs.length uc, .bool x.d]).cell (k := 1) (v := .bool x.d) rfl
        have hG3 := hG.fresh hB3
        have hu3 := owns_fresh hu1 hB3
        have hB : Blk W2 (x1.heap.size + 1) 40 #[.slice ua x.cs.length uc, .bool x.d] := by rw [hW2]; exact blk_at (World.size_alloc _ _).symm
        have hpl : qre.length ≤ 1000 := by have := HL.out; omega
        have hsx := hG.nn.size
        obtain ⟨us, hrow, hsp⟩ := hG3.sites
        have hne : ∀ (j : Nat) u, ([.slice ua x.cs.length uc, .bool x.d] : List Value)[j]? = some u → W2.cell? (Addr.add ⟨x1.heap.size + 1, 0, none⟩ j) = some u := fun j u hj => by
          rw [show Addr.add ⟨x1.heap.size + 1, 0, none⟩ j = ⟨x1.heap.size + 1, j, none⟩ by by_cases e : j = 0 <;> simp [Addr.add, e]]
          exact hB.cell (by simpa using hj)
        have hp3 := hG3.pp
        have hrow' := hrow
        rw [hW2] at hrow' hne
        clear hc hb1 hR1 hW HK hu hu1 hB hB1 hG3 hG
        go_wp2_with (at_builtin; refine wpList_append_own _ rfl _ _ 24 rfl w.heap.size 40 l0 (.agg #[.slice none 0 0, .bool false]) 2 32 Tryz.underlying24 ki kz0 kz1 kz2 rfl (by decide) _ _ _ rfl hrow' ⟨x1.heap.size + 1, 0, none⟩ 1 1 ([.slice ua x.cs.length uc, .bool x.d]) rfl rfl hne ?c2 ?c3 ?c4 ?c5 ?_)
        case c2 => intro u hu; simp at hu; rcases hu with rfl | rfl <;> rfl
        case c3 => unfold maxLen; (try simp only); omega
        case c4 => omega
        case c5 => first | omega | (simp; omega)
        intro v' w4 hown' hgrow _
        rw [← hW2] at hgrow
        obtain ⟨ga, gc, hv'⟩ := owns_slice hown'
        subst hv'
        have hG5 := hsp _ _ _ x hu3 hown' hgrow
        have hp4 := grown_other hrow hgrow hp3 (by decide)
        have d0 := hp4.cell (k := 2) (v := .slice a3 qre.length g3) rfl
        have d1 := hp4.frozen 2
        have HL' : Hid ((qre ++ [x]).length = k + 1) := Lib.hid (by rw [List.length_append, HL.out]; rfl)
        clear hown' hgrow hrow hrow' hsp hne hB3 hu3 e0 e1 e2 hp3 hp4 hW2
        go_wp2_with fail
        go_roundw
        case rel => exact ⟨k + 1, _, _, r1, j1, by omega, by go_num, hG5, by omega, HL', HK'⟩
        case measure => simp [intOf]; omega
      have hlt' : ¬ (k : Int) < (n : Int) := by omega
      have HK1 := Lib.hid (HK.out.trans (st_congr (fun z => row_stop (C := c2 pre) hlt z)))
      clear HK hk hlt HL hn
      have hc := rnumR_any 8 R r j wr hG.rd (by omega) hzr
      go_wp2_with fail
      clear hlt'
      refine hc.mono ?_
      rintro e w3 ⟨v, n, s3, b3, rfl, ⟨rfl, hn⟩, hW, hR3, hl3, hb⟩
      replace hG := hG.over hb hR3
      have hl3' : s3.length ≤ s.length := Nat.le_trans hl3 hlr
      have HK : Hid ((st true s).bind (rdPrg 8) = (st b3 s3).bind (fun r => (rdRow (rdCode 8) (n - 0) r).bind fun q => c3 pre qre ([] ++ q.1) q.2)) := Lib.hid (HK1.out.trans (went_step hW (K' := fun n r => (rdRow (rdCode 8) (n - 0) r).bind fun q => c3 pre qre ([] ++ q.1) q.2) (c2_1 pre qre)))
      clear hc hb hR3 hW HK1 hl3 hlr hzr
      go_wp2_with fail
      go_loopw [12] (fun iv wr => ∃ (k : Nat) (ure : List (List In)) (v2 : Value) (r : List UInt8) (j : Bool), k ≤ n ∧ iv = .int .i64 (k : Int) ∧ GT w wr R P r j (.slice a1 pre.length g1) v2 (.slice a3 qre.length g3) ⟨pre, ure, qre⟩ ∧ r.length ≤ s.length ∧ Hid (ure.length = k) ∧
        Hid ((st true s).bind (rdPrg 8) = (st j r).bind (fun r => (rdRow (rdCode 8) (n - k) r).bind fun q => c3 pre qre (ure ++ q.1) q.2))) (fun iv _ => n - (intOf iv).toNat)
      case atStart => exact ⟨0, [], _, s3, b3, Nat.zero_le _, rfl, hG, hl3', Lib.hid rfl, HK⟩
      case round =>
        clear HK hG hl3'
        obtain ⟨k, ure, v2, r, j, hk, rfl, hG, hlr, HL, HK⟩ := hrel
        obtain ⟨wo, rfl⟩ : ∃ wo : World, wo = wr := ⟨_, rfl⟩
        obtain ⟨a2, g2, rfl⟩ := hG.oo.codes.slice
        have hzr : r.length ≤ maxLen := Nat.le_trans hlr hz
        by_cases hlt : k < n
        · have hlt' : (k : Int) < (n : Int) := by omega
          have hw2 : IntKind.i64.wrap ((k : Int) + 1) = (k : Int) + 1 := by rw [IntKind.wrap_i64]; omega
          have hc := rnumR_any 40 R r j wo hG.rd (by omega) hzr
          have hsw := hG.nn.size
          go_wp2_with fail
          refine hc.mono ?_
          rintro e x1 ⟨v, m, r1, j1, rfl, ⟨rfl, hm⟩, hW, hR1, gl1, hb1⟩
          have hl1 : r1.length ≤ r.length := gl1
          have H1 : Hid ((st j r).bind (rdCode 8) = (st j1 r1).bind (fun r => (rdRow (rdIns 8) (m - 0) r).bind fun q => some ([] ++ q.1, q.2))) := Lib.hid (went_step hW (K' := fun n r => (rdRow (rdIns 8) (n - 0) r).bind fun q => some ([] ++ q.1, q.2)) rdCode_1)
          have hO0 : OwnCode wo.heap.size x1 (.slice none 0 0) [] := World.ownsRow_nil _ _ _ _
          clear hc hW gl1
          go_wp2_with fail
          go_loopw [14, 15] (fun lv iv W => ∃ (q : Nat) (c : List In) (r2 : List UInt8) (j2 : Bool), q ≤ m ∧ iv = .int .i64 (q : Int) ∧ OwnCode wo.heap.size W lv c ∧ RdB W R r2 j2 ∧ But [R] wo W ∧ r2.length ≤ r.length ∧ Hid (c.length = q) ∧
            Hid ((st j r).bind (rdCode 8) = (st j2 r2).bind (fun r => (rdRow (rdIns 8) (m - q) r).bind fun z => some (c ++ z.1, z.2)))) (fun _ iv _ => m - (intOf iv).toNat)
          case atStart => exact ⟨0, [], r1, j1, Nat.zero_le _, rfl, hO0, hR1, hb1, hl1, Lib.hid rfl, H1⟩
          case round =>
            clear H1 hO0 hR1 hb1 hl1
            obtain ⟨q, c, r2, j2, hq, rfl, hO, hR2, hb2, hl2, HL2, H2⟩ := hrel
            obtain ⟨ca, cc, rfl⟩ := owns_slice hO
            have hzr2 : r2.length ≤ maxLen := Nat.le_trans hl2 hzr
            by_cases hltq : q < m
            · have hltq' : (q : Int) < (m : Int) := by omega
              have hw3 : IntKind.i64.wrap ((q : Int) + 1) = (q : Int) + 1 := by rw [IntKind.wrap_i64]; omega
              have hc := insR_any R r2 j2 wr hR2 hzr2
              go_wp2_with fail
              refine hc.mono ?_
              rintro e x2 ⟨v, x, r3, j3, rfl, rfl, hW, hR3, gl3, hb3⟩
              have hO3 := owns_but hO hR2 (by decide) hb3
              have hN3 := hb2.next hb3
              have HK2 := Lib.hid (H2.out.trans (went_step hW (K' := fun x r => (rdRow (rdIns 8) (m - (q + 1)) r).bind fun z => some ((c ++ [x]) ++ z.1, z.2)) (row_step (C := fun c r => some (c, r)) hltq)))
              obtain ⟨W2, hW2⟩ : ∃ W2, W2 = (x2.alloc (.cells #[.int .u8 (x.o : Int), .int .i64 x.a, .int .i64 x.b, .int .i64 x.c, .int .i64 x.k] 42)).alloc (.cells #[.int .u8 (x.o : Int), .int .i64 x.a, .int .i64 x.b, .int .i64 x.c, .int .i64 x.k] 42) := ⟨_, rfl⟩
              have hB4 : Below x2.heap.size x2 W2 := by rw [hW2]; exact below2 x2 _ _
              have hbx := blk_new x2 42 #[.int .u8 (x.o : Int), .int .i64 x.a, .int .i64 x.b, .int .i64 x.c, .int .i64 x.k]
              have e0 := hbx.cell (k := 0) (v := .int .u8 (x.o : Int)) rfl
              have e1 := hbx.cell (k := 1) (v := .int .i64 x.a) rfl
              have e2 := hbx.cell (k := 2) (v := .int .i64 x.b) rfl
              have e3 := hbx.cell (k := 3) (v := .int .i64 x.c) rfl
              have e4 := hbx.cell (k := 4) (v := .int .i64 x.k) rfl
              have hO4 : OwnCode wo.heap.size W2 (.slice ca c.length cc) c := owns_fresh hO3 hB4
              have hR4 : RdB W2 R r3 j3 := Blk.later hR3 hB4 (Blk.lt hR3)
              have hN4 : But [R] wo W2 := hN3.next (But.of_below hB4 _)
              have hB : Blk W2 (x2.heap.size + 1) 42 #[.int .u8 (x.o : Int), .int .i64 x.a, .int .i64 x.b, .int .i64 x.c, .int .i64 x.k] := by rw [hW2]; exact blk_at (World.size_alloc _ _).symm
              have hpl : c.length ≤ 1000 := by have := HL2.out; omega
              have hsx := hN3.size
              obtain ⟨hrow, hsp⟩ := OwnCode.split hO4
              have hne : ∀ (j : Nat) u, (In.cellsL x)[j]? = some u → W2.cell? (Addr.add ⟨x2.heap.size + 1, 0, none⟩ j) = some u := fun j u hj => by
                rw [show Addr.add ⟨x2.heap.size + 1, 0, none⟩ j = ⟨x2.heap.size + 1, j, none⟩ by by_cases e : j = 0 <;> simp [Addr.add, e]]
                exact hB.cell (by simpa [In.cellsL] using hj)
              have hrow' := hrow
              rw [hW2] at hrow' hne
              have hRl := Blk.lt hG.rd
              clear hc hb3 hR3 hW H2 hB hO hR2 hb2 hO3 hN3 hbx
              go_wp2_with (at_builtin; refine wpList_append_own _ rfl _ _ 37 rfl wo.heap.size 42 n0 (.agg #[.int .u8 0, .int .i64 0, .int .i64 0, .int .i64 0, .int .i64 0]) 5 40 Tryz.underlying37 ni nz0 nz1 nz2 rfl (by decide) _ _ _ rfl hrow' ⟨x2.heap.size + 1, 0, none⟩ 1 1 (In.cellsL x) rfl rfl hne ?c2 ?c3 ?c4 ?c5 ?_)
              case c2 => intro u hu; simp [In.cellsL] at hu; rcases hu with rfl | rfl | rfl | rfl | rfl <;> rfl
              case c3 => unfold maxLen; omega
              case c4 => omega
              case c5 => first | omega | (simp; omega)
              intro v' w4 hown' hgrow _
              rw [← hW2] at hgrow
              have hO5 := hsp _ _ x hown' hgrow
              have hB5 : Below wo.heap.size W2 w4 := grown_below hrow hgrow hN4.size
              have hR5 : RdB w4 R r3 j3 := Blk.later hR4 hB5 hRl
              have hN5 : But [R] wo w4 := but_below hN4 hB5
              have HL' : Hid ((c ++ [x]).length = q + 1) := Lib.hid (by rw [List.length_append, HL2.out]; rfl)
              clear hown' hgrow hrow hrow' hsp hne hB4 hO4 hR4 hN4 hB5 e0 e1 e2 e3 e4 hW2
              go_wp2_with fail
              go_roundw
              case rel => exact ⟨q + 1, c ++ [x], r3, j3, by omega, by go_num, hO5, hR5, hN5, by omega, HL', HK2⟩
              case measure => simp [intOf]; omega
            have hltq' : ¬ (q : Int) < (m : Int) := by omega
            have H3 := went_done (x := c) (H2.out.trans (st_congr (fun z => row_stop (C := fun c r => some (c, r)) hltq z)))
            have HK' := Lib.hid (HK.out.trans (went_step H3 (K' := fun x r => (rdRow (rdCode 8) (n - (k + 1)) r).bind fun q => c3 pre qre ((ure ++ [x]) ++ q.1) q.2) (row_step (C := c3 pre qre) hlt)))
            have hG2 := hG.over hb2 hR2
            have hu1 : OwnCode w.heap.size wr (.slice ca c.length cc) c := owns_base hO hsw
            have hB3 : Below wr.heap.size wr (wr.alloc (.cells #[.slice ca c.length cc] 37)) := (Below.refl _ _).alloc (Nat.le_refl _) _
            have e0 := hG2.pp.cell (k := 1) (v := .slice a2 ure.length g2) rfl
            have hG3 := hG2.fresh hB3
            have hu3 := owns_fresh hu1 hB3
            have hB := blk_new wr 37 #[.slice ca c.length cc]
            have hpl : ure.length ≤ 1000 := by have := HL.out; omega
            have hsx := hG2.nn.size
            obtain ⟨us, hrow, hsp⟩ := hG3.codes
            have hne : ∀ (j : Nat) u, ([.slice ca c.length cc] : List Value)[j]? = some u → (wr.alloc (.cells #[.slice ca c.length cc] 37)).cell? (Addr.add ⟨wr.heap.size, 0, none⟩ j) = some u := fun j u hj => by
              rw [show Addr.add ⟨wr.heap.size, 0, none⟩ j = ⟨wr.heap.size, j, none⟩ by by_cases e : j = 0 <;> simp [Addr.add, e]]
              exact hB.cell (by simpa using hj)
            have hp3 := hG3.pp
            clear hb2 hR2 H2 H3 HK hO hu1 hB hG3 hG2 hG HL2 hq hltq hm
            go_wp2_with (at_builtin; refine wpList_append_own _ rfl _ _ 23 rfl w.heap.size 37 m0 (.slice none 0 0) 1 24 Tryz.underlying23 mi mz0 mz1 mz2 rfl (by decide) _ _ _ rfl hrow ⟨wr.heap.size, 0, none⟩ 1 1 ([.slice ca c.length cc]) rfl rfl hne ?c2 ?c3 ?c4 ?c5 ?_)
            case c2 => first | rfl | (intro u hu; simp at hu; subst hu; rfl)
            case c3 => unfold maxLen; (try simp only); omega
            case c4 => omega
            case c5 => first | omega | (simp; omega)
            intro v' w4 hown' hgrow _
            obtain ⟨ga, gc, hv'⟩ := owns_slice hown'
            subst hv'
            have hG5 := hsp _ _ _ c hu3 hown' hgrow
            have hp4 := grown_other hrow hgrow hp3 (by decide)
            have d0 := hp4.cell (k := 1) (v := .slice a2 ure.length g2) rfl
            have d1 := hp4.frozen 1
            have HL' : Hid ((ure ++ [c]).length = k + 1) := Lib.hid (by rw [List.length_append, HL.out]; rfl)
            clear hown' hgrow hrow hsp hne hB3 hu3 e0 hp3 hp4
            go_wp2_with fail
            go_roundw
            case rel => exact ⟨k + 1, _, _, r2, j2, by omega, by go_num, hG5, by omega, HL', HK'⟩
            case measure => simp [intOf]; omega
        have hlt' : ¬ (k : Int) < (n : Int) := by omega
        have HE := Lib.hid (went_done (x := (⟨pre, ure, qre⟩ : Prg)) (HK.out.trans (st_congr (fun z => row_stop (C := c3 pre qre) hlt z))))
        clear HK hk hlt HL hn hzr
        have hcells := fun (W : World) (h : GT w W R P r j (.slice a1 pre.length g1) (.slice a2 ure.length g2) (.slice a3 qre.length g3) ⟨pre, ure, qre⟩) => h.cells
        obtain ⟨⟨c0, c1⟩, ⟨p0, p1, p2⟩, ⟨q0, q1, q2⟩, f0, f1, f2⟩ := hG.cells
        cases j with
        | false =>
          have h8 : rdPrg 8 s = none := HE.out
          have HN : Hid (getP s = none) := Lib.hid (by rw [getP_8, h8]; rfl)
          obtain ⟨W', hW', u0, u1, u2, hB, hO, -⟩ := hG.res (.slice none 0 0) (.slice none 0 0) (.slice none 0 0)
          subst hW'
          clear hcells hG hO HE h8
          go_wp2_with fail
          refine bodyPost_ret (v := .tuple #[.agg #[.slice none 0 0, .slice none 0 0, .slice none 0 0], .string ⟨#[]⟩, .int .i64 7]) (by simp [results, Tryz.f9, go_sem, u0, u1, u2]) rfl ?_
          rw [HN.out]
          exact ⟨rfl, hB⟩
        | true =>
          have h8 : rdPrg 8 s = some (⟨pre, ure, qre⟩, r) := HE.out
          obtain ⟨hf, hsm⟩ := prg_fits (by omega) h8
          have hmy := refMay11_any wo (hG.oo.at hf) hsm
          obtain ⟨m, hm⟩ : ∃ m, mayP (⟨pre, ure, qre⟩ : Prg) = m := ⟨_, rfl⟩
          rw [hm] at hmy
          have HF := Lib.hid hf
          have HS := Lib.hid hsm
          have HN : Hid (getP s = if m then some (⟨pre, ure, qre⟩, r) else none) := Lib.hid (by rw [getP_8, h8, Option.bind_some]; simp only [hm])
          clear h8 HE hm hf hsm
          go_wp2_with fail
          refine hmy.mono ?_
          rintro e w5 ⟨rfl, hb5⟩
          replace hG := hG.fresh hb5
          clear hmy hb5 c0 c1 p0 p1 p2 q0 q1 q2 f0 f1 f2
          obtain ⟨⟨c0, c1⟩, ⟨p0, p1, p2⟩, ⟨q0, q1, q2⟩, f0, f1, f2⟩ := hcells _ hG
          cases m with
          | false =>
            obtain ⟨W', hW', u0, u1, u2, hB, hO, -⟩ := hG.res (.slice none 0 0) (.slice none 0 0) (.slice none 0 0)
            subst hW'
            clear hcells hG hO
            go_wp2_with fail
            refine bodyPost_ret (v := .tuple #[.agg #[.slice none 0 0, .slice none 0 0, .slice none 0 0], .string ⟨#[]⟩, .int .i64 7]) (by simp [results, Tryz.f9, go_sem, u0, u1, u2]) rfl ?_
            have hn : getP s = none := HN.out
            rw [hn]
            exact ⟨rfl, hB⟩
          | true =>
            obtain ⟨W', hW', u0, u1, u2, hB, hO, hRd⟩ := hG.res (.slice a1 pre.length g1) (.slice a2 ure.length g2) (.slice a3 qre.length g3)
            have c0' := Blk.cell hRd (k := 0) (v := .string ⟨r.toArray⟩) rfl
            rw [hW'] at c0'
            clear hcells hG hRd
            go_wp2_with fail
            go_region
            · rw [← hW']
              obtain ⟨Wd, hD⟩ : ∃ Wd, Wd = W'.drew := ⟨_, rfl⟩
              have d0 : Wd.cell? ⟨w.heap.size, 0, none⟩ = some (.slice a1 pre.length g1) := by rw [hD]; exact u0
              have d1 : Wd.cell? ⟨w.heap.size, 1, none⟩ = some (.slice a2 ure.length g2) := by rw [hD]; exact u1
              have d2 : Wd.cell? ⟨w.heap.size, 2, none⟩ = some (.slice a3 qre.length g3) := by rw [hD]; exact u2
              have hBd : Below w.heap.size w Wd := by rw [hD]; exact hB.drew
              have hOd : OwnPrg w.heap.size Wd (.slice a1 pre.length g1) (.slice a2 ure.length g2) (.slice a3 qre.length g3) ⟨pre, ure, qre⟩ := by rw [hD]; exact hO.fresh (Below.refl _ W').drew
              rw [← hD]
              clear hD hW' hB hO u0 u1 u2 c0 c1 p0 p1 p2 q0 q1 q2 f0 f1 f2 c0'
              go_wp2_with fail
              refine bodyPost_ret (v := .tuple #[.agg #[.slice a1 pre.length g1, .slice a2 ure.length g2, .slice a3 qre.length g3], .string ⟨r.toArray⟩, .int .i64 0]) (by simp [results, Tryz.f9, go_sem, d0, d1, d2]) rfl ?_
              have hn : getP s = some (⟨pre, ure, qre⟩, r) := HN.out
              rw [hn]
              exact ⟨_, _, _, rfl, hOd.at HF.out, HF.out, HS.out, hBd⟩
end Go.Proofs.YtakgcienodigpaaGreat
