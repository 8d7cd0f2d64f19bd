/-
  The walks of need, next, readerOf's closures, and of what reads one number: what is read, or that reading ends.
-/
import Derived.Test.YtakgcienodigpaaGreatKMap
namespace Go.Proofs.YtakgcienodigpaaGreat
open Go.RowKit Oct

/-- The variable that has what is not read yet. -/
def StrB (W : World) (B : Nat) (s : List UInt8) : Prop := Blk W B 9 #[.string ⟨s.toArray⟩]
/-- What a reader stands on: the box of where it reads, the bytes, the namer. -/
structure Rdr (W : World) (pb Bs kb M : Nat) (s : List UInt8) : Prop where
  pp : Blk W pb 63 #[.pointer (some ⟨Bs, 0, none⟩)]
  st : StrB W Bs s
  nm : Nmr W kb M
  sz : s.length ≤ maxLen
theorem Rdr.later {W W' : World} {pb Bs kb M n : Nat} {s : List UInt8} (h : Rdr W pb Bs kb M s) (hb : Below n W W') (hn : W.heap.size ≤ n) : Rdr W' pb Bs kb M s :=
  ⟨(hb.block pb (Nat.lt_of_lt_of_le h.pp.lt hn)).trans h.pp, (hb.block Bs (Nat.lt_of_lt_of_le h.st.lt hn)).trans h.st, h.nm.later hb (Nat.lt_of_lt_of_le h.nm.lt.1 hn) (Nat.lt_of_lt_of_le h.nm.lt.2 hn), h.sz⟩
/-- Nothing but where it reads, and what the namer knows, is turned. -/
abbrev RBut (Bs M : Nat) (W W' : World) : Prop := But [Bs, M] W W'
def GetPost {α : Type} (w : World) (pb Bs kb M : Nat) (res : World → Value → α → Prop) (o : Option (α × List UInt8)) (e : Ending) (w' : World) : Prop :=
  match o with
  | some (x, r) => ∃ v, e = .returned v ∧ res w' v x ∧ RBut Bs M w w' ∧ Rdr w' pb Bs kb M r
  | none => e = .panicked [{ v := .iface 55 (.agg #[]), recovered := false }] ∧ RBut Bs M w w' ∧ ∃ s', StrB w' Bs s'
section
variable {α : Type} {w : World} {pb Bs kb M : Nat} {res : World → Value → α → Prop} {f : FuncId} {args : Array Value} {o : Option (α × List UInt8)}
theorem get_ok {x : α} {r : List UInt8} (h : Calls Tryz.prog f args w (GetPost w pb Bs kb M res o)) (ho : o = some (x, r)) : Calls Tryz.prog f args w fun e w' => ∃ v, e = .returned v ∧ res w' v x ∧ RBut Bs M w w' ∧ Rdr w' pb Bs kb M r := by
  subst ho; exact h
theorem get_bad (h : Calls Tryz.prog f args w (GetPost w pb Bs kb M res o)) (ho : o = none) : Calls Tryz.prog f args w fun e w' => e = .panicked [{ v := .iface 55 (.agg #[]), recovered := false }] ∧ RBut Bs M w w' ∧ ∃ s', StrB w' Bs s' := by
  subst ho; exact h
theorem post_ok {x : α} {r : List UInt8} {w' : World} {v : Value} (ho : o = some (x, r)) (h1 : res w' v x) (h2 : RBut Bs M w w') (h3 : Rdr w' pb Bs kb M r) : GetPost w pb Bs kb M res o (.returned v) w' := by
  subst ho; exact ⟨v, rfl, h1, h2, h3⟩
theorem post_bad {w' : World} {s' : List UInt8} (ho : o = none) (h2 : RBut Bs M w w') (h3 : StrB w' Bs s') : GetPost w pb Bs kb M res o (.panicked [{ v := .iface 55 (.agg #[]), recovered := false }]) w' := by
  subst ho; exact ⟨rfl, h2, s', h3⟩
end

theorem cneed_true (w : World) : Calls Tryz.prog 30 #[.bool true] w fun e w' => e = .returned (.tuple #[]) ∧ w' = w := by
  go_enter Tryz.func30, Tryz.ntmps30
  go_wp2_with fail
  go_end0
  exact ⟨rfl, rfl⟩
theorem cneed_false (w : World) : Calls Tryz.prog 30 #[.bool false] w fun e w' => e = .panicked [{ v := .iface 55 (.agg #[]), recovered := false }] ∧ w' = w := by
  go_enter Tryz.func30, Tryz.ntmps30
  go_wp2_with fail
  exact ⟨rfl, rfl, rfl⟩

/-! ### One number -/
theorem strB_set {W : World} {B : Nat} {s : List UInt8} (h : StrB W B s) (r : List UInt8) : StrB (W.setCell ⟨B, 0, none⟩ (.string ⟨r.toArray⟩)) B r := h.set 0 _
theorem bytes_of (s : List UInt8) : (⟨s.toArray⟩ : ByteArray).data.toList = s := by simp
theorem size_of (s : List UInt8) : (⟨s.toArray⟩ : ByteArray).size = s.length := by show s.toArray.size = _; simp

set_option maxRecDepth 100000 in
theorem next64_ok (Bs u : Nat) (s r : List UInt8) (w : World) (hS : StrB w Bs s) (hs : s.length ≤ maxLen) (hg : getR s = (u, r, 0)) :
    Calls Tryz.prog 56 #[.pointer (some ⟨Bs, 0, none⟩), .func (.func 57) #[] #[]] w fun e w' => e = .returned (.int .u64 (u : Int)) ∧ StrB w' Bs r ∧ But [Bs] w w' := by
  have hc := hS.cell (k := 0) rfl
  have hget := get_at (u := u) (r := r) (e := 0) ⟨s.toArray⟩ w (by rw [size_of]; exact hs) (Lib.hid (by rw [bytes_of]; exact hg))
  simp only [Int.natCast_zero] at hget
  have hnt := fun W => cneed_true W
  clear hg
  go_enter Tryz.func56, Tryz.ntmps56
  go_wp2_with fail
  refine hget.mono ?_
  rintro e w1 ⟨rfl, hb1⟩
  have hS1 : StrB w1 Bs s := keepK hb1 hS
  have hc1 := hS1.cell (k := 0) rfl
  have hf1 := hS1.frozen 0
  have hS2 := strB_set hS1 r
  have hbt : But [Bs] w (w1.setCell ⟨Bs, 0, none⟩ (.string ⟨r.toArray⟩)) := (But.of_below hb1 [Bs]).set (p := ⟨Bs, 0, none⟩) (.inl (by simp)) _
  clear hget hS hb1 hS1
  go_wp2_with (go_at_call 30; refine (hnt _).mono ?_; rintro e w2 ⟨rfl, rfl⟩)
  go_ret
  exact ⟨rfl, hS2, hbt⟩
set_option maxRecDepth 100000 in
theorem next64_bad (Bs u n : Nat) (s r : List UInt8) (w : World) (hS : StrB w Bs s) (hs : s.length ≤ maxLen) (hg : getR s = (u, r, n)) (hn : n ≠ 0) :
    Calls Tryz.prog 56 #[.pointer (some ⟨Bs, 0, none⟩), .func (.func 57) #[] #[]] w fun e w' => e = .panicked [{ v := .iface 55 (.agg #[]), recovered := false }] ∧ StrB w' Bs s ∧ But [Bs] w w' := by
  have hc := hS.cell (k := 0) rfl
  have hget := get_at (u := u) (r := r) (e := n) ⟨s.toArray⟩ w (by rw [size_of]; exact hs) (Lib.hid (by rw [bytes_of]; exact hg))
  have hnt := fun W => cneed_false W
  have hn' : ((n : Int) == 0) = false := by simp; omega
  clear hg hn
  go_enter Tryz.func56, Tryz.ntmps56
  go_wp2_with fail
  refine hget.mono ?_
  rintro e w1 ⟨rfl, hb1⟩
  have hS1 : StrB w1 Bs s := keepK hb1 hS
  have hbt : But [Bs] w w1 := But.of_below hb1 [Bs]
  clear hget hS hb1
  go_wp2_with (go_at_call 30; refine (hnt _).mono ?_; rintro e w2 ⟨rfl, rfl⟩)
  exact ⟨rfl, rfl, hS1, hbt⟩
set_option maxRecDepth 100000 in
theorem nextI_ok (Bs u : Nat) (s r : List UInt8) (w : World) (hS : StrB w Bs s) (hs : s.length ≤ maxLen) (hg : getR s = (u, r, 0)) :
    Calls Tryz.prog 59 #[.pointer (some ⟨Bs, 0, none⟩), .func (.func 60) #[] #[]] w fun e w' => e = .returned (.int .i64 (backI u)) ∧ StrB w' Bs r ∧ But [Bs] w w' := by
  have hc := hS.cell (k := 0) rfl
  have hget : Calls Tryz.prog 60 #[.string ⟨s.toArray⟩] w fun x w' => x = .returned (.tuple #[.int .i64 (backI u), .string ⟨r.toArray⟩, .int .i64 0]) ∧ Below w.heap.size w w' := by
    have := getInt_any ⟨s.toArray⟩ w (by rw [size_of]; exact hs)
    rw [bytes_of] at this
    unfold GetIntV at this
    rw [hg] at this
    exact this
  have hnt := fun W => cneed_true W
  clear hg
  go_enter Tryz.func59, Tryz.ntmps59
  go_wp2_with fail
  refine hget.mono ?_
  rintro e w1 ⟨rfl, hb1⟩
  have hS1 : StrB w1 Bs s := keepK hb1 hS
  have hc1 := hS1.cell (k := 0) rfl
  have hf1 := hS1.frozen 0
  have hS2 := strB_set hS1 r
  have hbt : But [Bs] w (w1.setCell ⟨Bs, 0, none⟩ (.string ⟨r.toArray⟩)) := (But.of_below hb1 [Bs]).set (p := ⟨Bs, 0, none⟩) (.inl (by simp)) _
  clear hget hS hb1 hS1
  go_wp2_with (go_at_call 30; refine (hnt _).mono ?_; rintro e w2 ⟨rfl, rfl⟩)
  go_ret
  exact ⟨rfl, hS2, hbt⟩
set_option maxRecDepth 100000 in
theorem nextI_bad (Bs u n : Nat) (s r : List UInt8) (w : World) (hS : StrB w Bs s) (hs : s.length ≤ maxLen) (hg : getR s = (u, r, n)) (hn : n ≠ 0) :
    Calls Tryz.prog 59 #[.pointer (some ⟨Bs, 0, none⟩), .func (.func 60) #[] #[]] w fun e w' => e = .panicked [{ v := .iface 55 (.agg #[]), recovered := false }] ∧ StrB w' Bs s ∧ But [Bs] w w' := by
  have hc := hS.cell (k := 0) rfl
  have hget : Calls Tryz.prog 60 #[.string ⟨s.toArray⟩] w fun x w' => x = .returned (.tuple #[.int .i64 (backI u), .string ⟨r.toArray⟩, .int .i64 (n : Int)]) ∧ Below w.heap.size w w' := by
    have := getInt_any ⟨s.toArray⟩ w (by rw [size_of]; exact hs)
    rw [bytes_of] at this
    unfold GetIntV at this
    rw [hg] at this
    exact this
  have hnt := fun W => cneed_false W
  have hn' : ((n : Int) == 0) = false := by simp; omega
  clear hg hn
  go_enter Tryz.func59, Tryz.ntmps59
  go_wp2_with fail
  refine hget.mono ?_
  rintro e w1 ⟨rfl, hb1⟩
  have hS1 : StrB w1 Bs s := keepK hb1 hS
  have hbt : But [Bs] w w1 := But.of_below hb1 [Bs]
  clear hget hS hb1
  go_wp2_with (go_at_call 30; refine (hnt _).mono ?_; rintro e w2 ⟨rfl, rfl⟩)
  exact ⟨rfl, rfl, hS1, hbt⟩
end Go.Proofs.YtakgcienodigpaaGreat
