/-
  Programs as bytes: pure. What is put; what is read; that the one is the other's way back.
-/
import Derived.Test.YtakgcienodigpaaGreatGNext
import Derived.Test.YtakgcienodigpaaGreatInts
namespace Go.Proofs.YtakgcienodigpaaGreat
open Go.RowKit Oct

/-! ### The bytes -/
def fldA (o : Nat) : Bool := (namesOf o).contains 0
def fldB (o : Nat) : Bool := (namesOf o).contains 1
def fldC (o : Nat) : Bool := (namesOf o).contains 2
def fldK (o : Nat) : Bool := (namesOf o).any fun n => decide (3 ≤ n)
def numZ (v : Int) : List UInt8 := numL v.toNat
def flagL (b : Bool) : List UInt8 := numL (if b then 1 else 0)
def rowL {α : Type} (f : α → List UInt8) (l : List α) : List UInt8 := numL l.length ++ l.flatMap f
def caseL (x : Cas) : List UInt8 := flagL x.s ++ numZ (x.c + 1) ++ numZ x.v ++ numZ x.o
def siteL (x : Sit) : List UInt8 := flagL x.d ++ rowL caseL x.cs
def optL (b : Bool) (l : List UInt8) : List UInt8 := if b then l else []
def insL (x : In) : List UInt8 := numL x.o ++ optL (fldA x.o) (numZ x.a) ++ optL (fldB x.o) (numZ x.b) ++ optL (fldC x.o) (numZ (x.c + 1)) ++ optL (fldK x.o) (numL (foldN x.k))
def codeL (l : List In) : List UInt8 := rowL insL l
def prgL (p : Prg) : List UInt8 := rowL numZ p.caps ++ rowL siteL p.sites ++ rowL codeL p.codes

/-! ### What is read -/
abbrev Rd (α : Type) := List UInt8 → Option (α × List UInt8)
def rdN (m : Nat) : Rd Nat := fun s => if (getR s).2.2 = 0 ∧ (getR s).1 ≤ m then some ((getR s).1, (getR s).2.1) else none
def rdZ (m : Nat) : Rd Int := fun s => (rdN m s).map fun p => ((p.1 : Int), p.2)
def rdC : Rd Int := fun s => (rdN 6 s).map fun p => ((p.1 : Int) - 1, p.2)
def rdF : Rd Bool := fun s => (rdN 1 s).map fun p => (p.1 == 1, p.2)
def rdI : Rd Int := fun s => if (getR s).2.2 = 0 then some (backI (getR s).1, (getR s).2.1) else none
def rdRow {α : Type} (f : Rd α) : Nat → Rd (List α)
  | 0, s => some ([], s)
  | n + 1, s => (f s).bind fun p => (rdRow f n p.2).bind fun q => some (p.1 :: q.1, q.2)
def rdL {α : Type} (m : Nat) (f : Rd α) : Rd (List α) := fun s => (rdN m s).bind fun p => rdRow f p.1 p.2
def rdOpt (b : Bool) (f : Rd Int) : Rd Int := fun s => if b then f s else some (0, s)
def rdCase (R : Nat) : Rd Cas := fun s => (rdF s).bind fun a => (rdC a.2).bind fun c => (rdZ R c.2).bind fun v => (rdZ R v.2).bind fun o => some (⟨a.1, c.1, v.1, o.1⟩, o.2)
def rdSite (R : Nat) : Rd Sit := fun s => (rdF s).bind fun d => (rdL 6 (rdCase R) d.2).bind fun cs => some (⟨cs.1, d.1⟩, cs.2)
def rdIns (R : Nat) : Rd In := fun s => (rdN 10 s).bind fun o => (rdOpt (fldA o.1) (rdZ R) o.2).bind fun a => (rdOpt (fldB o.1) (rdZ R) a.2).bind fun b => (rdOpt (fldC o.1) rdC b.2).bind fun c => (rdOpt (fldK o.1) rdI c.2).bind fun k => some (⟨o.1, a.1, b.1, c.1, k.1⟩, k.2)
def rdCode (R : Nat) : Rd (List In) := rdL 40 (rdIns R)
def rdPrg (R : Nat) : Rd Prg := fun s => (rdL 6 (rdZ 8) s).bind fun a => (rdL 12 (rdSite R) a.2).bind fun b => (rdL 8 (rdCode R) b.2).bind fun c => some (⟨a.1, c.1, b.1⟩, c.2)

/-! ### What is read is put as it stood -/
def Sound {α : Type} (f : Rd α) (g : α → List UInt8) : Prop := ∀ s x r, f s = some (x, r) → g x ++ r = s
/-- What is put is read, whatever stands behind it. -/
def Full {α : Type} (f : Rd α) (g : α → List UInt8) (ok : α → Prop) : Prop := ∀ x s, ok x → f (g x ++ s) = some (x, s)

theorem rdN_some {m : Nat} {s : List UInt8} {v : Nat} {r : List UInt8} : rdN m s = some (v, r) ↔ getR s = (v, r, 0) ∧ v ≤ m := by
  unfold rdN
  split
  · rename_i h
    constructor
    · intro e
      simp only [Option.some.injEq, Prod.mk.injEq] at e
      obtain ⟨rfl, rfl⟩ := e
      exact ⟨Prod.ext rfl (Prod.ext rfl h.1), h.2⟩
    · rintro ⟨e, _⟩
      rw [e]
  · rename_i h
    constructor
    · intro e; cases e
    · rintro ⟨e, hv⟩
      exact absurd ⟨by rw [e], by rw [e]; exact hv⟩ h
theorem rdN_sound (m : Nat) : Sound (rdN m) numL := fun _ _ _ h => (getR_back (rdN_some.1 h).1).1
theorem rdN_full (m : Nat) (hm : m < 18446744073709551616) : Full (rdN m) numL (fun v => v ≤ m) := fun x s h => rdN_some.2 ⟨getR_numL (by omega) s, h⟩
theorem map_some' {α β : Type} {o : Option α} {f : α → β} {b : β} (h : o.map f = some b) : ∃ a, o = some a ∧ f a = b := Option.map_eq_some_iff.1 h
theorem rdZ_sound (m : Nat) : Sound (rdZ m) numZ := fun s x r h => by
  obtain ⟨⟨v, r'⟩, h1, h2⟩ := map_some' h
  cases h2
  simpa [numZ] using rdN_sound m _ _ _ h1
theorem rdZ_full (m : Nat) (hm : m < 18446744073709551616) : Full (rdZ m) numZ (fun v => 0 ≤ v ∧ v ≤ (m : Int)) := fun x s h => by
  obtain ⟨n, rfl⟩ := Int.eq_ofNat_of_zero_le h.1
  unfold rdZ numZ
  rw [Int.toNat_natCast, rdN_full m hm n s (by omega)]; rfl
theorem rdC_sound : Sound rdC (fun v => numZ (v + 1)) := fun s x r h => by
  obtain ⟨⟨v, r'⟩, h1, h2⟩ := map_some' h
  cases h2
  have := rdN_sound 6 _ _ _ h1
  simp only [numZ]
  rw [show ((v : Int) - 1 + 1).toNat = v by omega]; exact this
theorem rdC_full : Full rdC (fun v => numZ (v + 1)) (fun v => -1 ≤ v ∧ v ≤ 5) := fun x s h => by
  obtain ⟨n, hn⟩ : ∃ n : Nat, x + 1 = (n : Int) := ⟨(x + 1).toNat, by omega⟩
  simp only [rdC, numZ, hn]
  rw [Int.toNat_natCast, rdN_full 6 (by omega) n s (by omega)]
  simp only [Option.map_some, Option.some.injEq, Prod.mk.injEq, and_true]
  omega
theorem rdF_sound : Sound rdF flagL := fun s x r h => by
  obtain ⟨⟨v, r'⟩, h1, h2⟩ := map_some' h
  cases h2
  have h3 := (rdN_some.1 h1).2
  have := rdN_sound 1 _ _ _ h1
  unfold flagL
  rw [show (if (v == 1) = true then 1 else 0) = v by by_cases e : v = 1 <;> simp [e]; omega]; exact this
theorem rdF_full : Full rdF flagL (fun _ => True) := fun x s _ => by
  unfold rdF flagL
  rw [rdN_full 1 (by omega) _ s (by split <;> omega)]
  cases x <;> rfl
theorem rdI_some {s : List UInt8} {v : Int} {r : List UInt8} : rdI s = some (v, r) ↔ ∃ u, getR s = (u, r, 0) ∧ backI u = v := by
  unfold rdI
  split
  · rename_i h
    constructor
    · intro e
      simp only [Option.some.injEq, Prod.mk.injEq] at e
      obtain ⟨rfl, rfl⟩ := e
      exact ⟨_, Prod.ext rfl (Prod.ext rfl h), rfl⟩
    · rintro ⟨u, e, rfl⟩
      rw [e]
  · rename_i h
    constructor
    · intro e; cases e
    · rintro ⟨u, e, _⟩
      exact absurd (by rw [e]) h
theorem rdI_sound : Sound rdI (fun v => numL (foldN v)) := fun s x r h => by
  obtain ⟨u, h1, rfl⟩ := rdI_some.1 h
  simp only [foldN_backI]
  exact (getR_back h1).1
theorem rdI_full : Full rdI (fun v => numL (foldN v)) I64b := fun x s h =>
  rdI_some.2 ⟨foldN x, getR_numL (foldN_lt h.1 h.2) s, backI_foldN x⟩
theorem rdRow_sound {α : Type} {f : Rd α} {g : α → List UInt8} (h : Sound f g) (n : Nat) : ∀ s l r, rdRow f n s = some (l, r) → l.length = n ∧ l.flatMap g ++ r = s := by
  induction n with
  | zero => intro s l r e; cases e; exact ⟨rfl, rfl⟩
  | succ n ih =>
    intro s l r e
    obtain ⟨⟨x, s'⟩, e1, e⟩ := Option.bind_eq_some_iff.1 e
    obtain ⟨⟨l', s''⟩, e2, e⟩ := Option.bind_eq_some_iff.1 e
    cases e
    obtain ⟨h1, h2⟩ := ih _ _ _ e2
    refine ⟨by simp [h1], ?_⟩
    rw [List.flatMap_cons, List.append_assoc, h2]
    exact h _ _ _ e1
theorem rdRow_full {α : Type} {f : Rd α} {g : α → List UInt8} {ok : α → Prop} (h : Full f g ok) (l : List α) (s : List UInt8) (hl : ∀ x ∈ l, ok x) : rdRow f l.length (l.flatMap g ++ s) = some (l, s) := by
  induction l with
  | nil => rfl
  | cons x t ih =>
    rw [List.flatMap_cons, List.append_assoc]
    simp only [List.length_cons, rdRow]
    rw [h x _ (hl x (by simp))]
    simp only [Option.bind_some]
    rw [ih (fun y hy => hl y (by simp [hy]))]; rfl
theorem rdL_sound {α : Type} {f : Rd α} {g : α → List UInt8} (h : Sound f g) (m : Nat) : Sound (rdL m f) (rowL g) := fun s l r e => by
  obtain ⟨⟨n, s'⟩, e1, e⟩ := Option.bind_eq_some_iff.1 e
  obtain ⟨h1, h2⟩ := rdRow_sound h _ _ _ _ e
  unfold rowL
  rw [h1, List.append_assoc, h2]
  exact rdN_sound _ _ _ _ e1
theorem rdL_full {α : Type} {f : Rd α} {g : α → List UInt8} {ok : α → Prop} (h : Full f g ok) (m : Nat) (hm : m < 18446744073709551616) : Full (rdL m f) (rowL g) (fun l => l.length ≤ m ∧ ∀ x ∈ l, ok x) := fun l s hl => by
  unfold rdL rowL
  rw [List.append_assoc, rdN_full m hm _ _ hl.1]
  exact rdRow_full h l s hl.2
theorem opt_sound {f : Rd Int} {g : Int → List UInt8} (b : Bool) (h : Sound f g) : Sound (rdOpt b f) (fun v => optL b (g v)) := fun s x r e => by
  cases b
  · cases e; rfl
  · exact h _ _ _ e
theorem opt_full {f : Rd Int} {g : Int → List UInt8} {ok : Int → Prop} (b : Bool) (h : Full f g ok) : Full (rdOpt b f) (fun v => optL b (g v)) (fun v => if b then ok v else v = 0) := fun x s e => by
  cases b
  · simp at e; subst e; rfl
  · exact h _ _ e
theorem rdCase_sound (R : Nat) : Sound (rdCase R) caseL := fun s x r e => by
  obtain ⟨⟨a, s1⟩, e1, e⟩ := Option.bind_eq_some_iff.1 e
  obtain ⟨⟨c, s2⟩, e2, e⟩ := Option.bind_eq_some_iff.1 e
  obtain ⟨⟨v, s3⟩, e3, e⟩ := Option.bind_eq_some_iff.1 e
  obtain ⟨⟨o, s4⟩, e4, e⟩ := Option.bind_eq_some_iff.1 e
  cases e
  have h1 := rdF_sound _ _ _ e1
  have h2 := rdC_sound _ _ _ e2
  have h3 := rdZ_sound _ _ _ _ e3
  have h4 := rdZ_sound _ _ _ _ e4
  simp only [caseL, List.append_assoc] at *
  rw [h4, h3, h2, h1]
structure CasMay (R : Nat) (x : Cas) : Prop where
  c : -1 ≤ x.c ∧ x.c ≤ 5
  v : 0 ≤ x.v ∧ x.v ≤ (R : Int)
  o : 0 ≤ x.o ∧ x.o ≤ (R : Int)
theorem rdCase_full (R : Nat) (hR : R < 18446744073709551616) : Full (rdCase R) caseL (CasMay R) := fun x s h => by
  simp only [caseL, List.append_assoc, rdCase]
  rw [rdF_full _ _ trivial]; simp only [Option.bind_some]
  rw [rdC_full _ _ h.c]; simp only [Option.bind_some]
  rw [rdZ_full R hR _ _ h.v]; simp only [Option.bind_some]
  rw [rdZ_full R hR _ _ h.o]; rfl
theorem rdSite_sound (R : Nat) : Sound (rdSite R) siteL := fun s x r e => by
  obtain ⟨⟨a, s1⟩, e1, e⟩ := Option.bind_eq_some_iff.1 e
  obtain ⟨⟨c, s2⟩, e2, e⟩ := Option.bind_eq_some_iff.1 e
  cases e
  have h1 := rdF_sound _ _ _ e1
  have h2 := rdL_sound (rdCase_sound R) _ _ _ _ e2
  simp only [siteL, List.append_assoc] at *
  rw [h2, h1]
def SitMay (R : Nat) (x : Sit) : Prop := x.cs.length ≤ 6 ∧ ∀ y ∈ x.cs, CasMay R y
theorem rdSite_full (R : Nat) (hR : R < 18446744073709551616) : Full (rdSite R) siteL (SitMay R) := fun x s h => by
  simp only [siteL, List.append_assoc, rdSite]
  rw [rdF_full _ _ trivial]; simp only [Option.bind_some]
  rw [rdL_full (rdCase_full R hR) 6 (by omega) _ _ h]; rfl
theorem rdIns_sound (R : Nat) : Sound (rdIns R) insL := fun s x r e => by
  obtain ⟨⟨o, s1⟩, e1, e⟩ := Option.bind_eq_some_iff.1 e
  obtain ⟨⟨a, s2⟩, e2, e⟩ := Option.bind_eq_some_iff.1 e
  obtain ⟨⟨b, s3⟩, e3, e⟩ := Option.bind_eq_some_iff.1 e
  obtain ⟨⟨c, s4⟩, e4, e⟩ := Option.bind_eq_some_iff.1 e
  obtain ⟨⟨k, s5⟩, e5, e⟩ := Option.bind_eq_some_iff.1 e
  cases e
  have h1 := rdN_sound _ _ _ _ e1
  have h2 := opt_sound _ (rdZ_sound _) _ _ _ e2
  have h3 := opt_sound _ (rdZ_sound _) _ _ _ e3
  have h4 := opt_sound _ rdC_sound _ _ _ e4
  have h5 := opt_sound _ rdI_sound _ _ _ e5
  simp only [insL, List.append_assoc] at *
  rw [h5, h4, h3, h2, h1]
structure InMay (R : Nat) (x : In) : Prop where
  o : x.o ≤ 10
  a : if fldA x.o then 0 ≤ x.a ∧ x.a ≤ (R : Int) else x.a = 0
  b : if fldB x.o then 0 ≤ x.b ∧ x.b ≤ (R : Int) else x.b = 0
  c : if fldC x.o then -1 ≤ x.c ∧ x.c ≤ 5 else x.c = 0
  k : if fldK x.o then I64b x.k else x.k = 0
theorem rdIns_full (R : Nat) (hR : R < 18446744073709551616) : Full (rdIns R) insL (InMay R) := fun x s h => by
  simp only [insL, List.append_assoc, rdIns]
  rw [rdN_full 10 (by omega) _ _ h.o]; simp only [Option.bind_some]
  rw [opt_full _ (rdZ_full R hR) _ _ h.a]; simp only [Option.bind_some]
  rw [opt_full _ (rdZ_full R hR) _ _ h.b]; simp only [Option.bind_some]
  rw [opt_full _ rdC_full _ _ h.c]; simp only [Option.bind_some]
  rw [opt_full _ rdI_full _ _ h.k]; rfl
theorem rdCode_sound (R : Nat) : Sound (rdCode R) codeL := rdL_sound (rdIns_sound R) 40
def CodeMay (R : Nat) (l : List In) : Prop := l.length ≤ 40 ∧ ∀ x ∈ l, InMay R x
theorem rdCode_full (R : Nat) (hR : R < 18446744073709551616) : Full (rdCode R) codeL (CodeMay R) := rdL_full (rdIns_full R hR) 40 (by omega)
theorem rdPrg_sound (R : Nat) : Sound (rdPrg R) prgL := fun s x r e => by
  obtain ⟨⟨a, s1⟩, e1, e⟩ := Option.bind_eq_some_iff.1 e
  obtain ⟨⟨b, s2⟩, e2, e⟩ := Option.bind_eq_some_iff.1 e
  obtain ⟨⟨c, s3⟩, e3, e⟩ := Option.bind_eq_some_iff.1 e
  cases e
  have h1 := rdL_sound (rdZ_sound 8) _ _ _ _ e1
  have h2 := rdL_sound (rdSite_sound R) _ _ _ _ e2
  have h3 := rdL_sound (rdCode_sound R) _ _ _ _ e3
  simp only [prgL, List.append_assoc] at *
  rw [h3, h2, h1]
structure PrgMay (R : Nat) (p : Prg) : Prop where
  caps : p.caps.length ≤ 6 ∧ ∀ x ∈ p.caps, 0 ≤ x ∧ x ≤ ((8 : Nat) : Int)
  sites : p.sites.length ≤ 12 ∧ ∀ x ∈ p.sites, SitMay R x
  codes : p.codes.length ≤ 8 ∧ ∀ x ∈ p.codes, CodeMay R x
theorem rdPrg_full (R : Nat) (hR : R < 18446744073709551616) : Full (rdPrg R) prgL (PrgMay R) := fun p s h => by
  simp only [prgL, List.append_assoc, rdPrg]
  rw [rdL_full (rdZ_full 8 (by omega)) 6 (by omega) _ _ h.caps]; simp only [Option.bind_some]
  rw [rdL_full (rdSite_full R hR) 12 (by omega) _ _ h.sites]; simp only [Option.bind_some]
  rw [rdL_full (rdCode_full R hR) 8 (by omega) _ _ h.codes]; rfl

/-! ### A program that may be -/
theorem may_sites {p : Prg} (h : checkW p = none) : p.sites.length ≤ 12 ∧ ∀ x ∈ p.sites, 1 ≤ x.cs.length ∧ x.cs.length ≤ 6 ∧ ∀ y ∈ x.cs, mayCaseB p.caps.length y = true := by
  obtain ⟨_, h2, _, _⟩ := check_parts h
  unfold sitesW at h2
  obtain ⟨h3, h4⟩ := or_none h2
  refine ⟨by simpa using wrongIf_none h3, fun x hx => ?_⟩
  obtain ⟨j, hj⟩ := List.mem_iff_getElem?.1 hx
  have := firstI_none.1 h4 j x hj
  unfold siteW at this
  obtain ⟨h5, h6⟩ := or_none this
  have h5 := wrongIf_none h5
  unfold withinB at h5
  simp at h5
  refine ⟨by omega, by omega, fun y hy => ?_⟩
  obtain ⟨i, hi⟩ := List.mem_iff_getElem?.1 hy
  exact wrongIf_none (firstI_none.1 h6 i y hi)
theorem may_caps {p : Prg} (h : checkW p = none) : p.caps.length ≤ 6 ∧ ∀ x ∈ p.caps, 0 ≤ x ∧ x ≤ 8 := by
  obtain ⟨h1, _, _, _⟩ := check_parts h
  unfold chansW at h1
  obtain ⟨h3, h4⟩ := or_none h1
  refine ⟨by simpa using wrongIf_none h3, fun x hx => ?_⟩
  obtain ⟨j, hj⟩ := List.mem_iff_getElem?.1 hx
  have := wrongIf_none (firstI_none.1 h4 j x hj)
  unfold withinB at this
  simpa using this
theorem may_codes {p : Prg} (h : checkW p = none) : p.codes.length ≤ 8 ∧ ∀ c ∈ p.codes, c.length ≤ 40 ∧ ∀ x ∈ c, checkB x p.caps.length p.sites.length p.codes.length c.length = true := by
  obtain ⟨_, _, h3, _⟩ := check_parts h
  unfold codesW at h3
  obtain ⟨h4, h5⟩ := or_none h3
  have h4 := wrongIf_none h4
  unfold withinB at h4
  simp at h4
  refine ⟨by omega, fun c hc => ?_⟩
  obtain ⟨j, hj⟩ := List.mem_iff_getElem?.1 hc
  have := firstI_none.1 h5 j c hj
  unfold codeW at this
  obtain ⟨h6, h7⟩ := or_none this
  have h6 := wrongIf_none h6
  unfold withinB at h6
  simp at h6
  refine ⟨by omega, fun x hx => ?_⟩
  obtain ⟨i, hi⟩ := List.mem_iff_getElem?.1 hx
  exact wrongIf_none (firstI_none.1 h7 i x hi)
theorem fold_true {f : Bool → Nat × Int → Bool} (hf : ∀ b q, f b q = true → b = true) (ps : List (Nat × Int)) (b : Bool) (h : ps.foldl f b = true) : b = true := by
  induction ps generalizing b with
  | nil => exact h
  | cons q t ih => exact hf _ _ (ih _ h)
theorem check_okI {x : In} {a b c d : Int} (h : checkB x a b c d = true) : okI x = true :=
  fold_true (fun b q h => by unfold checkStep at h; simp at h; exact h.1) _ _ h
theorem check_known {x : In} {a b c d : Int} (h : checkB x a b c d = true) : 1 ≤ x.o ∧ x.o ≤ 10 := by
  have := check_okI h
  unfold okI at this
  rw [Bool.and_eq_true] at this
  exact known_iff.1 this.1
theorem in_may {x : In} (hx : x.ok) {n b c d : Int} (hn : n ≤ 6) (h : checkB x n b c d = true) {R : Nat} (hR : 7 ≤ R) : InMay R x := by
  have ho := check_known h
  have hk := check_okI h
  obtain ⟨o, xa, xb, xc, xk⟩ := x
  have hbare : bareOf ⟨o, xa, xb, xc, xk⟩ = ⟨o, xa, xb, xc, xk⟩ := by
    unfold okI at hk
    rw [Bool.and_eq_true] at hk
    exact In.eq_iff.1 hk.2
  have hkk := hx.k
  simp only at ho hkk
  have : o = 1 ∨ o = 2 ∨ o = 3 ∨ o = 4 ∨ o = 5 ∨ o = 6 ∨ o = 7 ∨ o = 8 ∨ o = 9 ∨ o = 10 := by omega
  have hR' : (7 : Int) ≤ (R : Int) := by omega
  rcases this with rfl | rfl | rfl | rfl | rfl | rfl | rfl | rfl | rfl | rfl <;>
    simp [bareOf, bareStep, pairs, namesOf, In.get, In.put, In.only] at hbare <;>
    simp [checkB, pairs, namesOf, In.get, checkStep, mayB, belowB] at h <;>
    refine ⟨?_, ?_, ?_, ?_, ?_⟩ <;> simp [fldA, fldB, fldC, fldK, namesOf] <;> first | exact hkk | omega
theorem prg_may {p : Prg} (h : checkW p = none) (hok : ∀ c ∈ p.codes, ∀ x ∈ c, x.ok) {R : Nat} (hR : 7 ≤ R) : PrgMay R p := by
  obtain ⟨h1, h2⟩ := may_caps h
  obtain ⟨h3, h4⟩ := may_sites h
  obtain ⟨h5, h6⟩ := may_codes h
  refine ⟨⟨h1, fun x hx => by have := h2 x hx; omega⟩, ⟨h3, fun x hx => ⟨(h4 x hx).2.1, fun y hy => ?_⟩⟩, ⟨h5, fun c hc => ⟨(h6 c hc).1, fun x hx => in_may (hok c hc x hx) (by omega) ((h6 c hc).2 x hx) hR⟩⟩⟩
  have := (h4 x hx).2.2 y hy
  unfold mayCaseB withinB at this
  simp at this
  exact ⟨by omega, by omega, by omega⟩
/-- A program that may be is read of its bytes, whatever stands behind them. -/
theorem prg_back {p : Prg} (h : checkW p = none) (hok : ∀ c ∈ p.codes, ∀ x ∈ c, x.ok) {R : Nat} (hR : 7 ≤ R) (hR' : R < 18446744073709551616) (s : List UInt8) : rdPrg R (prgL p ++ s) = some (p, s) :=
  rdPrg_full R hR' p s (prg_may h hok hR)
theorem prg_apart {p q : Prg} (hp : checkW p = none) (hq : checkW q = none) (okp : ∀ c ∈ p.codes, ∀ x ∈ c, x.ok) (okq : ∀ c ∈ q.codes, ∀ x ∈ c, x.ok) {s t : List UInt8} (h : prgL p ++ s = prgL q ++ t) : p = q ∧ s = t := by
  have h1 := prg_back hp okp (R := 7) (by omega) (by omega) s
  rw [h, prg_back hq okq (R := 7) (by omega) (by omega) t] at h1
  simp only [Option.some.injEq, Prod.mk.injEq] at h1
  exact ⟨h1.1.symm, h1.2.symm⟩
end Go.Proofs.YtakgcienodigpaaGreat
