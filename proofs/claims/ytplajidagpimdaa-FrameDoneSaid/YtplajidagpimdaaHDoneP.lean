/-
  What Done comes to; pure.
-/
import Derived.Test.YtplajidagpimdaaHRefC
namespace Go.Proofs.Ytplajidagpimdaa
open Go.RowKit

def noRec : Cas := ⟨true, 0, 0, 0⟩
def chosenF (s : Sit) (k : Int) : Option Cas :=
  if 0 ≤ k ∧ k < (s.cs.length : Int) then s.cs[k.toNat]? else if k = (s.cs.length : Int) ∧ s.d = true then some noRec else none
def servedF (p : Prg) (x : In) (k : Int) : Option Cas :=
  if x.o = 8 then (p.sites[x.k.toNat]?).bind (fun s => chosenF s k)
  else if k = -1 then some (if x.o = 6 then ⟨false, x.c, x.a, x.b⟩ else noRec) else none
/-- The frame behind a case: its receipt, its number, its place. -/
def recF (c : Cas) (f : Fra) (v : Int) (ok : Bool) : Fra := if c.s then f else (f.put c.v.toNat v).put c.o.toNat (if ok then 1 else 0)
def numF (x : In) (f : Fra) (k : Int) : Fra := if x.o = 8 then f.put x.b.toNat k else f
def pcF (x : In) (f : Fra) : Fra := if x.o = 10 then f else f.goto (f.p + 1)
def doneG (c : Cas) (x : In) (f : Fra) (k v : Int) (ok : Bool) : Fra := pcF x (numF x (recF c f v ok) k)
def doneF (p : Prg) (f : Fra) (k v : Int) (ok : Bool) : Fra × Int := match atF p f with
  | none => (Fra.zero, 2)
  | some x => if locO x.o then (Fra.zero, 8) else match servedF p x k with
    | none => (Fra.zero, 2)
    | some c => (doneG c x f k v ok, 0)

section
variable {p : Prg} {f : Fra} {x : In}
theorem recF_c (c : Cas) (f : Fra) (v : Int) (ok : Bool) : (recF c f v ok).c = f.c := by unfold recF; split; rfl; rw [put_c, put_c]
theorem recF_p (c : Cas) (f : Fra) (v : Int) (ok : Bool) : (recF c f v ok).p = f.p := by unfold recF; split; rfl; rw [put_p, put_p]
theorem numF_c (x : In) (f : Fra) (k : Int) : (numF x f k).c = f.c := by unfold numF; split; rw [put_c]; rfl
theorem numF_p (x : In) (f : Fra) (k : Int) : (numF x f k).p = f.p := by unfold numF; split; rw [put_p]; rfl
theorem pcF_c (x : In) (f : Fra) : (pcF x f).c = f.c := by unfold pcF; split <;> rfl
theorem doneG_c (c : Cas) (x : In) (f : Fra) (k v : Int) (ok : Bool) : (doneG c x f k v ok).c = f.c := by unfold doneG; rw [pcF_c, numF_c, recF_c]
theorem doneG_p (c : Cas) (x : In) (f : Fra) (k v : Int) (ok : Bool) : (doneG c x f k v ok).p = if x.o = 10 then f.p else f.p + 1 := by
  unfold doneG pcF
  split
  · rw [numF_p, recF_p]
  · show (numF x (recF c f v ok) k).p + 1 = _; rw [numF_p, recF_p]
theorem at_site (h : checkW p = none) (hx : atF p f = some x) (ho : x.o = 8) : 0 ≤ x.k ∧ x.k < (p.sites.length : Int) := by
  obtain ⟨m, n, c, _, _, hc, hn⟩ := atF_parts hx
  have := may_ins h hc hn
  obtain ⟨o, xa, xb, xc, xk⟩ := x
  simp only at ho
  subst ho
  simp [checkB, okI, bareOf, bareStep, In.put, In.only, In.eq, known, pairs, namesOf, In.get, checkStep, mayB, belowB] at this ⊢
  omega
theorem site_cases (h : checkW p = none) {n : Nat} {s : Sit} (hs : p.sites[n]? = some s) : ∀ c ∈ s.cs, (0 ≤ c.v ∧ c.v < 8) ∧ (0 ≤ c.o ∧ c.o < 8) := by
  have h2 := (check_parts h).2.1
  unfold sitesW at h2
  have h3 := firstI_none.1 (or_none h2).2 n s hs
  unfold siteW at h3
  intro c hc
  obtain ⟨j, hj, rfl⟩ := List.mem_iff_getElem.1 hc
  have := wrongIf_none (firstI_none.1 (or_none h3).2 j _ (List.getElem?_eq_getElem hj))
  unfold mayCaseB withinB at this
  simp at this
  omega
theorem served_regs (h : checkW p = none) (hx : atF p f = some x) {k : Int} {c : Cas} (hc : servedF p x k = some c) : (0 ≤ c.v ∧ c.v < 8) ∧ (0 ≤ c.o ∧ c.o < 8) := by
  have hr := at_regs h hx
  unfold servedF at hc
  split at hc
  · cases hs : p.sites[x.k.toNat]? with
    | none => rw [hs] at hc; cases hc
    | some s =>
      rw [hs] at hc
      simp only [Option.bind_some] at hc
      unfold chosenF at hc
      split at hc
      · exact site_cases h hs c (List.mem_of_getElem? hc)
      · split at hc
        · cases hc; exact ⟨⟨by decide, by decide⟩, ⟨by decide, by decide⟩⟩
        · cases hc
  · split at hc
    · split at hc
      · cases hc; exact hr
      · cases hc; exact ⟨⟨by decide, by decide⟩, ⟨by decide, by decide⟩⟩
    · cases hc
theorem doneG_at (h : checkW p = none) (hx : atF p f = some x) (hl : locO x.o = false) (c : Cas) (k v : Int) (ok : Bool) : (atF p (doneG c x f k v ok)).isSome = true := by
  obtain ⟨m, n, cd, hfc, hfp, hc, hn⟩ := atF_parts hx
  unfold atF
  rw [doneG_c, doneG_p]
  split
  · show (atF p f).isSome = true
    rw [hx]; rfl
  · rename_i ho
    rw [hfc, hfp]
    rcases at_next h hc hn with h1 | ⟨_, h1⟩
    · exact h1
    · simp [locO] at hl; omega
end
end Go.Proofs.Ytplajidagpimdaa
