/-
  A program that may be, with one channel, site or code more; pure.
-/
import Derived.Test.YtbbgeopgigeioaaGNext
namespace Go.Proofs.Ytbbgeopgigeioaa
open Go.RowKit

theorem below_le {v n m : Int} (hm : n ≤ m) (h : belowB v n = true) : belowB v m = true := by
  unfold belowB at h ⊢
  simp only [Bool.and_eq_true, decide_eq_true_eq] at h ⊢
  omega
theorem may_le {a b c d a' b' c' : Int} (ha : a ≤ a') (hb : b ≤ b') (hc : c ≤ c') {p : Nat × Int} (h : mayB a b c d p = true) : mayB a' b' c' d p = true := by
  obtain ⟨n, v⟩ := p
  unfold mayB at h ⊢
  split <;> simp_all
  · rcases h with h | h
    · exact .inl h
    · exact .inr (below_le ha h)
  · exact below_le hb h
  · exact below_le hc h
theorem fold_and {α : Type} (f : α → Bool) (b : Bool) (l : List α) : l.foldl (fun c p => c && f p) b = (b && l.all f) := by
  induction l generalizing b with
  | nil => simp
  | cons p t ih => rw [List.foldl_cons, ih, List.all_cons, Bool.and_assoc]
theorem checkB_all (x : In) (a b c d : Int) : checkB x a b c d = (okI x && (pairs x).all (mayB a b c d)) := fold_and (mayB a b c d) (okI x) (pairs x)
theorem check_le {x : In} {a b c d a' b' c' : Int} (ha : a ≤ a') (hb : b ≤ b') (hc : c ≤ c') (h : checkB x a b c d = true) : checkB x a' b' c' d = true := by
  rw [checkB_all] at h ⊢
  simp only [Bool.and_eq_true, List.all_eq_true] at h ⊢
  exact ⟨h.1, fun p hp => may_le ha hb hc (h.2 p hp)⟩
theorem case_le {n m : Int} (hm : n ≤ m) {x : Cas} (h : mayCaseB n x = true) : mayCaseB m x = true := by
  unfold mayCaseB withinB at h ⊢
  simp only [Bool.and_eq_true, Bool.or_eq_true, decide_eq_true_eq] at h ⊢
  obtain ⟨⟨⟨h1, h2⟩, h3⟩, h4⟩ := h
  refine ⟨⟨⟨?_, h2⟩, h3⟩, h4⟩
  rcases h1 with h1 | h1
  · exact .inl h1
  · exact .inr ⟨h1.1, by omega⟩
theorem wrongIf_ok {b : Bool} (h : b = true) (x : Wr) : wrongIf b x = none := by subst h; rfl
theorem wrongIf_iff {b : Bool} {x : Wr} : wrongIf b x = none ↔ b = true := ⟨wrongIf_none, fun h => wrongIf_ok h x⟩
theorem site_iff {n : Int} {k : Nat} {st : Sit} : siteW n k st = none ↔ withinB st.cs.length 1 6 = true ∧ ∀ x ∈ st.cs, mayCaseB n x = true := by
  unfold siteW
  rw [Option.or_eq_none_iff, wrongIf_iff, firstI_none]
  refine and_congr_right fun _ => ⟨fun h x hx => ?_, fun h j x hx => wrongIf_ok (h x (List.mem_of_getElem? hx)) _⟩
  obtain ⟨j, hj, rfl⟩ := List.mem_iff_getElem.1 hx
  exact wrongIf_none (h j _ (List.getElem?_eq_getElem hj))
theorem sites_iff {n : Int} {l : List Sit} : sitesW n l = none ↔ l.length ≤ 12 ∧ ∀ st ∈ l, withinB st.cs.length 1 6 = true ∧ ∀ x ∈ st.cs, mayCaseB n x = true := by
  unfold sitesW
  rw [Option.or_eq_none_iff, wrongIf_iff, decide_eq_true_eq, firstI_none]
  refine and_congr_right fun _ => ⟨fun h x hx => ?_, fun h j x hx => site_iff.2 (h x (List.mem_of_getElem? hx))⟩
  obtain ⟨j, hj, rfl⟩ := List.mem_iff_getElem.1 hx
  exact site_iff.1 (h j _ (List.getElem?_eq_getElem hj))
theorem code_iff {a b c : Int} {k : Nat} {l : List In} : codeW a b c k l = none ↔ withinB l.length 1 40 = true ∧ ∀ x ∈ l, checkB x a b c l.length = true := by
  unfold codeW
  rw [Option.or_eq_none_iff, wrongIf_iff, firstI_none]
  refine and_congr_right fun _ => ⟨fun h x hx => ?_, fun h j x hx => wrongIf_ok (h x (List.mem_of_getElem? hx)) _⟩
  obtain ⟨j, hj, rfl⟩ := List.mem_iff_getElem.1 hx
  exact wrongIf_none (h j _ (List.getElem?_eq_getElem hj))
theorem codes_iff {a b : Int} {l : List (List In)} : codesW a b l = none ↔ withinB l.length 1 8 = true ∧ ∀ c ∈ l, withinB c.length 1 40 = true ∧ ∀ x ∈ c, checkB x a b l.length c.length = true := by
  unfold codesW
  rw [Option.or_eq_none_iff, wrongIf_iff, firstI_none]
  refine and_congr_right fun _ => ⟨fun h x hx => ?_, fun h j x hx => code_iff.2 (h x (List.mem_of_getElem? hx))⟩
  obtain ⟨j, hj, rfl⟩ := List.mem_iff_getElem.1 hx
  exact code_iff.1 (h j _ (List.getElem?_eq_getElem hj))
theorem falls_iff {l : List (List In)} : fallsW l = none ↔ ∀ c ∈ l, (lastOp c == 10 || lastOp c == 3) = true := by
  unfold fallsW
  rw [firstI_none]
  refine ⟨fun h x hx => ?_, fun h j x hx => wrongIf_ok (h x (List.mem_of_getElem? hx)) _⟩
  obtain ⟨j, hj, rfl⟩ := List.mem_iff_getElem.1 hx
  exact wrongIf_none (h j _ (List.getElem?_eq_getElem hj))
theorem chans_iff {l : List Int} : chansW l = none ↔ l.length ≤ 6 ∧ ∀ c ∈ l, withinB c 0 8 = true := by
  unfold chansW
  rw [Option.or_eq_none_iff, wrongIf_iff, decide_eq_true_eq, firstI_none]
  refine and_congr_right fun _ => ⟨fun h x hx => ?_, fun h j x hx => wrongIf_ok (h x (List.mem_of_getElem? hx)) _⟩
  obtain ⟨j, hj, rfl⟩ := List.mem_iff_getElem.1 hx
  exact wrongIf_none (h j _ (List.getElem?_eq_getElem hj))
theorem check_iff {p : Prg} : checkW p = none ↔ chansW p.caps = none ∧ sitesW p.caps.length p.sites = none ∧ codesW p.caps.length p.sites.length p.codes = none ∧ fallsW p.codes = none :=
  ⟨check_parts, fun ⟨h1, h2, h3, h4⟩ => by unfold checkW; rw [h1, h2, h3, h4]; rfl⟩
section
variable {p : Prg}
theorem more_chan (h : checkW p = none) {m : Int} (hm : withinB m 0 8 = true) : checkW { p with caps := p.caps ++ [m] } = none ↔ p.caps.length < 6 := by
  obtain ⟨h1, h2, h3, h4⟩ := check_parts h
  rw [check_iff]
  simp only [List.length_append, List.length_cons, List.length_nil]
  rw [chans_iff] at h1 ⊢
  rw [sites_iff] at h2 ⊢
  rw [codes_iff] at h3 ⊢
  constructor
  · rintro ⟨⟨g, _⟩, _⟩
    simp only [List.length_append, List.length_cons, List.length_nil] at g
    omega
  · intro hl
    refine ⟨⟨by simp; omega, fun c hc => ?_⟩, ⟨h2.1, fun st hst => ⟨(h2.2 st hst).1, fun x hx => case_le (by omega) ((h2.2 st hst).2 x hx)⟩⟩, ⟨h3.1, fun c hc => ⟨(h3.2 c hc).1, fun x hx => check_le (by omega) (Int.le_refl _) (Int.le_refl _) ((h3.2 c hc).2 x hx)⟩⟩, h4⟩
    rcases List.mem_append.1 hc with hc | hc
    · exact h1.2 c hc
    · simp at hc; subst hc; exact hm
theorem more_site (h : checkW p = none) {s : Sit} (hs : withinB s.cs.length 1 6 = true ∧ ∀ x ∈ s.cs, mayCaseB p.caps.length x = true) : checkW { p with sites := p.sites ++ [s] } = none ↔ p.sites.length < 12 := by
  obtain ⟨h1, h2, h3, h4⟩ := check_parts h
  rw [check_iff]
  simp only [List.length_append, List.length_cons, List.length_nil]
  rw [sites_iff] at h2 ⊢
  rw [codes_iff] at h3 ⊢
  constructor
  · rintro ⟨_, ⟨g, _⟩, _⟩
    simp only [List.length_append, List.length_cons, List.length_nil] at g
    omega
  · intro hl
    refine ⟨h1, ⟨by simp; omega, fun st hst => ?_⟩, ⟨h3.1, fun c hc => ⟨(h3.2 c hc).1, fun x hx => check_le (Int.le_refl _) (by omega) (Int.le_refl _) ((h3.2 c hc).2 x hx)⟩⟩, h4⟩
    rcases List.mem_append.1 hst with hst | hst
    · exact h2.2 st hst
    · simp at hst; subst hst; exact hs
theorem more_code (h : checkW p = none) : checkW { p with codes := p.codes ++ [[⟨10, 0, 0, 0, 0⟩]] } = none ↔ p.codes.length < 8 := by
  obtain ⟨h1, h2, h3, h4⟩ := check_parts h
  rw [check_iff]
  rw [codes_iff] at h3 ⊢
  rw [falls_iff] at h4 ⊢
  simp only [List.length_append, List.length_cons, List.length_nil]
  constructor
  · rintro ⟨_, _, ⟨g, _⟩, _⟩
    unfold withinB at g
    simp only [Bool.and_eq_true, decide_eq_true_eq] at g
    omega
  · intro hl
    refine ⟨h1, h2, ⟨?_, fun c hc => ?_⟩, fun c hc => ?_⟩
    · unfold withinB
      simp only [Bool.and_eq_true, decide_eq_true_eq]
      omega
    · rcases List.mem_append.1 hc with hc | hc
      · exact ⟨(h3.2 c hc).1, fun x hx => check_le (Int.le_refl _) (Int.le_refl _) (by omega) ((h3.2 c hc).2 x hx)⟩
      · simp only [List.mem_singleton] at hc
        subst hc
        refine ⟨by decide, fun x hx => ?_⟩
        simp only [List.mem_singleton] at hx
        subst hx
        rfl
    · rcases List.mem_append.1 hc with hc | hc
      · exact h4 c hc
      · simp only [List.mem_singleton] at hc
        subst hc
        decide
end
end Go.Proofs.Ytbbgeopgigeioaa
