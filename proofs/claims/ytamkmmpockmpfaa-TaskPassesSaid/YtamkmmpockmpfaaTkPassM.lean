/-
  What the law TaskPasses rests on: how often one is passed over, and how many stand ahead of it, are together no more than n less 1; pure. Rows of sets.
-/
import Derived.Test.YtamkmmpockmpfaaTkAlive
namespace Go.Proofs.Ytamkmmpockmpfaa
open Go.RowKit

/-- The slice value v reads as the sets xs. -/
def RowS (w : World) (v : Value) (xs : List Nat) : Prop :=
  (∀ x ∈ xs, x < 18446744073709551616) ∧ ((xs = [] ∧ ∃ a cap, v = .slice a 0 cap) ∨
  (∃ b off cap, v = .slice (some ⟨b, off, none⟩) xs.length cap ∧ 0 < xs.length ∧ b < w.heap.size ∧ ∀ j, j < xs.length → w.cell? ⟨b, off + j, none⟩ = some (.int .u64 ((xs[j]?.getD 0 : Nat) : Int))))
theorem RowS.slice {w : World} {v : Value} {xs : List Nat} (h : RowS w v xs) : ∃ a c, v = .slice a xs.length c := by
  rcases h.2 with ⟨rfl, a, c, rfl⟩ | ⟨b, off, c, rfl, _⟩
  · exact ⟨a, c, rfl⟩
  · exact ⟨_, c, rfl⟩
theorem RowS.at {w W : World} {a : Option Addr} {n c : Nat} {xs : List Nat} (h : RowS w (.slice a n c) xs) (hb : Below w.heap.size w W) {k : Nat} (hk : k < xs.length) :
    ∃ b off x, a = some ⟨b, off, none⟩ ∧ W.cell? ⟨b, off + k, none⟩ = some (.int .u64 ((x : Nat) : Int)) ∧ x < 18446744073709551616 := by
  obtain ⟨hx, h⟩ := h
  rcases h with ⟨rfl, _⟩ | ⟨b, off, c', he, _, hlt, hc⟩
  · simp at hk
  · simp only [Value.slice.injEq] at he
    obtain ⟨rfl, -, -⟩ := he
    have hm : xs[k]?.getD 0 ∈ xs := by rw [List.getElem?_eq_getElem hk]; simp
    exact ⟨b, off, _, rfl, (hb.cell (p := ⟨b, off + k, none⟩) hlt).trans (hc k hk), hx _ hm⟩

/-! ### The first one that is ready -/
theorem pick_parts {s : Nat} {xs : List Int} {k : Int} (h : Od.chosen s xs ≠ []) (hk : k = Od.pickV s xs) : ∃ pre post, xs = pre ++ k :: post ∧ (∀ x ∈ pre, Od.has s x = false) ∧ Od.has s k = true := by
  cases e : Od.chosen s xs with
  | nil => exact absurd e h
  | cons y t =>
    obtain ⟨pre, post, h1, h2, h3, _⟩ := List.filter_eq_cons_iff.1 e
    rw [Od.pickV, e] at hk
    obtain rfl : k = y := by simpa using hk
    exact ⟨pre, post, h1, fun x hx => by simpa using h2 x hx, h3⟩
theorem pickB_eq (s : Nat) (xs : List Int) : Od.pickB s xs = decide (Od.chosen s xs ≠ []) := by
  rw [Od.pickB]; cases Od.chosen s xs <;> simp
theorem pick_none {s n : Nat} {l : List Int} (hp : Od.Perm n l) (h : Od.pickB s l = false) {j : Nat} (hj : j < n) : Od.has s (j : Int) = false := by
  rw [pickB_eq, decide_eq_false_iff_not, Decidable.not_not] at h
  rw [Od.chosen, List.filter_eq_nil_iff] at h
  simpa using h (j : Int) ((hp.mem _).2 (by omega))

/-! ### How often one is passed over -/
def Pas (n : Nat) (l : List Int) (k : Int) (c : Nat) : Prop := ∃ pre post, l = pre ++ k :: post ∧ c + pre.length + 1 ≤ n
theorem Pas.start {n : Nat} {l : List Int} {k : Int} (hp : Od.Perm n l) (hk : k ∈ l) : Pas n l k 0 := by
  obtain ⟨pre, post, rfl⟩ := List.append_of_mem hk
  have := hp.len
  simp only [List.length_append, List.length_cons] at this
  exact ⟨pre, post, rfl, by omega⟩
theorem Pas.le {n c : Nat} {l : List Int} {k : Int} (h : Pas n l k c) : c + 1 ≤ n := by obtain ⟨pre, post, _, h⟩ := h; omega
theorem Pas.step {n c s : Nat} {l : List Int} {k x : Int} (h : Pas n l k c) (hp : Od.Perm n l) (hB : Od.pickB s l = true) (hx : x = Od.pickV s l) :
    x ∈ l ∧ Od.has s x = true ∧ Od.Perm n (Od.tookX l x) ∧ (x ≠ k → Pas n (Od.tookX l x) k (c + if Od.has s k = true then 1 else 0)) ∧ (x = k → Pas n (Od.tookX l x) k 0) := by
  rw [pickB_eq, decide_eq_true_eq] at hB
  obtain ⟨p1, p2, e, hpre, hhas⟩ := pick_parts hB hx
  have hm : x ∈ l := by rw [e]; simp
  have hx1 : x ∉ p1 := by
    have := hp.nd
    rw [e, List.nodup_append] at this
    intro hx
    exact this.2.2 x hx x (by simp) rfl
  have htk : Od.tookX l x = p1 ++ p2 ++ [x] := by
    rw [Od.tookX, if_pos hm, e, List.erase_append_right _ hx1, List.erase_cons_head]
  have hP : Od.Perm n (Od.tookX l x) := by
    have := hp.took hm
    rwa [Od.tookX, if_pos hm]
  have hlen : (p1 ++ p2).length + 1 = n := by
    have := hp.len
    rw [e] at this
    simp only [List.length_append, List.length_cons] at this ⊢
    omega
  refine ⟨hm, hhas, hP, fun hne => ?_, fun he => ?_⟩
  · obtain ⟨pre, post, h1, h2⟩ := h
    rw [htk]
    rw [e] at h1
    rcases List.append_eq_append_iff.1 h1 with ⟨q, e1, e2⟩ | ⟨q, e1, e2⟩
    · cases q with
      | nil => simp only [List.nil_append, List.cons.injEq] at e2; exact absurd e2.1 hne
      | cons y t =>
        simp only [List.cons_append, List.cons.injEq] at e2
        obtain ⟨rfl, e3⟩ := e2
        refine ⟨p1 ++ t, post ++ [x], by rw [e3]; simp, ?_⟩
        rw [e1] at h2
        simp only [List.length_append, List.length_cons] at h2 ⊢
        split <;> omega
    · cases q with
      | nil => simp only [List.nil_append, List.cons.injEq] at e2; exact absurd e2.1.symm hne
      | cons y t =>
        simp only [List.cons_append, List.cons.injEq] at e2
        obtain ⟨rfl, e3⟩ := e2
        have hk : Od.has s k = false := hpre k (by rw [e1]; simp)
        rw [hk]
        simp only [Bool.false_eq_true, if_false, Nat.add_zero]
        exact ⟨pre, t ++ p2 ++ [x], by rw [e1]; simp, h2⟩
  · subst he
    exact ⟨p1 ++ p2, [], htk, by omega⟩

/-- The one task's orders: that of site m is l. -/
def osOf (p : Prg) (m : Nat) (l : List Int) : List (List Int) := (p.sites.map fun x => Od.rise x.cs.length).set m l
def tkOf (p : Prg) (m : Nat) (l : List Int) : Tb := ⟨p, [⟨1, Fra.zero, 0, [], osOf p m l⟩]⟩
theorem osOf_at {p : Prg} {m : Nat} {l : List Int} (hm : m < p.sites.length) : (osOf p m l)[m]? = some l := by rw [osOf, List.getElem?_set_self (by simpa using hm)]
theorem osOf_set {p : Prg} {m : Nat} {l l' : List Int} : (osOf p m l).set m l' = osOf p m l' := by rw [osOf, List.set_set]; rfl
theorem osOf_start {p : Prg} {m : Nat} {x : Sit} (hx : p.sites[m]? = some x) : newTk p Fra.zero = ⟨1, Fra.zero, 0, [], osOf p m (Od.rise x.cs.length)⟩ := by
  rw [newTk, osOf, set_same (by rw [List.getElem?_map, hx]; rfl)]
end Go.Proofs.Ytamkmmpockmpfaa
