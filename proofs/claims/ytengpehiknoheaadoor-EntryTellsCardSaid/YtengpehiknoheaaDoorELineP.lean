/-
  The line of an entry; pure: unlike entries that may be have unlike lines.
-/
import Derived.Test.YtengpehiknoheaaDoorEPure
namespace Go.Proofs.YtengpehiknoheaaDoor
open Oct

/-- What stands in a line for a name. -/
def pieceL (x : En) (n : Nat) : List UInt8 := if n = 12 then Lib.decDigits x.s else Lib.itoa (x.get n)
def lineStep (x : En) (s : List UInt8) (n : Nat) : List UInt8 := (s ++ [32]) ++ pieceL x n
def lineH (x : En) : List UInt8 := (Lib.itoa x.a ++ [32]) ++ wordL x.k
def lineL (x : En) : List UInt8 := (namesOf x.k).foldl (lineStep x) (lineH x)
def lineV (x : En) : List UInt8 := if okB x then lineL x else []

/-! ### Numerals -/
def dval (l : List UInt8) : Nat := l.foldl (fun a b => 10 * a + (b.toNat - 48)) 0
theorem dval_snoc (l : List UInt8) (b : UInt8) : dval (l ++ [b]) = 10 * dval l + (b.toNat - 48) := by simp [dval]
theorem dec_val : ∀ (f u : Nat), u ≤ f → dval (Lib.decDigits u) = u
  | 0, u, h => by
    obtain rfl : u = 0 := by omega
    rw [Lib.decDigits_one (by omega)]; rfl
  | f + 1, u, h => by
    by_cases hu : u < 10
    · rw [Lib.decDigits_one hu]
      show 10 * 0 + ((UInt8.ofNat (48 + u)).toNat - 48) = u
      rw [toNat_ofNat_lt (by omega)]; omega
    · rw [Lib.decDigits, dif_neg hu, dval_snoc, dec_val f (u / 10) (by omega), toNat_ofNat_lt (by omega)]
      omega
theorem dec_inj {u v : Nat} (h : Lib.decDigits u = Lib.decDigits v) : u = v := by
  have := congrArg dval h
  rwa [dec_val u u (Nat.le_refl _), dec_val v v (Nat.le_refl _)] at this
theorem dec_digit : ∀ (f u : Nat), u ≤ f → ∀ b ∈ Lib.decDigits u, 48 ≤ b.toNat
  | 0, u, h => by
    obtain rfl : u = 0 := by omega
    rw [Lib.decDigits_one (by omega)]
    intro b hb
    obtain rfl := List.mem_singleton.1 hb
    decide
  | f + 1, u, h => by
    by_cases hu : u < 10
    · rw [Lib.decDigits_one hu]
      intro b hb
      obtain rfl := List.mem_singleton.1 hb
      rw [toNat_ofNat_lt (by omega)]; omega
    · rw [Lib.decDigits, dif_neg hu]
      intro b hb
      rcases List.mem_append.1 hb with hb | hb
      · exact dec_digit f (u / 10) (by omega) b hb
      · obtain rfl := List.mem_singleton.1 hb
        rw [toNat_ofNat_lt (by omega)]; omega
theorem dec_no (u : Nat) : (32 : UInt8) ∉ Lib.decDigits u := fun h => absurd (dec_digit u u (Nat.le_refl _) _ h) (by decide)
theorem itoa_no (v : Int) : (32 : UInt8) ∉ Lib.itoa v := by
  unfold Lib.itoa
  split
  · intro h
    rcases List.mem_cons.1 h with h | h
    · exact absurd h (by decide)
    · exact dec_no _ h
  · exact dec_no _
theorem itoa_inj {v w : Int} (h : Lib.itoa v = Lib.itoa w) : v = w := by
  have key : ∀ (m : Nat) (l : List UInt8), 45 :: l ≠ Lib.decDigits m := fun m l e =>
    absurd (dec_digit m m (Nat.le_refl _) 45 (by rw [← e]; exact List.mem_cons_self ..)) (by decide)
  unfold Lib.itoa at h
  split at h <;> split at h
  · have := dec_inj (List.cons.inj h).2; omega
  · exact absurd h (key _ _)
  · exact absurd h.symm (key _ _)
  · have := dec_inj h; omega
theorem piece_no (x : En) (n : Nat) : (32 : UInt8) ∉ pieceL x n := by
  unfold pieceL; split
  · exact dec_no _
  · exact itoa_no _
theorem word_no (k : Nat) : (32 : UInt8) ∉ wordL k := by unfold wordL; split <;> decide

/-! ### Up to a blank -/
def upTo : List UInt8 → List UInt8 × List UInt8
  | [] => ([], [])
  | b :: l => if b = 32 then ([], b :: l) else (b :: (upTo l).1, (upTo l).2)
/-- Nothing, or a blank is the first. -/
def Blank (t : List UInt8) : Prop := t = [] ∨ ∃ r, t = 32 :: r
theorem upTo_app {u t : List UInt8} (hu : (32 : UInt8) ∉ u) (ht : Blank t) : upTo (u ++ t) = (u, t) := by
  induction u with
  | nil => rcases ht with rfl | ⟨r, rfl⟩ <;> rfl
  | cons b u ih =>
    have hb : b ≠ 32 := fun e => hu (by rw [e]; exact List.mem_cons_self ..)
    show upTo (b :: (u ++ t)) = _
    rw [upTo, if_neg hb, ih (fun h => hu (List.mem_cons_of_mem _ h))]
theorem split_at_blank {u v t r : List UInt8} (hu : (32 : UInt8) ∉ u) (hv : (32 : UInt8) ∉ v) (ht : Blank t) (hr : Blank r) (h : u ++ t = v ++ r) : u = v ∧ t = r := by
  have := upTo_app hu ht
  rw [h, upTo_app hv hr] at this
  simp only [Prod.mk.injEq] at this
  exact ⟨this.1.symm, this.2.symm⟩

def tailL (x : En) (ns : List Nat) : List UInt8 := ns.flatMap fun n => 32 :: pieceL x n
theorem line_fold (x : En) : ∀ (ns : List Nat) (s : List UInt8), ns.foldl (lineStep x) s = s ++ tailL x ns
  | [], s => by simp [tailL]
  | n :: ns, s => by
    rw [List.foldl_cons, line_fold x ns]
    simp [lineStep, tailL]
theorem tail_blank (x : En) (ns : List Nat) : Blank (tailL x ns) := by
  cases ns with
  | nil => exact .inl rfl
  | cons n ns => exact .inr ⟨_, rfl⟩
theorem tail_inj {x y : En} : ∀ {ns : List Nat}, tailL x ns = tailL y ns → ∀ n ∈ ns, pieceL x n = pieceL y n
  | [], _ => by intro n hn; cases hn
  | m :: ns, h => by
    have h' : pieceL x m ++ tailL x ns = pieceL y m ++ tailL y ns := (List.cons.inj h).2
    obtain ⟨h1, h2⟩ := split_at_blank (piece_no x m) (piece_no y m) (tail_blank x ns) (tail_blank y ns) h'
    intro n hn
    rcases List.mem_cons.1 hn with rfl | hn
    · exact h1
    · exact tail_inj h2 n hn
theorem word_inj {k m : Nat} (hk : known k = true) (hm : known m = true) (h : wordL k = wordL m) : k = m := by
  have key : ∀ i : Fin 27, ∀ j : Fin 27, known i.val = true → known j.val = true → wordL i.val = wordL j.val → i.val = j.val := by decide +kernel
  have h1 := (known_cases hk)
  have h2 := (known_cases hm)
  exact key ⟨k, by omega⟩ ⟨m, by omega⟩ hk hm h
theorem piece_inj {x y : En} {n : Nat} (h : pieceL x n = pieceL y n) : x.get n = y.get n := by
  unfold pieceL at h
  split at h
  · rename_i e
    subst e
    show sgn x.s = sgn y.s
    rw [dec_inj h]
  · exact itoa_inj h
theorem en_of_names {x y : En} (hx : okB x = true) (hy : okB y = true) (ha : x.a = y.a) (hk : x.k = y.k) (h : ∀ n ∈ namesOf x.k, x.get n = y.get n) : x = y := by
  rw [← ok_lay hx, ← ok_lay hy, ← ha, ← hk]
  congr 1
  exact List.map_congr_left fun n hn => by rw [h n hn]
theorem line_inj {x y : En} (hx : okB x = true) (hy : okB y = true) (h : lineL x = lineL y) : x = y := by
  unfold lineL at h
  rw [line_fold, line_fold] at h
  have h' : Lib.itoa x.a ++ ([32] ++ (wordL x.k ++ tailL x (namesOf x.k))) = Lib.itoa y.a ++ ([32] ++ (wordL y.k ++ tailL y (namesOf y.k))) := by
    simpa [lineH] using h
  obtain ⟨ha, hr⟩ := split_at_blank (itoa_no _) (itoa_no _) (.inr ⟨_, rfl⟩) (.inr ⟨_, rfl⟩) h'
  replace hr : (32 : UInt8) :: (wordL x.k ++ tailL x (namesOf x.k)) = 32 :: (wordL y.k ++ tailL y (namesOf y.k)) := hr
  obtain ⟨hw, ht⟩ := split_at_blank (word_no _) (word_no _) (tail_blank ..) (tail_blank ..) (List.cons.inj hr).2
  have hk := word_inj (okB_iff.1 hx).1 (okB_iff.1 hy).1 hw
  rw [← hk] at ht
  exact en_of_names hx hy (itoa_inj ha) hk fun n hn => piece_inj (tail_inj ht n hn)
end Go.Proofs.YtengpehiknoheaaDoor
