/-
  The walk of the laws' apart.
-/
import Derived.Test.YtbjfongjdlankaaULocks
namespace Go.Proofs.Ytbjfongjdlankaa
open Go.RowKit

/-- A block of n cells of one type, as a function. -/
def ArrF (W : World) (T : Nat) (t : TypeId) (n : Nat) (f : Nat → Value) : Prop := W.heap[T]? = some (.cells ((List.range n).map f).toArray t (0, 0))
section
variable {W W' : World} {T n : Nat} {t : TypeId} {f : Nat → Value}
theorem ArrF.lt (h : ArrF W T t n f) : T < W.heap.size := (Array.getElem?_eq_some_iff.1 h).1
theorem ArrF.cell (h : ArrF W T t n f) {k : Nat} (hk : k < n) : W.cell? ⟨T, k, none⟩ = some (f k) := by
  simp [World.cell?, show W.heap[T]? = _ from h, hk]
theorem ArrF.frozen (h : ArrF W T t n f) (k : Nat) : W.frozen? ⟨T, k, none⟩ = false := by simp [World.frozen?, show W.heap[T]? = _ from h]
theorem ArrF.set (h : ArrF W T t n f) (k : Nat) (v : Value) : ArrF (W.setCell ⟨T, k, none⟩ v) T t n (upd f k v) := by
  refine (heap_set_same _ h).trans ?_
  rw [List.setIfInBounds_toArray]
  congr 3
  apply List.ext_getElem?
  intro j
  rw [List.getElem?_set]
  by_cases e : k = j
  · subst e
    by_cases hk : k < n
    · simp [hk, upd]
    · simp [hk]
  · by_cases hj : j < n
    · simp [e, hj, upd, Ne.symm e]
    · simp [e, hj]
theorem ArrF.but {S : List Nat} (h : ArrF W T t n f) (hb : But S W W') (hT : T ∉ S) : ArrF W' T t n f := (hb.block T h.lt hT).trans h
theorem ArrF.made {base : Nat} {z : Value} (hz : z.cells = #[z]) (h : W.ownsRow base t 1 (.slice (some ⟨base, 0, none⟩) n n) n (madeCells z.cells (n * 1)).toList) : ArrF W base t n (fun _ => z) := by
  rw [hz, Nat.mul_one, toList_madeCells_one] at h
  rcases h.2 with ⟨h0, _⟩ | ⟨g, cap, cur, he, _, hb, _, _, hs, ht⟩
  · cases h0
  · simp only [Value.slice.injEq, Option.some.injEq, Addr.mk.injEq, and_true, true_and] at he
    obtain ⟨rfl, rfl⟩ := he
    have hcur : cur = (List.replicate n z).toArray := by
      rw [← ht, ← hs, ← Array.length_toList, List.take_length]
    refine (show W.heap[base]? = _ from hb).trans ?_
    rw [hcur]
    congr 3
    apply List.ext_getElem?
    intro j
    by_cases hj : j < n
    · simp [hj]
    · simp [hj]
end
theorem upd_fun {S : Nat → Bool} {x : Nat} : (upd (fun k => Value.bool (S k)) x (.bool true)) = fun k => Value.bool (upd S x true k) := by
  funext k; unfold upd; split <;> rfl
theorem infoBool : (Try.prog.info? 4).map (fun i => (i.zero, i.size, i.bytes)) = some (some (.bool false), 1, 1) := by kernel_rfl

/-- The guards' row: their addresses, one behind the other. -/
def PtrF (gs : Nat → Nat) : Nat → Value := fun k => .pointer (some ⟨gs k, 0, none⟩)

/-- What a guard has. -/
def heldL (s : Gs) : List Int := s.l.take s.h
/-- No lock stands with two of n; each is one of six, and stands with its own guard once. -/
structure Parted (n : Nat) (ss : Nat → Gs) : Prop where
  six : ∀ i, i < n → ∀ x ∈ heldL (ss i), 0 ≤ x ∧ x < 6
  once : ∀ i, i < n → (heldL (ss i)).Nodup
  two : ∀ i j, i < n → j < n → i ≠ j → ∀ x ∈ heldL (ss i), x ∉ heldL (ss j)

/-- What apart has seen at guard i, so many of its locks gone over. -/
def SeenAt (ss : Nat → Gs) (i k : Nat) (S : Nat → Bool) : Prop := ∀ x : Nat, x < 6 → (S x = true ↔ (∃ j, j < i ∧ (x : Int) ∈ heldL (ss j)) ∨ (x : Int) ∈ (heldL (ss i)).take k)
theorem SeenAt.start (ss : Nat → Gs) : SeenAt ss 0 0 (fun _ => false) := fun x _ => by simp
theorem SeenAt.next {ss : Nat → Gs} {i k : Nat} {S : Nat → Bool} (h : SeenAt ss i k S) (hk : (heldL (ss i)).length ≤ k) : SeenAt ss (i + 1) 0 S := fun x hx => by
  rw [h x hx, List.take_of_length_le hk]
  constructor
  · rintro (⟨j, hj, hm⟩ | hm)
    · exact .inl ⟨j, by omega, hm⟩
    · exact .inl ⟨i, by omega, hm⟩
  · rintro (⟨j, hj, hm⟩ | hm)
    · by_cases e : j = i
      · subst e; exact .inr hm
      · exact .inl ⟨j, by omega, hm⟩
    · simp at hm
theorem take_snocI {xs : List Int} {k : Nat} (hk : k < xs.length) : xs.take (k + 1) = xs.take k ++ [atI xs k] := by
  rw [List.take_add_one, List.getElem?_eq_getElem hk, atI_of hk]; rfl
theorem SeenAt.more {ss : Nat → Gs} {i k x : Nat} {S : Nat → Bool} (h : SeenAt ss i k S) (hk : k < (heldL (ss i)).length) (hx : atI (heldL (ss i)) k = (x : Int)) : SeenAt ss i (k + 1) (upd S x true) := fun y hy => by
  rw [take_snocI hk, hx]
  by_cases e : y = x
  · subst e; rw [upd_same]; simp
  · rw [upd_ne _ _ e, h y hy]
    have : ¬ (y : Int) = (x : Int) := by omega
    simp [this]
theorem SeenAt.not {n : Nat} {ss : Nat → Gs} {i k x : Nat} {S : Nat → Bool} (h : SeenAt ss i k S) (hP : Parted n ss) (hi : i < n) (hk : k < (heldL (ss i)).length) (hx : atI (heldL (ss i)) k = (x : Int)) (hx6 : x < 6) : S x = false := by
  have hm := atI_mem hk
  rw [hx] at hm
  cases hS : S x with
  | false => rfl
  | true =>
    rcases (h x hx6).1 hS with ⟨j, hj, hm2⟩ | hm2
    · exact absurd hm (hP.two j i (by omega) hi (by omega) _ hm2)
    · exfalso
      have hnd := hP.once i hi
      rw [List.mem_iff_getElem] at hm2
      obtain ⟨p, hp, he⟩ := hm2
      rw [List.length_take] at hp
      rw [List.getElem_take] at he
      rw [atI_of hk] at hx
      exact List.pairwise_iff_getElem.1 hnd p k (by omega) hk (by omega) (he.trans hx.symm)

set_option maxRecDepth 100000 in
set_option maxHeartbeats 800000 in
theorem apart_any {w0 : World} {L P Q B V n c T cap : Nat} {gs : Nat → Nat} {ss : Nat → Gs} {vs : List Nat} (w : World) (h : Gks w0 w L P Q B V n gs ss vs c) (hP : Parted n ss) (hn : n ≤ 8) (hT : ∀ j, j < n → w.cell? ⟨T, j, none⟩ = some (PtrF gs j)) :
    Calls Try.prog 21 #[.slice (some ⟨T, 0, none⟩) n cap] w fun e w' => e = .returned (.bool true) ∧ But [] w w' := by
  obtain ⟨i0, hi, hz0, hz1, hz2⟩ := info_parts infoBool
  go_enter Try.func21, Try.ntmps21
  go_wp2_with (at_make; refine wpList_make_full _ rfl _ _ 62 rfl w.heap.size 4 i0 (.bool false) 1 Try.underlying62 hi hz0 hz1 .i64 .i64 _ _ 6 rfl rfl rfl rfl (by rw [hz2]; omega) (by unfold maxLen; omega) (Nat.le_refl _) ?_; intro w1 hown hgrow)
  have hA0 : ArrF w1 w.heap.size 4 6 (fun _ => .bool false) := ArrF.made rfl hown
  have hb1 : But [] w w1 := But.of_none hgrow []
  clear hown hgrow
  go_loopw [4] (fun iv wr => ∃ (i : Nat) (S : Nat → Bool), i ≤ n ∧ iv = .int .i64 (i : Int) ∧ But [] w wr ∧ ArrF wr w.heap.size 4 6 (fun k => .bool (S k)) ∧ SeenAt ss i 0 S) (fun iv _ => n - (intOf iv).toNat)
  case atStart => exact ⟨0, fun _ => false, Nat.zero_le _, rfl, hb1, hA0, SeenAt.start ss⟩
  case round =>
    clear hA0 hb1
    obtain ⟨i, S, hin, rfl, hb, hA, hS⟩ := hrel
    by_cases hlt : i < n
    · have hlt' : (i : Int) < (n : Int) := by omega
      have hc := hb.cell (hT i hlt) (by simp)
      rw [PtrF] at hc
      have hheld := ks_held (h.fresh hb) hlt
      have hhl := (ks_len h hlt).1
      have hlen : (heldL (ss i)).length = (ss i).h := by rw [heldL, List.length_take]; omega
      have hsm := (ks_len h hlt).2
      go_wp2_with fail
      refine hheld.mono ?_
      rintro e w2 ⟨a', cap', rfl, hR, hb2⟩
      have hb3 := hb.next hb2
      have hA2 := hA.but hb2 (by simp)
      clear hheld hb hA hb2 hc
      go_wp2_with fail
      obtain ⟨wo, rfl⟩ : ∃ wo : World, wo = wr := ⟨_, rfl⟩
      go_loopw [6] (fun kv wq => ∃ (k : Nat) (S : Nat → Bool), k ≤ (ss i).h ∧ kv = .int .i64 (k : Int) ∧ But [] w wq ∧ ArrF wq w.heap.size 4 6 (fun k => .bool (S k)) ∧ SeenAt ss i k S ∧ RowT wq a' cap' ((ss i).l.take (ss i).h)) (fun kv _ => (ss i).h - (intOf kv).toNat)
      case atStart => exact ⟨0, S, Nat.zero_le _, rfl, hb3, hA2, hS, hR⟩
      case round =>
        clear hb3 hA2 hS hR
        obtain ⟨k, S, hk, rfl, hb, hA, hS, hR⟩ := hrel
        by_cases hkl : k < (ss i).h
        · have hkl' : (k : Int) < ((ss i).h : Int) := by omega
          obtain ⟨b, off, cs, z, rfl, hbl, hrow⟩ := hR.row (by show 0 < (heldL (ss i)).length; omega)
          have hcell := hrow k (by show k < (heldL (ss i)).length; omega)
          have hm := hP.six i hlt _ (atI_mem (k := k) (by omega))
          obtain ⟨x, hx⟩ := Int.eq_ofNat_of_zero_le hm.1
          have hx6 : x < 6 := by omega
          have hSx := hS.not hP hlt (by omega) hx hx6
          have hmore := hS.more (by omega) hx
          rw [show atI (List.take (ss i).h (ss i).l) k = (x : Int) from hx] at hcell
          have hcx := hA.cell hx6
          simp only [hSx] at hcx
          have hfx := hA.frozen x
          have hA' := hA.set x (.bool true)
          have hb' := hb.set (p := ⟨w.heap.size, x, none⟩) (.inr (Nat.le_refl _)) (.bool true)
          have hR' := hR.but ((But.refl [w.heap.size] _).set (p := ⟨w.heap.size, x, none⟩) (.inl (by simp)) (.bool true)) (NotInts.cons (show _ = _ from hA) (by decide) (NotInts.nil _))
          have q1 : (0 : Int) ≤ (x : Int) := by omega
          have q2 : (x : Int) < 6 := by omega
          have q3 : decide ((x : Int) < 0) = false := by simp
          have q4 : decide ((6 : Int) ≤ (x : Int)) = false := by simp; omega
          have q5 : ¬ (6 : Int) ≤ (x : Int) := by omega
          clear hA hS hSx hx hm hrow hb hR hlen
          go_wp2_with fail
          go_roundw
          case rel => exact ⟨k + 1, upd S x true, by omega, by go_num, hb', by simpa only [upd_fun] using hA', hmore, hR'⟩
          case measure => simp [intOf]; omega
        · have hkl' : ¬ (k : Int) < ((ss i).h : Int) := by omega
          clear hR
          go_wp2_with fail
          go_roundw
          case rel => exact ⟨i + 1, S, by omega, by go_num, hb, hA, hS.next (by omega)⟩
          case measure => simp [intOf]; omega
    · have hlt' : ¬ (i : Int) < (n : Int) := by omega
      clear hA hS
      go_wp2_with fail
      go_ret
      exact ⟨rfl, hb⟩
end Go.Proofs.Ytbjfongjdlankaa
