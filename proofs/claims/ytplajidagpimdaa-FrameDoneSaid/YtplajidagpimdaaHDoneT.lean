/-
  The document's own Done, all of it.
-/
import Derived.Test.YtplajidagpimdaaHDoneS
namespace Go.Proofs.Ytplajidagpimdaa
open Go.RowKit

theorem doneF_none {p : Prg} {f : Fra} {x : In} {k : Int} (v : Int) (ok : Bool) (hx : atF p f = some x) (hl : locO x.o = false) (hs : servedF p x k = none) : doneF p f k v ok = (Fra.zero, 2) := by
  unfold doneF; rw [hx]; simp only [hl, hs]; rfl
theorem doneF_some {p : Prg} {f : Fra} {x : In} {k : Int} {c : Cas} (v : Int) (ok : Bool) (hx : atF p f = some x) (hl : locO x.o = false) (hs : servedF p x k = some c) : doneF p f k v ok = (doneG c x f k v ok, 0) := by
  unfold doneF; rw [hx]; simp only [hl, hs]; rfl
theorem rdone_sel {lo hi : Nat} {v1 v2 v3 : Value} {p : Prg} (w : World) (h : PrgAt lo hi w v1 v2 v3 p) (hs : Small p) (hm : checkW p = none) (f : Fra) (k v : Int) (ok : Bool) {na nb ns : Nat} {xc : Int} (hx : atF p f = some ⟨8, (na : Int), (nb : Int), xc, (ns : Int)⟩) (hnb : nb < 8) (hns : ns < p.sites.length) :
    Calls Try.prog 21 #[.agg #[v1, v2, v3], fraV f, .int .i64 k, .int .i64 v, .bool ok] w fun e w' => e = .returned (.tuple #[fraV (doneF p f k v ok).1, .int .i64 (doneF p f k v ok).2]) ∧ Below w.heap.size w w' := by
  have hl : locO (⟨8, (na : Int), (nb : Int), xc, (ns : Int)⟩ : In).o = false := rfl
  obtain ⟨a3, c0, rfl⟩ := h.sites.slice
  obtain ⟨b, off, ra, rc, s, rfl, -, hbh, hst, hcw, hdw, hr⟩ := h.sites.at hns
  have hbw : b < w.heap.size := Nat.lt_of_lt_of_le hbh h.top
  have e : servedF p ⟨8, (na : Int), (nb : Int), xc, (ns : Int)⟩ k = chosenF s k := by unfold servedF; simp [hst]
  by_cases hk : 0 ≤ k ∧ k < (s.cs.length : Int)
  · obtain ⟨m, rfl⟩ : ∃ m : Nat, k = (m : Int) := ⟨k.toNat, by omega⟩
    have hmlt : m < s.cs.length := by omega
    obtain ⟨b2, off2, y, rfl, -, hb2h, hy, -, d0, d1, d2, d3⟩ := hr.at hmlt
    have hb2w : b2 < w.heap.size := Nat.lt_of_lt_of_le hb2h h.top
    have e2 : chosenF s (m : Int) = some y := by unfold chosenF; rw [if_pos hk]; simpa using hy
    rw [doneF_some v ok hx hl (e.trans e2)]
    obtain ⟨⟨hv0, hv1⟩, ⟨ho0, ho1⟩⟩ := site_cases hm hst y (List.mem_of_getElem? hy)
    clear e e2 hk hy hr
    obtain ⟨ys, yc, yv, yo⟩ := y
    simp only at d0 d1 d2 d3 hv0 hv1 ho0 ho1
    obtain ⟨nv, rfl⟩ : ∃ n : Nat, yv = (n : Int) := ⟨yv.toNat, by omega⟩
    obtain ⟨no, rfl⟩ : ∃ n : Nat, yo = (n : Int) := ⟨yo.toNat, by omega⟩
    cases ys with
    | true => exact rsel_s w h hs f v ok hx hl hns hbw hcw hdw hmlt hb2w d0 hnb
    | false => exact rsel_r w h hs f v ok hx hl hns hbw hcw hdw hmlt hb2w (by omega) (by omega) d0 d2 d3 hnb
  · by_cases hk2 : k = (s.cs.length : Int)
    · subst hk2
      cases hd : s.d with
      | true =>
        have e2 : chosenF s (s.cs.length : Int) = some noRec := by unfold chosenF; rw [if_neg hk, if_pos ⟨rfl, hd⟩]
        rw [doneF_some v ok hx hl (e.trans e2)]
        rw [hd] at hdw
        exact rsel_d w h hs f v ok hx hl hns hbw hcw hdw hnb
      | false =>
        have e2 : chosenF s (s.cs.length : Int) = none := by unfold chosenF; rw [if_neg hk, if_neg (by simp [hd])]
        rw [doneF_none v ok hx hl (e.trans e2)]
        rw [hd] at hdw
        exact rsel_c w h hs f v ok hx hl hns hbw hcw hdw
    · have e2 : chosenF s k = none := by unfold chosenF; rw [if_neg hk, if_neg (fun e => hk2 e.1)]
      rw [doneF_none v ok hx hl (e.trans e2)]
      by_cases hk0 : k < 0
      · exact rsel_a w h hs f k v ok hx hl hns hbw hcw hdw hk0
      · exact rsel_b w h hs f k v ok hx hl hns hbw hcw hdw (by omega)
theorem rdone_any {lo hi : Nat} {v1 v2 v3 : Value} {p : Prg} (w : World) (h : PrgAt lo hi w v1 v2 v3 p) (hs : Small p) (hm : checkW p = none) (f : Fra) (k v : Int) (ok : Bool) :
    Calls Try.prog 21 #[.agg #[v1, v2, v3], fraV f, .int .i64 k, .int .i64 v, .bool ok] w fun e w' => e = .returned (.tuple #[fraV (doneF p f k v ok).1, .int .i64 (doneF p f k v ok).2]) ∧ Below w.heap.size w w' := by
  cases hx : atF p f with
  | none =>
    have e : doneF p f k v ok = (Fra.zero, 2) := by unfold doneF; rw [hx]
    rw [e]
    exact rdone_none w h hs f k v ok hx
  | some x =>
    cases hl : locO x.o with
    | true =>
      have e : doneF p f k v ok = (Fra.zero, 8) := by unfold doneF; rw [hx]; simp only [hl]; rfl
      rw [e]
      exact rdone_local w h hs f k v ok hx hl
    | false =>
      by_cases h8 : x.o = 8
      · have hsite := at_site hm hx h8
        obtain ⟨⟨ha0, ha1⟩, ⟨hb0, hb1⟩⟩ := at_regs hm hx
        obtain ⟨o, xa, xb, xc, xk⟩ := x
        simp only at ha0 ha1 hb0 hb1 hsite h8
        subst h8
        obtain ⟨na, rfl⟩ : ∃ n : Nat, xa = (n : Int) := ⟨xa.toNat, by omega⟩
        obtain ⟨nb, rfl⟩ : ∃ n : Nat, xb = (n : Int) := ⟨xb.toNat, by omega⟩
        obtain ⟨ns, rfl⟩ : ∃ n : Nat, xk = (n : Int) := ⟨xk.toNat, by omega⟩
        exact rdone_sel w h hs hm f k v ok hx (by omega) (by omega)
      · by_cases hk : k = -1
        · subst hk
          obtain ⟨⟨ha0, ha1⟩, ⟨hb0, hb1⟩⟩ := at_regs hm hx
          obtain ⟨o, xa, xb, xc, xk⟩ := x
          simp only at ha0 ha1 hb0 hb1 h8 hl
          obtain ⟨na, rfl⟩ : ∃ n : Nat, xa = (n : Int) := ⟨xa.toNat, by omega⟩
          obtain ⟨nb, rfl⟩ : ∃ n : Nat, xb = (n : Int) := ⟨xb.toNat, by omega⟩
          by_cases h6 : o = 6
          · subst h6
            rw [doneF_some (c := ⟨false, xc, (na : Int), (nb : Int)⟩) v ok hx hl (by unfold servedF; simp)]
            exact rdone_6 w h hs f v ok hx hl (by omega) (by omega)
          · rw [doneF_some (c := noRec) v ok hx hl (by unfold servedF; simp [h8, h6])]
            by_cases h10 : o = 10
            · subst h10
              exact rdone_10 w h hs f v ok hx hl
            · exact rdone_o w h hs f v ok hx hl h8 h6 h10
        · rw [doneF_none v ok hx hl (by unfold servedF; rw [if_neg h8, if_neg hk])]
          exact rdone_bad w h hs f k v ok hx hl h8 hk
end Go.Proofs.Ytplajidagpimdaa
