/-
  The document's guards in memory; the walks of tollbarref21's All, Step, Give, Want.
-/
import Derived.Deep.RegionHeld3
import Derived.Maps.AppendAt
import Derived.Test.YtbjfongjdlankaaUGks
import Derived.Test.YtbjfongjdlankaaULocks
import Derived.Test.YtbjfongjdlankaaTRef
namespace Go.Proofs.Ytbjfongjdlankaa
open Go.RowKit

/-- Block R is a guard of the document's on the locks Y, that is s; its row's slice starts at a. -/
structure RefG (W : World) (R Y : Nat) (a : Option Addr) (cap : Nat) (s : Gs) : Prop where
  head : W.heap[R]? = some (.cells #[.pointer (some ⟨Y, 0, Option.none⟩), .slice a s.l.length cap, .int .i64 (s.h : Int), .int .u16 (s.t : Int), .bool s.d] 48 (0, 0))
  row : RowT W a cap s.l
  le : s.h ≤ s.l.length
  len : s.l.length ≤ 4096
section
variable {W W' : World} {R Y : Nat} {a : Option Addr} {cap : Nat} {s : Gs}
theorem RefG.lt (h : RefG W R Y a cap s) : R < W.heap.size := (Array.getElem?_eq_some_iff.1 h.head).1
theorem RefG.c0 (h : RefG W R Y a cap s) : W.cell? ⟨R, 0, Option.none⟩ = some (.pointer (some ⟨Y, 0, Option.none⟩)) := by simp [World.cell?, h.head]
theorem RefG.c1 (h : RefG W R Y a cap s) : W.cell? ⟨R, 1, Option.none⟩ = some (.slice a s.l.length cap) := by simp [World.cell?, h.head]
theorem RefG.c2 (h : RefG W R Y a cap s) : W.cell? ⟨R, 2, Option.none⟩ = some (.int .i64 (s.h : Int)) := by simp [World.cell?, h.head]
theorem RefG.c3 (h : RefG W R Y a cap s) : W.cell? ⟨R, 3, Option.none⟩ = some (.int .u16 (s.t : Int)) := by simp [World.cell?, h.head]
theorem RefG.c4 (h : RefG W R Y a cap s) : W.cell? ⟨R, 4, Option.none⟩ = some (.bool s.d) := by simp [World.cell?, h.head]
theorem RefG.frozen (h : RefG W R Y a cap s) (k : Nat) : W.frozen? ⟨R, k, Option.none⟩ = false := by simp [World.frozen?, h.head]
theorem RefG.but (h : RefG W R Y a cap s) {S : List Nat} (hb : But S W W') (hR : R ∉ S) (hS : NotInts W S) : RefG W' R Y a cap s :=
  ⟨(hb.block R h.lt hR).trans h.head, h.row.but hb hS, h.le, h.len⟩
theorem RefG.next (h : RefG W R Y a cap s) (hb : But [] W W') : RefG W' R Y a cap s := h.but hb (by simp) (NotInts.nil _)
theorem RefG.drewN (h : RefG W R Y a cap s) (k : Nat) : RefG (W.drewN k) R Y a cap s := ⟨h.head, h.row.drewN k, h.le, h.len⟩
theorem RefG.drew (h : RefG W R Y a cap s) : RefG W.drew R Y a cap s := h.drewN 1
theorem RefG.own (h : RefG W R Y a cap s) : NotInts W [R] := NotInts.cons h.head (by decide) (NotInts.nil _)
theorem RefG.setL (h : RefG W R Y a cap s) {b : Option Addr} {kap : Nat} {l : List Int} {n : Nat} (hn : n = l.length) (hr : RowT W b kap l) (hh : s.h ≤ l.length) (hl : l.length ≤ 4096) : RefG (W.setCell ⟨R, 1, Option.none⟩ (.slice b n kap)) R Y b kap ⟨l, s.h, s.d, s.t⟩ := by
  subst hn
  exact ⟨heap_set_same _ h.head, hr.but ((But.refl [R] W).set (.inl (by simp)) _) h.own, hh, hl⟩
theorem RefG.setH (h : RefG W R Y a cap s) {k : Nat} {x : Int} (hx : x = (k : Int)) (hk : k ≤ s.l.length) : RefG (W.setCell ⟨R, 2, Option.none⟩ (.int .i64 x)) R Y a cap ⟨s.l, k, s.d, s.t⟩ := by
  subst hx
  exact ⟨heap_set_same _ h.head, h.row.but ((But.refl [R] W).set (.inl (by simp)) _) h.own, hk, h.len⟩
theorem RefG.setT (h : RefG W R Y a cap s) {k : Nat} {x : Int} (hx : x = (k : Int)) : RefG (W.setCell ⟨R, 3, Option.none⟩ (.int .u16 x)) R Y a cap ⟨s.l, s.h, s.d, k⟩ := by
  subst hx
  exact ⟨heap_set_same _ h.head, h.row.but ((But.refl [R] W).set (.inl (by simp)) _) h.own, h.le, h.len⟩
theorem RefG.setD (h : RefG W R Y a cap s) (b : Bool) : RefG (W.setCell ⟨R, 4, Option.none⟩ (.bool b)) R Y a cap ⟨s.l, s.h, b, s.t⟩ :=
  ⟨heap_set_same _ h.head, h.row.but ((But.refl [R] W).set (.inl (by simp)) _) h.own, h.le, h.len⟩
/-- What turns the document's cells leaves guards; what turns a guard leaves cells and locks. -/
theorem RefG.cells {M g : Nat} {vs : List Nat} {c : Nat} (h : RefG W R Y a cap s) (hC : RefC W M g vs c) (hb : But [M] W W') : RefG W' R Y a cap s := by
  obtain ⟨cap', hh, _⟩ := hC.head
  exact h.but hb (by simpa using type_ne h.head hh (by decide)) (NotInts.cons hh (by decide) (NotInts.nil _))
theorem RefC.guard {M g : Nat} {vs : List Nat} {c : Nat} (hC : RefC W M g vs c) (h : RefG W R Y a cap s) (hb : But [R] W W') : RefC W' M g vs c := by
  obtain ⟨cap', hh, _⟩ := hC.head
  obtain ⟨cs, z, hr⟩ := hC.row
  exact hC.but hb (by simpa using type_ne hh h.head (by decide)) (by simpa using type_ne hr h.head (by decide))
theorem RefL.guard {Y' M base n : Nat} (hL : RefL W Y' M base n) (h : RefG W R Y a cap s) (hb : But [R] W W') : RefL W' Y' M base n :=
  hL.but hb (by simpa using type_ne hL.head h.head (by decide))
theorem RefL.cells {Y' M base n g : Nat} {vs : List Nat} {c : Nat} (hL : RefL W Y' M base n) (hC : RefC W M g vs c) (hb : But [M] W W') : RefL W' Y' M base n := by
  obtain ⟨cap', hh, _⟩ := hC.head
  exact hL.but hb (by simpa using type_ne hL.head hh (by decide))
end
/-- What a call leaves of a guard and its cells. -/
def RPost (w : World) (R Y M base n g : Nat) (a : Option Addr) (cap : Nat) (s' : Gs) (vs' : List Nat) (c' : Nat) (w' : World) : Prop :=
  RefG w' R Y a cap s' ∧ RefL w' Y M base n ∧ ∃ g', RefC w' M g' vs' c' ∧ (g' = g ∨ w.heap.size ≤ g') ∧ But [M, R] w w'

theorem rall_any {R Y : Nat} {a : Option Addr} {cap : Nat} {s : Gs} (w : World) (h : RefG w R Y a cap s) :
    Calls Try.prog 32 #[.pointer (some ⟨R, 0, none⟩)] w fun e w' => e = .returned (.bool s.all) ∧ ∃ m, w' = w.drewN m := by
  have c1 := h.c1
  have c2 := h.c2
  have hle := h.le
  have hlen := h.len
  have hb := beq_nat s.h s.l.length
  have hR : Hid (s.all = ((s.h : Int) == (s.l.length : Int))) := Lib.hid hb.out.symm
  clear h hb
  go_enter Try.func32, Try.ntmps32
  go_wp2_with fail
  go_quiet (fail)
  go_wp2_with fail
  go_ret
  exact ⟨by rw [hR.out]; rfl, _, rfl⟩

theorem rstep_all {R Y M base n g c : Nat} {vs : List Nat} {a : Option Addr} {cap : Nat} {s : Gs} (w : World) (h : RefG w R Y a cap s) (hL : RefL w Y M base n) (hC : RefC w M g vs c) (hs : s.all = true) :
    Calls Try.prog 11 #[.pointer (some ⟨R, 0, none⟩)] w fun e w' => e = .returned (.tuple #[.bool false, .int .i64 3]) ∧ RPost w R Y M base n g a cap s vs c w' := by
  have hall := rall_any w h
  rw [hs] at hall
  have H := Lib.hid (And.intro h (And.intro hL hC))
  clear h hL hC hs
  go_enter Try.func11, Try.ntmps11
  go_wp2_with fail
  refine hall.mono ?_
  rintro e w1 ⟨rfl, m, rfl⟩
  go_wp2_with fail
  go_ret2
  exact ⟨rfl, H.out.1.drewN m, H.out.2.1.drewN m, g, H.out.2.2.drewN m, .inl rfl, (But.refl _ _).drewN m⟩

theorem rstep_draw {R Y M base n g c : Nat} {vs : List Nat} {a : Option Addr} {cap : Nat} {s : Gs} (w : World) (h : RefG w R Y a cap s) (hL : RefL w Y M base n) (hC : RefC w M g vs c) (hl : base + 2 * n ≤ vs.length) (hs : s.all = false) (hd : s.d = false) :
    Calls Try.prog 11 #[.pointer (some ⟨R, 0, none⟩)] w fun e w' => e = .returned (.tuple #[.bool false, .int .i64 0]) ∧ RPost w R Y M base n g a cap ⟨s.l, s.h, true, drawE base n vs (atI s.l s.h)⟩ (drawV base n vs (atI s.l s.h)) (countUp n c (atI s.l s.h)) w' := by
  have hall := rall_any w h
  rw [hs] at hall
  have hlt : s.h < s.l.length := by have := h.le; have := of_decide_eq_false hs; omega
  have hlt' : (s.h : Int) < (s.l.length : Int) := by omega
  have e0 := h.c0
  have e1 := h.c1
  have e2 := h.c2
  have e4 := h.c4
  rw [hd] at e4
  obtain ⟨b, off, cs, z, rfl, -, hrow⟩ := h.row.row (by omega)
  have cr := hrow _ hlt
  have hdr := fun m => rdraw_any (atI s.l s.h) (w.drewN m) (hL.drewN m) (hC.drewN m) hl
  obtain ⟨k, hk⟩ : ∃ k, k = atI s.l s.h := ⟨_, rfl⟩
  rw [← hk] at cr hdr
  rw [← hk]
  have H := Lib.hid (And.intro h (And.intro hL hC))
  clear h hL hC hd hrow hk hs
  go_enter Try.func11, Try.ntmps11
  go_wp2_with fail
  refine hall.mono ?_
  rintro e w1 ⟨rfl, m, rfl⟩
  go_wp2_with fail
  go_quiet (fail)
  go_wp2_with fail
  refine (hdr (m + nq)).mono ?_
  rintro e w2 ⟨rfl, g2, hC2, hg2, hb2⟩
  have hG2 := (H.out.1.drewN (m + nq)).cells (H.out.2.2.drewN (m + nq)) hb2
  have hL2 := (H.out.2.1.drewN (m + nq)).cells (H.out.2.2.drewN (m + nq)) hb2
  have hb2' : But [M] w w2 := ((But.refl [M] w).drewN (m + nq)).next hb2
  have x3 := hG2.c3
  have x4 := hG2.c4
  have f3 := hG2.frozen 3
  have f4 := hG2.frozen 4
  have hG4 := (hG2.setT (k := drawE base n vs k) rfl).setD true
  have hgb := ((But.refl [R] w2).set (p := ⟨R, 3, none⟩) (.inl (by simp)) (.int .u16 (drawE base n vs k : Int))).set (p := ⟨R, 4, none⟩) (.inl (by simp)) (.bool true)
  have hL4 := hL2.guard hG2 hgb
  have hC4 := hC2.guard hG2 hgb
  have hb4 := ((hb2'.mono (T := [M, R]) (by simp)).set (p := ⟨R, 3, none⟩) (.inl (by simp)) (.int .u16 (drawE base n vs k : Int))).set (p := ⟨R, 4, none⟩) (.inl (by simp)) (.bool true)
  clear hdr hall e0 e1 e2 e4 cr hC2 hb2 hL2 hb2' hgb hG2
  go_wp2_with fail
  go_ret2
  exact ⟨rfl, hG4, hL4, g2, hC4, hg2, hb4⟩

theorem rstep_mine {R Y M base n g c : Nat} {vs : List Nat} {a : Option Addr} {cap : Nat} {s : Gs} (w : World) (h : RefG w R Y a cap s) (hL : RefL w Y M base n) (hC : RefC w M g vs c) (hl : base + 2 * n ≤ vs.length) (hs : s.all = false) (hd : s.d = true) (hm : mineE base n vs (atI s.l s.h) s.t = true) :
    Calls Try.prog 11 #[.pointer (some ⟨R, 0, none⟩)] w fun e w' => e = .returned (.tuple #[.bool (decide (s.h + 1 = s.l.length)), .int .i64 0]) ∧ RPost w R Y M base n g a cap ⟨s.l, s.h + 1, false, 0⟩ vs (countUp n c (atI s.l s.h)) w' := by
  have hall := rall_any w h
  rw [hs] at hall
  have HS := Lib.hid hs
  have hlt : s.h < s.l.length := by have := h.le; have := of_decide_eq_false hs; omega
  have hlt' : (s.h : Int) < (s.l.length : Int) := by omega
  have e0 := h.c0
  have e1 := h.c1
  have e2 := h.c2
  have e3 := h.c3
  have e4 := h.c4
  rw [hd] at e4
  obtain ⟨b, off, cs, z, rfl, -, hrow⟩ := h.row.row (by omega)
  have cr := hrow _ hlt
  have hmn := fun m => rmine_any (atI s.l s.h) s.t (w.drewN m) (hL.drewN m) (hC.drewN m) hl
  simp only [hm] at hmn
  obtain ⟨k, hk⟩ : ∃ k, k = atI s.l s.h := ⟨_, rfl⟩
  rw [← hk] at cr hmn hm
  rw [← hk]
  have H := Lib.hid (And.intro h (And.intro hL hC))
  clear h hL hC hd hrow hk hs hm
  go_enter Try.func11, Try.ntmps11
  go_wp2_with fail
  refine hall.mono ?_
  rintro e w1 ⟨rfl, m, rfl⟩
  go_wp2_with fail
  go_quiet (fail)
  go_wp2_with fail
  refine wp_region_still_tail 9 (by kernel_rfl) (by kernel_rfl) ?_
  simp only [List.take_succ_cons, List.take_zero, List.drop_succ_cons, List.drop_zero]
  change wpStill _ _ (World.drewN w (m + nq)).drew (fun a' => wpList _ _ _ _ a' (World.drewN w (m + nq)).drew) _ _
  repeat still_step
  refine wpStill_nil ?_
  go_wp2_with fail
  refine (hmn (m + nq + 1)).mono ?_
  rintro e w2 ⟨rfl, g2, hC2, hg2, hb2⟩
  have hG2 := (H.out.1.drewN (m + nq + 1)).cells (H.out.2.2.drewN (m + nq + 1)) hb2
  have hL2 := (H.out.2.1.drewN (m + nq + 1)).cells (H.out.2.2.drewN (m + nq + 1)) hb2
  have hb2' : But [M] w w2 := ((But.refl [M] w).drewN (m + nq + 1)).next hb2
  have x2 := hG2.c2
  have x3 := hG2.c3
  have x4 := hG2.c4
  have f2 := hG2.frozen 2
  have f3 := hG2.frozen 3
  have f4 := hG2.frozen 4
  have hle := hG2.len
  have hwr : IntKind.i64.wrap ((s.h : Int) + 1) = ((s.h + 1 : Nat) : Int) := by rw [IntWalk.i64_in _ (by omega)]; omega
  have hG4 := ((hG2.setH (x := (s.h : Int) + 1) (k := s.h + 1) (by omega) (by omega)).setD false).setT (x := 0) (k := 0) rfl
  have hgb := (((But.refl [R] w2).set (p := ⟨R, 2, none⟩) (.inl (by simp)) (.int .i64 ((s.h : Int) + 1))).set (p := ⟨R, 4, none⟩) (.inl (by simp)) (.bool false)).set (p := ⟨R, 3, none⟩) (.inl (by simp)) (.int .u16 0)
  have hL4 := hL2.guard hG2 hgb
  have hC4 := hC2.guard hG2 hgb
  have hb4 := (((hb2'.mono (T := [M, R]) (by simp)).set (p := ⟨R, 2, none⟩) (.inl (by simp)) (.int .i64 ((s.h : Int) + 1))).set (p := ⟨R, 4, none⟩) (.inl (by simp)) (.bool false)).set (p := ⟨R, 3, none⟩) (.inl (by simp)) (.int .u16 0)
  have hall2 := rall_any _ hG4
  rw [show Gs.all ⟨s.l, s.h + 1, false, 0⟩ = decide (s.h + 1 = s.l.length) from rfl] at hall2
  clear hmn hall e0 e1 e2 e4 cr hC2 hb2 hL2 hb2' hgb hG2
  go_wp2_with fail
  refine hall2.mono ?_
  rintro e w4 ⟨rfl, m4, rfl⟩
  go_wp2_with fail
  go_ret2
  exact ⟨rfl, hG4.drewN _, hL4.drewN _, g2, hC4.drewN _, hg2, hb4.drewN _⟩

theorem rstep_not {R Y M base n g c : Nat} {vs : List Nat} {a : Option Addr} {cap : Nat} {s : Gs} (w : World) (h : RefG w R Y a cap s) (hL : RefL w Y M base n) (hC : RefC w M g vs c) (hl : base + 2 * n ≤ vs.length) (hs : s.all = false) (hd : s.d = true) (hm : mineE base n vs (atI s.l s.h) s.t = false) :
    Calls Try.prog 11 #[.pointer (some ⟨R, 0, none⟩)] w fun e w' => e = .returned (.tuple #[.bool false, .int .i64 0]) ∧ RPost w R Y M base n g a cap s vs (countUp n c (atI s.l s.h)) w' := by
  have hall := rall_any w h
  rw [hs] at hall
  have HS := Lib.hid hs
  have hlt : s.h < s.l.length := by have := h.le; have := of_decide_eq_false hs; omega
  have hlt' : (s.h : Int) < (s.l.length : Int) := by omega
  have e0 := h.c0
  have e1 := h.c1
  have e2 := h.c2
  have e3 := h.c3
  have e4 := h.c4
  rw [hd] at e4
  obtain ⟨b, off, cs, z, rfl, -, hrow⟩ := h.row.row (by omega)
  have cr := hrow _ hlt
  have hmn := fun m => rmine_any (atI s.l s.h) s.t (w.drewN m) (hL.drewN m) (hC.drewN m) hl
  simp only [hm] at hmn
  obtain ⟨k, hk⟩ : ∃ k, k = atI s.l s.h := ⟨_, rfl⟩
  rw [← hk] at cr hmn hm
  rw [← hk]
  have H := Lib.hid (And.intro h (And.intro hL hC))
  clear h hL hC hd hrow hk hs hm
  go_enter Try.func11, Try.ntmps11
  go_wp2_with fail
  refine hall.mono ?_
  rintro e w1 ⟨rfl, m, rfl⟩
  go_wp2_with fail
  go_quiet (fail)
  go_wp2_with fail
  refine wp_region_still_tail 9 (by kernel_rfl) (by kernel_rfl) ?_
  simp only [List.take_succ_cons, List.take_zero, List.drop_succ_cons, List.drop_zero]
  change wpStill _ _ (World.drewN w (m + nq)).drew (fun a' => wpList _ _ _ _ a' (World.drewN w (m + nq)).drew) _ _
  repeat still_step
  refine wpStill_nil ?_
  go_wp2_with fail
  refine (hmn (m + nq + 1)).mono ?_
  rintro e w2 ⟨rfl, g2, hC2, hg2, hb2⟩
  have hG2 := (H.out.1.drewN (m + nq + 1)).cells (H.out.2.2.drewN (m + nq + 1)) hb2
  have hL2 := (H.out.2.1.drewN (m + nq + 1)).cells (H.out.2.2.drewN (m + nq + 1)) hb2
  have hb2' : But [M] w w2 := ((But.refl [M] w).drewN (m + nq + 1)).next hb2
  have hall2 := rall_any _ hG2
  rw [HS.out] at hall2
  have hb4 := hb2'.mono (T := [M, R]) (by simp)
  clear hmn hall e0 e1 e2 e4 cr hb2 hb2'
  go_wp2_with fail
  refine hall2.mono ?_
  rintro e w4 ⟨rfl, m4, rfl⟩
  go_wp2_with fail
  go_ret2
  exact ⟨rfl, hG2.drewN _, hL2.drewN _, g2, hC2.drewN _, hg2, hb4.drewN _⟩

theorem rstep_any {R Y M base n g c : Nat} {vs : List Nat} {a : Option Addr} {cap : Nat} {s : Gs} (w : World) (h : RefG w R Y a cap s) (hL : RefL w Y M base n) (hC : RefC w M g vs c) (hl : base + 2 * n ≤ vs.length) :
    Calls Try.prog 11 #[.pointer (some ⟨R, 0, none⟩)] w fun e w' => e = .returned (.tuple #[.bool (stepA base n vs s), .int .i64 (stepE s)]) ∧ RPost w R Y M base n g a cap (stepS base n vs s) (stepV base n vs s) (stepC n c s) w' := by
  unfold stepS stepV stepC stepA stepE
  cases hs : s.all with
  | true => exact rstep_all w h hL hC hs
  | false =>
    unfold stepS
    rw [hs]
    cases hd : s.d with
    | false =>
      have := rstep_draw w h hL hC hl hs hd
      rw [show (if (false : Bool) = true then false else Gs.all (if (false : Bool) = true then s else if (false : Bool) = false then { s with t := drawE base n vs (atI s.l s.h), d := true } else if mineE base n vs (atI s.l s.h) s.t = true then { s with h := s.h + 1, d := false, t := 0 } else s)) = false from hs]
      exact this
    | true =>
      cases hm : mineE base n vs (atI s.l s.h) s.t with
      | true => exact rstep_mine w h hL hC hl hs hd hm
      | false =>
        have := rstep_not w h hL hC hl hs hd hm
        rw [← hs] at this
        simpa [hs, hd, hm] using this
end Go.Proofs.Ytbjfongjdlankaa
