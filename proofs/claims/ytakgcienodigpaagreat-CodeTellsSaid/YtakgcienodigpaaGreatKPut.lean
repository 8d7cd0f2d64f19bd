/-
  The walks of putCase, putSite.
-/
import Derived.Test.YtakgcienodigpaaGreatKRow
import Derived.Test.YtakgcienodigpaaGreatKMap
import Derived.Deep.RegionHeld3
namespace Go.Proofs.YtakgcienodigpaaGreat
open Go.RowKit Oct

theorem num10 {v : Nat} (h : v < 9223372036854775808) : (numL v).length ≤ 10 := numL_len10 (by omega)
theorem numZ10 {v : Int} (h0 : 0 ≤ v) (h : I64b v) : (numZ v).length ≤ 10 := num10 (by have := h.2; omega)
theorem numC10 {v : Int} (h0 : -1 ≤ v) (h : v ≤ 5) : (numZ (v + 1)).length ≤ 10 := num10 (by omega)
theorem flag10 (b : Bool) : (flagL b).length ≤ 10 := num10 (by split <;> omega)
theorem fold10 {v : Int} (h : I64b v) : (numL (foldN v)).length ≤ 10 := numL_len10 (by have := foldN_lt h.1 h.2; omega)
theorem opt10 {b : Bool} {l : List UInt8} (h : b = true → l.length ≤ 10) : (optL b l).length ≤ 10 := by
  cases b
  · simp [optL]
  · exact h rfl
theorem case_len {x : Cas} (hx : x.ok) (h : CasMay 7 x) : (caseL x).length ≤ 40 := by
  have h1 := flag10 x.s
  have h2 := numC10 h.c.1 h.c.2
  have h3 := numZ10 h.v.1 hx.v
  have h4 := numZ10 h.o.1 hx.o
  simp only [caseL, List.length_append]
  omega
theorem str_app (l m : List UInt8) : (⟨l.toArray⟩ : ByteArray) ++ ⟨m.toArray⟩ = ⟨(l ++ m).toArray⟩ := ByteArray.mk_append_mk l m

set_option maxRecDepth 100000 in
set_option maxHeartbeats 1600000 in
theorem putCase_any (x : Cas) (hx : x.ok) (h : CasMay 7 x) (w : World) :
    Calls Tryz.prog 44 #[.agg #[.bool x.s, .int .i64 x.c, .int .i64 x.v, .int .i64 x.o]] w fun e w' => e = .returned (.string ⟨(caseL x).toArray⟩) ∧ Below w.heap.size w w' := by
  obtain ⟨wf, hwf⟩ : ∃ wf, wf = w.alloc (.cells #[.bool x.s, .int .i64 x.c, .int .i64 x.v, .int .i64 x.o] 52) := ⟨_, rfl⟩
  have hb0 : Below w.heap.size w wf := by rw [hwf]; exact (Below.refl _ w).alloc (Nat.le_refl _) _
  have hk : Blk wf w.heap.size 52 #[.bool x.s, .int .i64 x.c, .int .i64 x.v, .int .i64 x.o] := by rw [hwf]; exact blk_new w _ _
  have hk0 : ∀ W, Below wf.heap.size wf W → W.cell? ⟨w.heap.size, 0, none⟩ = some (.bool x.s) := fun W hW => (hk.later hW hk.lt).cell rfl
  have hk1 : ∀ W, Below wf.heap.size wf W → W.cell? ⟨w.heap.size, 1, none⟩ = some (.int .i64 x.c) := fun W hW => (hk.later hW hk.lt).cell rfl
  have hk2 : ∀ W, Below wf.heap.size wf W → W.cell? ⟨w.heap.size, 2, none⟩ = some (.int .i64 x.v) := fun W hW => (hk.later hW hk.lt).cell rfl
  have hk3 : ∀ W, Below wf.heap.size wf W → W.cell? ⟨w.heap.size, 3, none⟩ = some (.int .i64 x.o) := fun W hW => (hk.later hW hk.lt).cell rfl
  have cf : ∀ W, Below wf.heap.size wf W → Calls Tryz.prog 42 #[.bool x.s] W fun e w' => e = .returned (.string ⟨(flagL x.s).toArray⟩) ∧ Below wf.heap.size wf w' := fun W hW => (putFlag_any x.s W).mono fun e w' ⟨h1, h2⟩ => ⟨h1, below_next hW h2 (Nat.le_refl _)⟩
  have cc : ∀ W, Below wf.heap.size wf W → Calls Tryz.prog 74 #[.int .i64 x.c] W fun e w' => e = .returned (.string ⟨(numZ (x.c + 1)).toArray⟩) ∧ Below wf.heap.size wf w' := fun W hW => (putChannel_any x.c W h.c.1 h.c.2).mono fun e w' ⟨h1, h2⟩ => ⟨h1, below_next hW h2 (Nat.le_refl _)⟩
  have cv : ∀ v W, 0 ≤ v → I64b v → Below wf.heap.size wf W → Calls Tryz.prog 14 #[.int .i64 v] W fun e w' => e = .returned (.string ⟨(numZ v).toArray⟩) ∧ Below wf.heap.size wf w' := fun v W h0 hv hW => (putZ_any v W h0 hv).mono fun e w' ⟨h1, h2⟩ => ⟨h1, below_next hW h2 (Nat.le_refl _)⟩
  have v0 := h.v.1
  have vb := hx.v
  have o0 := h.o.1
  have ob := hx.o
  have l1 := flag10 x.s
  have l2 := numC10 h.c.1 h.c.2
  have l3 := numZ10 v0 vb
  have l4 := numZ10 o0 ob
  have hD0 : Below wf.heap.size wf wf.drew := (Below.refl _ _).drew
  have a1 : ¬ 9223372036854775807 < (flagL x.s).length + (numZ (x.c + 1)).length := by omega
  have a2 : ¬ 9223372036854775807 < (flagL x.s).length + (numZ (x.c + 1)).length + (numZ x.v).length := by omega
  have a3 : ¬ 9223372036854775807 < (flagL x.s).length + (numZ (x.c + 1)).length + (numZ x.v).length + (numZ x.o).length := by omega
  go_enter Tryz.func44, Tryz.ntmps44
  go_wp2_with fail
  rw [← hwf]
  clear hwf hk
  go_region_held3 (fun w' => w'.cell? ⟨w.heap.size, 0, none⟩ = some (.bool x.s) ∧ w'.cell? ⟨w.heap.size, 1, none⟩ = some (.int .i64 x.c) ∧ w'.cell? ⟨w.heap.size, 2, none⟩ = some (.int .i64 x.v) ∧ w'.cell? ⟨w.heap.size, 3, none⟩ = some (.int .i64 x.o) ∧ Below wf.heap.size wf w')
    (refine ⟨?_, ?_, ?_, ?_, ?_⟩ <;> first | assumption | exact hk0 _ (by assumption) | exact hk1 _ (by assumption) | exact hk2 _ (by assumption) | exact hk3 _ (by assumption))
    ((first
      | (go_at_call 42; refine (cf _ (by assumption)).mono ?_; rintro e w2 ⟨rfl, hb2⟩)
      | (go_at_call 74; refine (cc _ (by assumption)).mono ?_; rintro e w2 ⟨rfl, hb2⟩)
      | (go_at_call 14; refine (cv _ _ (by assumption) (by assumption) (by assumption)).mono ?_; rintro e w2 ⟨rfl, hb2⟩)))
  go_wp2_with fail
  go_ret
  exact ⟨ret_v (by simp only [str_app]; rfl), hb0.trans (hb2.mono hb0.size)⟩

theorem putCases_any {lo hi : Nat} {v : Value} {xs : List Cas} (w : World) (h : CasesAt lo hi w v xs) (t : hi ≤ w.heap.size) (hn : xs.length ≤ 6) (hm : ∀ x ∈ xs, CasMay 7 x) :
    Calls Tryz.prog 43 #[v, .func (.func 44) #[] #[]] w fun e w' => e = .returned (.string ⟨(rowL caseL xs).toArray⟩) ∧ Below w.heap.size w w' := by
  have hok := h.2
  refine (putRowCase_any [] (fun _ => True) 40 w h t (by omega) (by omega) (fun x hx => case_len (hok x hx) (hm x hx)) (by simp) (fun _ _ _ _ => trivial) trivial (fun W x hx ok _ => (putCase_any x ok (hm x hx) W).mono fun e w' ⟨h1, h2⟩ => ⟨h1, But.of_below h2 [], trivial⟩)).mono ?_
  rintro e w' ⟨h1, h2, _⟩
  exact ⟨h1, h2.below (Nat.le_refl _) (by simp)⟩
theorem site_len {x : Sit} (hok : ∀ y ∈ x.cs, y.ok) (h : SitMay 7 x) : (siteL x).length ≤ 300 := by
  have h1 := flag10 x.d
  have h2 := row_le (f := caseL) (M := 40) (fun y hy => case_len (hok y hy) (h.2 y hy)) (by have := h.1; omega)
  have h3 := h.1
  simp only [siteL, List.length_append]
  omega

set_option maxRecDepth 100000 in
set_option maxHeartbeats 1600000 in
theorem putSite_any {lo hi : Nat} {ra : Option Addr} {rc : Nat} (x : Sit) (w : World) (hC : CasesAt lo hi w (.slice ra x.cs.length rc) x.cs) (t : hi ≤ w.heap.size) (h : SitMay 7 x) :
    Calls Tryz.prog 16 #[.agg #[.slice ra x.cs.length rc, .bool x.d]] w fun e w' => e = .returned (.string ⟨(siteL x).toArray⟩) ∧ Below w.heap.size w w' := by
  obtain ⟨wf, hwf⟩ : ∃ wf, wf = w.alloc (.cells #[.slice ra x.cs.length rc, .bool x.d] 40) := ⟨_, rfl⟩
  have hb0 : Below w.heap.size w wf := by rw [hwf]; exact (Below.refl _ w).alloc (Nat.le_refl _) _
  have hk : Blk wf w.heap.size 40 #[.slice ra x.cs.length rc, .bool x.d] := by rw [hwf]; exact blk_new w _ _
  have hk0 : ∀ W, Below wf.heap.size wf W → W.cell? ⟨w.heap.size, 0, none⟩ = some (.slice ra x.cs.length rc) := fun W hW => (hk.later hW hk.lt).cell rfl
  have hk1 : ∀ W, Below wf.heap.size wf W → W.cell? ⟨w.heap.size, 1, none⟩ = some (.bool x.d) := fun W hW => (hk.later hW hk.lt).cell rfl
  have cf : ∀ W, Below wf.heap.size wf W → Calls Tryz.prog 42 #[.bool x.d] W fun e w' => e = .returned (.string ⟨(flagL x.d).toArray⟩) ∧ Below wf.heap.size wf w' := fun W hW => (putFlag_any x.d W).mono fun e w' ⟨h1, h2⟩ => ⟨h1, below_next hW h2 (Nat.le_refl _)⟩
  have cr : ∀ W, Below wf.heap.size wf W → Calls Tryz.prog 43 #[.slice ra x.cs.length rc, .func (.func 44) #[] #[]] W fun e w' => e = .returned (.string ⟨(rowL caseL x.cs).toArray⟩) ∧ Below wf.heap.size wf w' := fun W hW =>
    (putCases_any W (hC.stay (fun b _ hb => (hW.block b (by have := hb0.size; omega)).trans (hb0.block b (by omega)))) (by have := hb0.size; have := hW.size; omega) h.1 h.2).mono fun e w' ⟨h1, h2⟩ => ⟨h1, below_next hW h2 (Nat.le_refl _)⟩
  have l1 := flag10 x.d
  have l2 := row_le (f := caseL) (M := 40) (fun y hy => case_len (hC.2 y hy) (h.2 y hy)) (by have := h.1; omega)
  have l3 := h.1
  have a1 : ¬ 9223372036854775807 < (flagL x.d).length + (rowL caseL x.cs).length := by omega
  have hD0 : Below wf.heap.size wf wf.drew := (Below.refl _ _).drew
  clear l1 l2 l3
  go_enter Tryz.func16, Tryz.ntmps16
  go_wp2_with fail
  rw [← hwf]
  clear hwf hk hC
  go_region_held3 (fun w' => w'.cell? ⟨w.heap.size, 0, none⟩ = some (.slice ra x.cs.length rc) ∧ w'.cell? ⟨w.heap.size, 1, none⟩ = some (.bool x.d) ∧ Below wf.heap.size wf w')
    (refine ⟨?_, ?_, ?_⟩ <;> first | assumption | exact hk0 _ (by assumption) | exact hk1 _ (by assumption))
    ((first
      | (go_at_call 42; refine (cf _ (by assumption)).mono ?_; rintro e w2 ⟨rfl, hb2⟩)
      | (go_at_call 43; refine (cr _ (by assumption)).mono ?_; rintro e w2 ⟨rfl, hb2⟩)))
  go_wp2_with fail
  go_ret
  exact ⟨ret_v (by simp only [str_app]; rfl), hb0.trans (hb2.mono hb0.size)⟩
theorem putSites_any {lo hi : Nat} {v : Value} {xs : List Sit} (w : World) (h : SitesAt lo hi w v xs) (t : hi ≤ w.heap.size) (hn : xs.length ≤ 12) (hok : ∀ x ∈ xs, ∀ y ∈ x.cs, y.ok) (hm : ∀ x ∈ xs, SitMay 7 x) :
    Calls Tryz.prog 15 #[v, .func (.func 16) #[] #[]] w fun e w' => e = .returned (.string ⟨(rowL siteL xs).toArray⟩) ∧ Below w.heap.size w w' := by
  refine (putRowSite_any [] (fun _ => True) 300 w h t (by omega) (by omega) (fun x hx => site_len (hok x hx) (hm x hx)) (by simp) (fun _ _ _ _ => trivial) trivial (fun W x ra rc hx hC t' _ => (putSite_any x W hC t' (hm x hx)).mono fun e w' ⟨h1, h2⟩ => ⟨h1, But.of_below h2 [], trivial⟩)).mono ?_
  rintro e w' ⟨h1, h2, _⟩
  exact ⟨h1, h2.below (Nat.le_refl _) (by simp)⟩
theorem putCaps_any {lo hi : Nat} {v : Value} {xs : List Int} (w : World) (h : IntsAt lo hi w v xs) (t : hi ≤ w.heap.size) (hn : xs.length ≤ 6) (hm : ∀ x ∈ xs, 0 ≤ x) :
    Calls Tryz.prog 13 #[v, .func (.func 14) #[] #[]] w fun e w' => e = .returned (.string ⟨(rowL numZ xs).toArray⟩) ∧ Below w.heap.size w w' := by
  have hok := h.2
  refine (putRowInt_any [] (fun _ => True) 10 w h t (by omega) (by omega) (fun x hx => numZ10 (hm x hx) (hok x hx)) (by simp) (fun _ _ _ _ => trivial) trivial (fun W x hx ok _ => (putZ_any x W (hm x hx) ok).mono fun e w' ⟨h1, h2⟩ => ⟨h1, But.of_below h2 [], trivial⟩)).mono ?_
  rintro e w' ⟨h1, h2, _⟩
  exact ⟨h1, h2.below (Nat.le_refl _) (by simp)⟩
end Go.Proofs.YtakgcienodigpaaGreat
