/-
  The walks of sched.own, Made, Live, Busy, List, Next, Copy.
-/
import Derived.Test.YtfdinodcbeipcaaZDo
namespace Go.Proofs.Ytfdinodcbeipcaa
open Go.RowKit

/-- What own answers of a scheduler. -/
abbrev ownV (F : Nat) (s : Ss) : Value := .agg #[ptrO F, .int .i64 (s.m : Int), .int .i64 (s.made : Int), .int .i64 (s.live : Int), .int .i64 (s.busy : Int)]
abbrev ownZ : Value := .agg #[.pointer none, .int .i64 0, .int .i64 0, .int .i64 0, .int .i64 0]
abbrev partsZ : Obj := .cells #[.pointer none, .int .i64 0, .int .i64 0, .int .i64 0, .int .i64 0] 52

set_option maxHeartbeats 1000000 in
theorem own_nil (w : World) :
    Calls Try.prog 37 #[.pointer none] w fun e w' => e = .returned ownZ ∧ But [] w w' := by
  go_enter Try.func37, Try.ntmps37
  go_wp2_with fail
  have hb := World.alloc_heap_new w partsZ
  refine bodyPost_ret (v := ownZ) (results_cell_row rfl _ _ w.heap.size 52 _ (0, 0) _ rfl hb Try.underlying52 rfl (by kernel_rfl)) rfl ?_
  exact ⟨rfl, (But.refl _ _).alloc _⟩
set_option maxHeartbeats 1000000 in
theorem own_any {S F : Nat} {s : Ss} (w : World) (H : Scd w S F s) :
    Calls Try.prog 37 #[ptrO S] w fun e w' => e = .returned (ownV F s) ∧ But [] w w' := by
  have H1 := H.fresh ((But.refl [] w).alloc partsZ)
  have c0 := H1.c0
  have c1 := H1.c1
  have c2 := H1.c2
  have c3 := H1.c3
  have c4 := H1.c4
  clear H1 H
  go_enter Try.func37, Try.ntmps37
  go_wp2_with fail
  have hb := World.alloc_heap_new w (.cells #[ptrO F, .int .i64 (s.m : Int), .int .i64 (s.made : Int), .int .i64 (s.live : Int), .int .i64 (s.busy : Int)] 52)
  refine bodyPost_ret (v := ownV F s) (results_cell_row rfl _ _ w.heap.size 52 _ (0, 0) _ rfl hb Try.underlying52 rfl (by kernel_rfl)) rfl ?_
  exact ⟨rfl, (But.refl _ _).alloc _⟩

theorem part0 (v0 v1 v2 v3 v4 : Value) (w : World) : (Instr.field 52 (.agg #[v0, v1, v2, v3, v4]) 0).run Try.prog w = .ok v0 w := by kernel_rfl
theorem part2 (v0 v1 v2 v3 v4 : Value) (w : World) : (Instr.field 52 (.agg #[v0, v1, v2, v3, v4]) 2).run Try.prog w = .ok v2 w := by kernel_rfl
theorem part3 (v0 v1 v2 v3 v4 : Value) (w : World) : (Instr.field 52 (.agg #[v0, v1, v2, v3, v4]) 3).run Try.prog w = .ok v3 w := by kernel_rfl
theorem part4 (v0 v1 v2 v3 v4 : Value) (w : World) : (Instr.field 52 (.agg #[v0, v1, v2, v3, v4]) 4).run Try.prog w = .ok v4 w := by kernel_rfl

theorem zmade_any {S F : Nat} {s : Ss} (w : World) (H : Scd w S F s) :
    Calls Try.prog 22 #[ptrO S] w fun e w' => e = .returned (.int .i64 (s.made : Int)) ∧ But [] w w' := by
  have p := part2 (ptrO F) (.int .i64 (s.m : Int)) (.int .i64 (s.made : Int)) (.int .i64 (s.live : Int)) (.int .i64 (s.busy : Int))
  go_enter Try.func22, Try.ntmps22
  go_wp2_with fail
  refine (own_any w H).mono ?_
  rintro e w1 ⟨rfl, hb⟩
  go_wp2_with fail
  go_ret
  exact ⟨rfl, hb⟩
theorem zmade_nil (w : World) :
    Calls Try.prog 22 #[.pointer none] w fun e w' => e = .returned (.int .i64 0) ∧ But [] w w' := by
  have p := part2 (.pointer none) (.int .i64 0) (.int .i64 0) (.int .i64 0) (.int .i64 0)
  go_enter Try.func22, Try.ntmps22
  go_wp2_with fail
  refine (own_nil w).mono ?_
  rintro e w1 ⟨rfl, hb⟩
  go_wp2_with fail
  go_ret
  exact ⟨rfl, hb⟩
theorem zlive_any {S F : Nat} {s : Ss} (w : World) (H : Scd w S F s) :
    Calls Try.prog 23 #[ptrO S] w fun e w' => e = .returned (.int .i64 (s.live : Int)) ∧ But [] w w' := by
  have p := part3 (ptrO F) (.int .i64 (s.m : Int)) (.int .i64 (s.made : Int)) (.int .i64 (s.live : Int)) (.int .i64 (s.busy : Int))
  go_enter Try.func23, Try.ntmps23
  go_wp2_with fail
  refine (own_any w H).mono ?_
  rintro e w1 ⟨rfl, hb⟩
  go_wp2_with fail
  go_ret
  exact ⟨rfl, hb⟩
theorem zlive_nil (w : World) :
    Calls Try.prog 23 #[.pointer none] w fun e w' => e = .returned (.int .i64 0) ∧ But [] w w' := by
  have p := part3 (.pointer none) (.int .i64 0) (.int .i64 0) (.int .i64 0) (.int .i64 0)
  go_enter Try.func23, Try.ntmps23
  go_wp2_with fail
  refine (own_nil w).mono ?_
  rintro e w1 ⟨rfl, hb⟩
  go_wp2_with fail
  go_ret
  exact ⟨rfl, hb⟩
theorem zbusy_any {S F : Nat} {s : Ss} (w : World) (H : Scd w S F s) :
    Calls Try.prog 24 #[ptrO S] w fun e w' => e = .returned (.int .i64 (s.busy : Int)) ∧ But [] w w' := by
  have p := part4 (ptrO F) (.int .i64 (s.m : Int)) (.int .i64 (s.made : Int)) (.int .i64 (s.live : Int)) (.int .i64 (s.busy : Int))
  go_enter Try.func24, Try.ntmps24
  go_wp2_with fail
  refine (own_any w H).mono ?_
  rintro e w1 ⟨rfl, hb⟩
  go_wp2_with fail
  go_ret
  exact ⟨rfl, hb⟩
theorem zbusy_nil (w : World) :
    Calls Try.prog 24 #[.pointer none] w fun e w' => e = .returned (.int .i64 0) ∧ But [] w w' := by
  have p := part4 (.pointer none) (.int .i64 0) (.int .i64 0) (.int .i64 0) (.int .i64 0)
  go_enter Try.func24, Try.ntmps24
  go_wp2_with fail
  refine (own_nil w).mono ?_
  rintro e w1 ⟨rfl, hb⟩
  go_wp2_with fail
  go_ret
  exact ⟨rfl, hb⟩
theorem zlist_any {S F : Nat} {s : Ss} (w : World) (H : Scd w S F s) :
    Calls Try.prog 26 #[ptrO S] w fun e w' => ∃ v, e = .returned v ∧ w'.ownsRow w.heap.size 3 1 v s.l.length (I64 s.l) ∧ But [] w w' := by
  have p := part0 (ptrO F) (.int .i64 (s.m : Int)) (.int .i64 (s.made : Int)) (.int .i64 (s.live : Int)) (.int .i64 (s.busy : Int))
  go_enter Try.func26, Try.ntmps26
  go_wp2_with fail
  refine (own_any w H).mono ?_
  rintro e w1 ⟨rfl, hb⟩
  go_wp2_with fail
  refine (list_any w1 (H.fresh hb).row).mono ?_
  rintro e w2 ⟨v, rfl, hv, hb2⟩
  obtain ⟨a, n, c, rfl⟩ := owns_slice hv
  have HV := Lib.hid (And.intro hv (hb.next (But.of_below hb2 [])))
  have hs := hb.size
  clear hv hb2
  go_wp2_with fail
  go_ret
  refine ⟨_, rfl, ?_, HV.out.2⟩
  exact ⟨HV.out.1.1, HV.out.1.2.imp id fun ⟨g, c', d', e1, e2, r⟩ => ⟨g, c', d', e1, Nat.le_trans hs e2, r⟩⟩
theorem zlist_nil (w : World) :
    Calls Try.prog 26 #[.pointer none] w fun e w' => ∃ a c, e = .returned (.slice a 0 c) ∧ But [] w w' := by
  have p := part0 (.pointer none) (.int .i64 0) (.int .i64 0) (.int .i64 0) (.int .i64 0)
  go_enter Try.func26, Try.ntmps26
  go_wp2_with fail
  refine (own_nil w).mono ?_
  rintro e w1 ⟨rfl, hb⟩
  go_wp2_with fail
  refine (list_nil w1).mono ?_
  rintro e w2 ⟨a, c, rfl, hb2⟩
  go_wp2_with fail
  go_ret
  exact ⟨a, c, rfl, hb.next (But.of_below hb2 [])⟩

/-! ### Next -/
theorem znext_nil (w : World) :
    Calls Try.prog 11 #[.pointer none] w fun e w' => e = .returned (.tuple #[.int .i64 0, .int .u8 0]) ∧ But [] w w' := by
  go_enter Try.func11, Try.ntmps11
  go_wp2_with fail
  go_ret2
  exact ⟨rfl, (But.refl _ _).alloc _⟩
theorem found_any {S F V : Nat} {s : Ss} (w : World) (H : Scd w S F s) (hV : w.cell? ⟨V, 0, none⟩ = some (ptrO S)) :
    Calls Try.prog 31 #[ptrO V] w fun e w' => e = .returned (.int .u8 s.what) ∧ w' = w := by
  have c0 := H.c0
  have c3 := H.c3
  have c4 := H.c4
  have hlen := len_any w H.row
  unfold Ss.what
  by_cases h1 : s.l = []
  · rw [h1] at hlen
    rw [if_neg (by simp [h1])]
    simp only [List.length_nil] at hlen
    by_cases h2 : 0 < s.busy
    · have t2 : decide ((0 : Int) < (s.busy : Int)) = true := by simp; omega
      have t3 : (0 : Int) < (s.busy : Int) := by omega
      rw [if_pos h2]
      clear H
      go_enter Try.func31, Try.ntmps31
      go_wp2_with fail
      refine hlen.mono ?_
      rintro e w ⟨rfl, rfl⟩
      go_wp2_with fail
      go_ret
      exact ⟨rfl, rfl⟩
    · rw [if_neg h2]
      have h2' : s.busy = 0 := by omega
      rw [h2'] at c4
      by_cases h3 : 0 < s.live
      · have t2 : decide ((0 : Int) < (s.live : Int)) = true := by simp; omega
        have t3 : (0 : Int) < (s.live : Int) := by omega
        rw [if_pos h3]
        clear H
        go_enter Try.func31, Try.ntmps31
        go_wp2_with fail
        refine hlen.mono ?_
        rintro e w ⟨rfl, rfl⟩
        go_wp2_with fail
        go_ret
        exact ⟨rfl, rfl⟩
      · rw [if_neg h3]
        have h3' : s.live = 0 := by omega
        rw [h3'] at c3
        clear H
        go_enter Try.func31, Try.ntmps31
        go_wp2_with fail
        refine hlen.mono ?_
        rintro e w ⟨rfl, rfl⟩
        go_wp2_with fail
        go_ret
        exact ⟨rfl, rfl⟩
  · rw [if_pos h1]
    have hl : 0 < s.l.length := List.length_pos_iff.2 h1
    have t2 : decide ((0 : Int) < (s.l.length : Int)) = true := by simp; omega
    have t3 : (0 : Int) < (s.l.length : Int) := by omega
    clear H
    go_enter Try.func31, Try.ntmps31
    go_wp2_with fail
    refine hlen.mono ?_
    rintro e w ⟨rfl, rfl⟩
    go_wp2_with fail
    go_ret
    exact ⟨rfl, rfl⟩
theorem good_next {s : Ss} (h : s.Good) (hb : s.busy < 1000000000) : (Ss.mk s.l.tail s.m s.made s.live (s.busy + 1)).Good :=
  ⟨h.one, h.most, h.made, h.live, fun x hx => h.rng x (List.mem_of_mem_tail hx), by show s.busy + 1 ≤ _; omega⟩
theorem Ss.what_task {s : Ss} (h : s.l ≠ []) : s.what = 1 := by rw [Ss.what, if_pos h]
theorem Ss.what_not {s : Ss} (h : s.l = []) : s.what ≠ 1 := by
  rw [Ss.what, if_neg (by simp [h])]
  split
  · omega
  · split <;> omega
set_option maxHeartbeats 1000000 in
theorem znext_any {S F : Nat} {s : Ss} (w : World) (H : Scd w S F s) (hbu : s.busy < 1000000000) :
    Calls Try.prog 11 #[ptrO S] w fun e w' => e = .returned (.tuple #[.int .i64 s.first, .int .u8 s.what]) ∧ Scd w' S F s.next ∧ But [S, F] w w' := by
  have hb0 : But [] w (w.alloc (.cells #[ptrO S] 24)) := (But.refl _ _).alloc _
  have H1 := H.fresh hb0
  have b0 := Boxed.new w 24 (ptrO S)
  have hf := found_any (V := w.heap.size) _ H1 b0.cell
  unfold Ss.next
  by_cases h1 : s.l = []
  · have hw := Ss.what_not h1
    have ht : (s.what == 1) = false := by simpa using hw
    have HX : Hid (s.first = 0) := Lib.hid (by rw [Ss.first, h1]; rfl)
    rw [if_pos h1]
    have HH := Lib.hid (And.intro H1 (turn0 (S := S) (F := F) hb0))
    generalize s.what = x at hf ht ⊢
    have c := b0.cell
    clear H H1 b0 hw h1
    go_enter Try.func11, Try.ntmps11
    go_wp2_with fail
    refine hf.mono ?_
    rintro e w1 ⟨rfl, rfl⟩
    go_wp2_with fail
    go_ret2
    exact ⟨by rw [HX.out]; rfl, HH.out.1, HH.out.2⟩
  · rw [if_neg h1, Ss.what_task h1]
    rw [Ss.what_task h1] at hf
    have hp := pop_any _ H1.row
    have hne : S ≠ w.heap.size := by have := H.ltS; omega
    have c := b0.cell
    have c0 := H1.c0
    have HR := Lib.hid H1.raw
    have HG := Lib.hid (good_next H.good hbu)
    have HF : Hid (s.l.head?.getD 0 = s.first) := Lib.hid rfl
    have hFl := H.ltF
    clear H H1 h1
    generalize s.l.head?.getD 0 = x at hp HF
    go_enter Try.func11, Try.ntmps11
    go_wp2_with fail
    refine hf.mono ?_
    rintro e w1 ⟨rfl, rfl⟩
    go_wp2_with fail
    refine hp.mono ?_
    rintro e w2 ⟨rfl, hF, hb⟩
    have hR2 := HR.out.turn hF hb
    have c4 := hR2.c4
    have f4 := hR2.frozen 4
    have cb := hb.cell c (by simp; omega)
    have HB := Lib.hid (And.intro hR2 (turn0 (S := S) (F := F) hb0 |>.next (turnF (S := S) hb)))
    clear hp hf hF hb hR2 c0 c b0
    go_wp2_with fail
    go_ret2
    exact ⟨by rw [HF.out]; rfl, (HB.out.1.set4 (n := s.busy + 1) (by omega)).scd HG.out, HB.out.2.cellS _ _⟩

/-! ### Copy -/
theorem zcopy_nil (w : World) :
    Calls Try.prog 21 #[.pointer none] w fun e w' => e = .returned (.pointer none) ∧ w' = w := by
  go_enter Try.func21, Try.ntmps21
  go_wp2_with fail
  go_ret
  exact ⟨rfl, rfl⟩
set_option maxHeartbeats 1000000 in
theorem zcopy_any {S F : Nat} {s : Ss} (w : World) (H : Scd w S F s) :
    Calls Try.prog 21 #[ptrO S] w fun e w' => ∃ S' F', e = .returned (ptrO S') ∧ Scd w' S' F' s ∧ But [] w w' ∧ w.heap.size ≤ S' ∧ w.heap.size ≤ F' := by
  have c0 := H.c0
  have c1 := H.c1
  have c2 := H.c2
  have c3 := H.c3
  have c4 := H.c4
  have hal : ∀ o, (w.alloc o).cell? ⟨S, 0, none⟩ = some (ptrO F) := fun o => (H.fresh ((But.refl [] w).alloc o)).c0
  have hcp := fun o => copy_any _ (H.fresh ((But.refl [] w).alloc o)).row
  have HG := Lib.hid H.good
  clear H
  go_enter Try.func21, Try.ntmps21
  go_wp2_with fail
  refine (hcp _).mono ?_
  rintro e w1 ⟨rfl, hF, hb⟩
  have hX := (hb.block w.heap.size (by simp) (by simp)).trans (World.alloc_heap_new w _)
  have d1 : w1.cell? ⟨w.heap.size, 1, none⟩ = some (.int .i64 (s.m : Int)) := by simp [World.cell?, hX]
  have d2 : w1.cell? ⟨w.heap.size, 2, none⟩ = some (.int .i64 (s.made : Int)) := by simp [World.cell?, hX]
  have d3 : w1.cell? ⟨w.heap.size, 3, none⟩ = some (.int .i64 (s.live : Int)) := by simp [World.cell?, hX]
  have d4 : w1.cell? ⟨w.heap.size, 4, none⟩ = some (.int .i64 (s.busy : Int)) := by simp [World.cell?, hX]
  have d0 : w1.cell? ⟨w.heap.size, 0, none⟩ = some (ptrO F) := by simp [World.cell?, hX]
  have f0 : w1.frozen? ⟨w.heap.size, 0, none⟩ = false := by simp [World.frozen?, hX]
  rw [World.size_alloc] at hF
  simp only [World.size_alloc]
  have hsz : w.heap.size + 1 ≤ w1.heap.size := by have := hb.size; simpa using this
  have hbw : But [] w (w1.setCell ⟨w.heap.size, 0, none⟩ (ptrO (w.heap.size + 1))) := (((But.refl [] w).alloc _).next hb).set (p := ⟨w.heap.size, 0, none⟩) (.inr (Nat.le_refl _)) _
  have hFs : Fif (w1.setCell ⟨w.heap.size, 0, none⟩ (ptrO (w.heap.size + 1))) (w.heap.size + 1) 32 s.l := hF.but ((But.refl [w.heap.size] w1).set (p := ⟨w.heap.size, 0, none⟩) (by simp) _) (by simp)
  have HB := Lib.hid (And.intro hbw hFs)
  clear hF hb hcp hal hX hbw hFs c0 c1 c2 c3 c4
  go_wp2_with fail
  go_ret
  have hz : (w1.setCell ⟨w.heap.size, 0, none⟩ (ptrO (w.heap.size + 1))).heap.size = w1.heap.size := by simp
  exact ⟨(w1.setCell ⟨w.heap.size, 0, none⟩ (ptrO (w.heap.size + 1))).heap.size, w.heap.size + 1, by simp, ⟨World.alloc_heap_new _ _, HB.out.2.fresh ((But.refl _ _).alloc _), HG.out⟩, HB.out.1.alloc _, by omega, by omega⟩
end Go.Proofs.Ytfdinodcbeipcaa
