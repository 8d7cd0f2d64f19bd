/-
  The walk of guard.Give.
-/
import Derived.Deep.RegionHeld3
import Derived.Test.YtbjfongjdlankaaUStep
namespace Go.Proofs.Ytbjfongjdlankaa
open Go.RowKit

def GivePost (w : World) (G L P Q B V base n : Nat) (a : Option Addr) (cap : Nat) (s' : Gs) (vs' : List Nat) (c' m : Nat) (x : Int) (e : Ending) (w' : World) : Prop :=
  e = .returned (.tuple #[.int .i64 (m : Int), .int .i64 x]) ∧ Gd w' G L a cap s' ∧ Lks w' L P Q B base n ∧ Cels w' B V vs' c' ∧ But [B, V, G] w w'

theorem give_no {G L P Q B V base n c : Nat} {vs : List Nat} {a : Option Addr} {cap : Nat} {s : Gs} (w : World) (h : Gd w G L a cap s) (hL : Lks w L P Q B base n) (hC : Cels w B V vs c) (hs : giveE s ≠ 0) :
    Calls Try.prog 14 #[.pointer (some ⟨G, 0, none⟩)] w (GivePost w G L P Q B V base n a cap s vs c 0 (giveE s)) := by
  have hb := box_next w G
  have h1 := h.next hb
  have hL1 := hL.but hb (by simp) (by simp) (by simp)
  have hC1 := hC.but hb (by simp) (by simp)
  have hx := Boxed.new w 41 (.pointer (some ⟨G, 0, none⟩))
  have hask := asked_give (G := G) _ (give1_any _ hx h1)
  have t1 : (giveE s != 0) = true := by simpa using hs
  obtain ⟨x, hx'⟩ : ∃ x, x = giveE s := ⟨_, rfl⟩
  rw [← hx'] at hask t1
  rw [← hx']
  clear h hL hC hs hx hx'
  go_enter Try.func14, Try.ntmps14
  go_wp2_with fail
  refine hask.mono ?_
  rintro e w1 ⟨rfl, m, rfl⟩
  go_wp2_with fail
  go_ret2
  exact ⟨rfl, h1.drewN _, hL1.drewN _, hC1.drewN _, (hb.mono (by simp)).drewN _⟩

set_option maxHeartbeats 800000 in
theorem give_yes {G L P Q B V base n c : Nat} {vs : List Nat} {a : Option Addr} {cap : Nat} {s : Gs} (w : World) (h : Gd w G L a cap s) (hL : Lks w L P Q B base n) (hC : Cels w B V vs c) (hl : base + 2 * n ≤ vs.length) (hs : giveE s = 0) (k : Nat) (hk : s.h = k + 1) :
    Calls Try.prog 14 #[.pointer (some ⟨G, 0, none⟩)] w (GivePost w G L P Q B V base n a cap { s with l := s.l.take k, h := k } (giveV base n vs (atI s.l k)) (countUp n c (atI s.l k)) k 0) := by
  have hb := box_next w G
  have h1 := h.next hb
  have hL1 := hL.but hb (by simp) (by simp) (by simp)
  have hC1 := hC.but hb (by simp) (by simp)
  have hx := Boxed.new w 41 (.pointer (some ⟨G, 0, none⟩))
  have hask := asked_give (G := G) _ (give1_any _ hx h1)
  rw [hs] at hask
  have hle := h.le
  have hlen := h.len
  have hcap := h.row.cap
  have cD := hx.cell
  have e2 := h1.c2
  have f2 := h1.frozen 2
  have hDB : w.heap.size ∉ [B, V] := by have := hC.ltB; have := hC.ltV; simp; omega
  have hGB : G ∉ [B, V] := by simpa using ⟨type_ne h.head hC.head (by decide), type_ne h.head hC.row (by decide)⟩
  have hDG : w.heap.size ∉ [G] := by have := h.lt; simp; omega
  have hwr : IntKind.i64.wrap ((s.h : Int) - 1) = (k : Int) := by rw [IntWalk.i64_in _ (by omega)]; omega
  have hlt : k < s.l.length := by omega
  have hlt' : (k : Int) < (s.l.length : Int) := by omega
  have hkc : (k : Int) ≤ (cap : Int) := by omega
  have htk : Hid (k = (s.l.take k).length ∧ k ≤ (s.l.take k).length ∧ (s.l.take k).length ≤ 4096) := Lib.hid (by rw [List.length_take]; omega)
  obtain ⟨b, off, cs, z, rfl, -, hrow⟩ := h1.row.row (by omega)
  have hgv := fun W => give_any (B := B) (V := V) (c := c) (vs := vs) (L := L) (P := P) (Q := Q) (base := base) (n := n) (atI s.l k) W
  obtain ⟨kk, hkk⟩ : ∃ kk, kk = atI s.l k := ⟨_, rfl⟩
  rw [← hkk] at hgv
  rw [← hkk]
  have HK := Lib.hid hkk
  clear h hL hC hrow hx hs hkk
  go_enter Try.func14, Try.ntmps14
  go_wp2_with fail
  refine hask.mono ?_
  rintro e w1 ⟨rfl, m, rfl⟩
  go_wp2_with fail
  have hG2 : Gd (((boxed w G).drewN m).setCell ⟨G, 2, none⟩ (.int .i64 (k : Int))) G L (some ⟨b, off, none⟩) cap { s with h := k } := (h1.drewN m).setH rfl (by omega)
  have hg1 := (But.refl [G] ((boxed w G).drewN m)).set (p := ⟨G, 2, none⟩) (.inl (by simp)) (.int .i64 (k : Int))
  have hL2 := (hL1.drewN m).guard (h1.drewN m) hg1
  have hC2 := (hC1.drewN m).guard (h1.drewN m) hg1
  have hb2 := ((hb.drewN m).mono (T := [G]) (by simp)).next hg1
  have cD2 := hg1.cell (p := ⟨w.heap.size, 0, none⟩) cD hDG
  generalize hU : World.setCell (World.drewN (w.alloc (.cells #[.pointer (some ⟨G, 0, none⟩)] 41)) m) ⟨G, 2, none⟩ (.int .i64 (k : Int)) = U at hG2 hL2 hC2 hb2 cD2 ⊢
  clear hg1 hU h1 hL1 hC1 hb cD e2 f2 hask
  have c0 := hG2.c0
  have c1 := hG2.c1
  have c2 := hG2.c2
  obtain ⟨b', off', cs', z', hbb, -, hrow⟩ := hG2.row.row (by show 0 < s.l.length; omega)
  simp only [Option.some.injEq, Addr.mk.injEq, and_true] at hbb
  obtain ⟨rfl, rfl⟩ := hbb
  have cr : U.cell? ⟨b, off + k, none⟩ = some (Value.int .i64 kk) := by rw [HK.out]; exact hrow k hlt
  clear hrow
  refine wp_region_still_tail 14 (by kernel_rfl) (by kernel_rfl) ?_
  simp only [List.take_succ_cons, List.take_zero, List.drop_succ_cons, List.drop_zero]
  change wpStill _ _ U.drew (fun a' => wpList _ _ _ _ a' U.drew) _ _
  repeat still_step
  refine wpStill_nil ?_
  go_wp2_with fail
  refine (hgv _ hL2.drew hC2.drew hl).mono ?_
  rintro e w2 ⟨rfl, hC3, hb3⟩
  have hG3 := hG2.drew.cels hC2.drew hb3
  have hL3 := hL2.drew.cels hC2.drew hb3
  have cD3 := hb3.cell (p := ⟨w.heap.size, 0, none⟩) cD2 hDB
  have hb4 : But [B, V, G] w w2 := (hb2.drew.mono (by simp)).next (hb3.mono (by simp))
  have x1 := hG3.c1
  have x2 := hG3.c2
  have f1 := hG3.frozen 1
  have hG4 : Gd (w2.setCell ⟨G, 1, none⟩ (.slice (some ⟨b, off, none⟩) k cap)) G L (some ⟨b, off, none⟩) cap { s with l := s.l.take k, h := k } := hG3.setL htk.out.1 (hG3.row.take k) htk.out.2.1 htk.out.2.2
  have hg4 := (But.refl [G] w2).set (p := ⟨G, 1, none⟩) (.inl (by simp)) (.slice (some ⟨b, off, none⟩) k cap)
  have hL4 := hL3.guard hG3 hg4
  have hC4 := hC3.guard hG3 hg4
  have hb5 := hb4.set (p := ⟨G, 1, none⟩) (.inl (by simp)) (.slice (some ⟨b, off, none⟩) k cap)
  have cD4 := hg4.cell cD3 hDG
  have y2 := hG4.c2
  clear c0 c1 c2 cr cD2 hG2 hL2 hC2 hb2 hG3 hL3 hC3 hb3 hb4 hg4 hgv htk
  go_wp2_with fail
  go_region
  all_goals
    go_wp2_with fail
    go_ret2
    exact ⟨rfl, hG4.drew, hL4.drew, hC4.drew, hb5.drew⟩

theorem ggive_any {G L P Q B V base n c : Nat} {vs : List Nat} {a : Option Addr} {cap : Nat} {s : Gs} (w : World) (h : Gd w G L a cap s) (hL : Lks w L P Q B base n) (hC : Cels w B V vs c) (hl : base + 2 * n ≤ vs.length) :
    Calls Try.prog 14 #[.pointer (some ⟨G, 0, none⟩)] w (GivePost w G L P Q B V base n a cap (giveS s) (giveVs base n vs s) (giveC n c s) (giveN s) (giveE s)) := by
  unfold giveS giveVs giveC giveN
  by_cases h0 : giveE s = 0
  · rw [if_pos h0, if_pos h0, if_pos h0, if_pos h0, h0]
    obtain ⟨k, hk⟩ : ∃ k, s.h = k + 1 := by
      cases hh : s.h with
      | zero => unfold giveE at h0; rw [if_pos hh] at h0; cases h0
      | succ k => exact ⟨k, rfl⟩
    rw [hk, Nat.add_sub_cancel]
    exact give_yes w h hL hC hl h0 k hk
  · rw [if_neg h0, if_neg h0, if_neg h0, if_neg h0]
    exact give_no w h hL hC h0
end Go.Proofs.Ytbjfongjdlankaa
