/-
  The walk of what the document answers to: may an instruction be?
-/
import Derived.Test.YtakgcienodigpaaGreatQRefA
namespace Go.Proofs.YtakgcienodigpaaGreat
open Go.RowKit

theorem ne_cases (c : Int) : (c == -1) = true ∨ (c == -1) = false := by cases (c == -1) <;> simp
theorem may_false (chans sites codes length : Int) (ps : List (Nat × Int)) : ps.foldl (checkStep chans sites codes length) false = false := by
  induction ps with
  | nil => rfl
  | cons p t ih => rw [List.foldl_cons]; exact ih

set_option maxRecDepth 100000 in
set_option maxHeartbeats 12800000 in
theorem refMay_any (x : In) (chans sites codes length : Int) (w : World) :
    Calls Tryz.prog 94 #[x.val, .int .i64 chans, .int .i64 sites, .int .i64 codes, .int .i64 length] w fun e w' => e = .returned (.bool (checkB x chans sites codes length)) ∧ But [] w w' := by
  obtain ⟨W0, hW0⟩ : ∃ W0, W0 = w.alloc (.cells #[.int .u8 (x.o : Int), .int .i64 x.a, .int .i64 x.b, .int .i64 x.c, .int .i64 x.k] 42) := ⟨_, rfl⟩
  have hb0 : But [] w W0 := by rw [hW0]; exact (But.refl [] w).alloc _
  have hbox : InAt W0 w.heap.size x := by rw [hW0]; exact inAt_new w x
  have hof := of_any x.o W0
  have x0 := hbox.c0
  have hbare := fun W => bare_any x W
  unfold In.val at hbare ⊢
  rw [hW0] at x0 hof
  go_enter Tryz.func94, Tryz.ntmps94
  go_wp2_with fail
  refine hof.mono ?_
  rw [← hW0]
  rintro e wk ⟨rfl, hk⟩
  obtain ⟨W1, hW1⟩ : ∃ W1, W1 = wk.alloc (.cells #[.bool (nA x.o), .bool (nB x.o), .bool (nC x.o), .bool (nK x.o)] 104) := ⟨_, rfl⟩
  have hb1 : But [] wk W1 := by rw [hW1]; exact (But.refl [] wk).alloc _
  have hx1 := hbox.of_block ((hk.next hb1).block _ hbox.lt (by simp))
  have hne : NeAt W1 wk.heap.size (nA x.o) (nB x.o) (nC x.o) (nK x.o) := by rw [hW1]; exact neAt_new wk _ _ _ _
  have hB1 : But [] w W1 := hb0.next (hk.next hb1)
  have y0 := hx1.c0
  have y1 := hx1.c1
  have y2 := hx1.c2
  have y3 := hx1.c3
  have y4 := hx1.c4
  have hbr := hbare W1
  rw [hW1] at y0 y1 y2 y3 y4 hbr
  clear hof hk hb0 hb1 hbox x0 hW0 hbare
  go_wp2_with fail
  refine hbr.mono ?_
  rw [← hW1]
  rintro e wb ⟨rfl, hkb⟩
  have hx2 := hx1.of_block (hkb.block _ hx1.lt (by simp))
  have hne2 := hne.of_block (hkb.block _ hne.lt (by simp))
  have hB : But [] w wb := hB1.next hkb
  clear y0 y1 y2 y3 y4 hbr hW1 hx1 hne hB1 hkb
  have n0 := hne2.c0
  have n1 := hne2.c1
  have n2 := hne2.c2
  have n3 := hne2.c3
  have y0 := hx2.c0
  have y1 := hx2.c1
  have y2 := hx2.c2
  have y3 := hx2.c3
  have y4 := hx2.c4
  clear hne2 hx2
  cases hok : okI x with
  | false =>
    have HE : Hid (checkB x chans sites codes length = false) := Lib.hid (by unfold checkB; rw [hok]; exact may_false _ _ _ _ _)
    clear hok
    go_wp2_with fail
    go_ret
    exact ⟨ret_v (by rw [HE.out]; rfl), hB⟩
  | true =>
  have hkn : known x.o = true := by have := hok; unfold okI at this; simp only [Bool.and_eq_true] at this; exact this.1
  obtain ⟨o, a, b, c, k⟩ := x
  simp only at hkn n0 n1 n2 n3 y0 y1 y2 y3 y4
  have hra := fun W => refReg_any a W
  have hrb := fun W => refReg_any b W
  have hrc := fun W => refBelow_any c chans W
  have hkl := fun W => refBelow_any k length W
  have hks := fun W => refBelow_any k sites W
  have hkc := fun W => refBelow_any k codes W
  rcases known_cases hkn with rfl | rfl | rfl | rfl | rfl | rfl | rfl | rfl | rfl | rfl
  all_goals simp only [nA, nB, nC, nK] at n0 n1 n2 n3
  all_goals clear hkn
  · have HE : Hid (checkB ⟨1, a, b, c, k⟩ chans sites codes length = ((true && belowB a 8) && true)) := Lib.hid (by unfold checkB; rw [hok]; rfl)
    clear hok
    generalize belowB a 8 = pa at HE hra
    cases pa
    · (go_wp2_with (first | (go_at_call 101; first | (refine (hra _).mono ?_; rintro e w' ⟨rfl, rfl⟩))); go_ret; exact ⟨ret_v (by rw [HE.out]; rfl), hB⟩)
    (go_wp2_with (first | (go_at_call 101; first | (refine (hra _).mono ?_; rintro e w' ⟨rfl, rfl⟩))); go_ret; exact ⟨ret_v (by rw [HE.out]; rfl), hB⟩)
  · have HE : Hid (checkB ⟨2, a, b, c, k⟩ chans sites codes length = ((true && belowB a 8) && belowB b 8)) := Lib.hid (by unfold checkB; rw [hok]; rfl)
    clear hok
    generalize belowB a 8 = pa at HE hra
    generalize belowB b 8 = pb at HE hrb
    cases pa
    · (go_wp2_with (first | (go_at_call 101; first | (refine (hra _).mono ?_; rintro e w' ⟨rfl, rfl⟩) | (refine (hrb _).mono ?_; rintro e w' ⟨rfl, rfl⟩))); go_ret; exact ⟨ret_v (by rw [HE.out]; rfl), hB⟩)
    cases pb
    · (go_wp2_with (first | (go_at_call 101; first | (refine (hra _).mono ?_; rintro e w' ⟨rfl, rfl⟩) | (refine (hrb _).mono ?_; rintro e w' ⟨rfl, rfl⟩))); go_ret; exact ⟨ret_v (by rw [HE.out]; rfl), hB⟩)
    (go_wp2_with (first | (go_at_call 101; first | (refine (hra _).mono ?_; rintro e w' ⟨rfl, rfl⟩) | (refine (hrb _).mono ?_; rintro e w' ⟨rfl, rfl⟩))); go_ret; exact ⟨ret_v (by rw [HE.out]; rfl), hB⟩)
  · have HE : Hid (checkB ⟨3, a, b, c, k⟩ chans sites codes length = (true && belowB k length)) := Lib.hid (by unfold checkB; rw [hok]; rfl)
    clear hok
    generalize belowB k length = pk at HE hkl
    (go_wp2_with (first | (go_at_call 102; first | (refine (hkl _).mono ?_; rintro e w' ⟨rfl, rfl⟩))); go_ret; exact ⟨ret_v (by rw [HE.out]; rfl), hB⟩)
  · have HE : Hid (checkB ⟨4, a, b, c, k⟩ chans sites codes length = ((true && belowB a 8) && belowB k length)) := Lib.hid (by unfold checkB; rw [hok]; rfl)
    clear hok
    generalize belowB a 8 = pa at HE hra
    generalize belowB k length = pk at HE hkl
    cases pa
    · (go_wp2_with (first | (go_at_call 101; first | (refine (hra _).mono ?_; rintro e w' ⟨rfl, rfl⟩)) | (go_at_call 102; first | (refine (hkl _).mono ?_; rintro e w' ⟨rfl, rfl⟩))); go_ret; exact ⟨ret_v (by rw [HE.out]; rfl), hB⟩)
    (go_wp2_with (first | (go_at_call 101; first | (refine (hra _).mono ?_; rintro e w' ⟨rfl, rfl⟩)) | (go_at_call 102; first | (refine (hkl _).mono ?_; rintro e w' ⟨rfl, rfl⟩))); go_ret; exact ⟨ret_v (by rw [HE.out]; rfl), hB⟩)
  · have HE : Hid (checkB ⟨5, a, b, c, k⟩ chans sites codes length = ((true && belowB a 8) && (c == -1 || belowB c chans))) := Lib.hid (by unfold checkB; rw [hok]; rfl)
    clear hok
    generalize belowB a 8 = pa at HE hra
    cases pa
    · (go_wp2_with (first | (go_at_call 101; first | (refine (hra _).mono ?_; rintro e w' ⟨rfl, rfl⟩)) | (go_at_call 102; first | (refine (hrc _).mono ?_; rintro e w' ⟨rfl, rfl⟩))); go_ret; exact ⟨ret_v (by rw [HE.out]; rfl), hB⟩)
    rcases Decidable.em (c = -1) with rfl | hn
    · (go_wp2_with (first | (go_at_call 101; first | (refine (hra _).mono ?_; rintro e w' ⟨rfl, rfl⟩)) | (go_at_call 102; first | (refine (hrc _).mono ?_; rintro e w' ⟨rfl, rfl⟩))); go_ret; exact ⟨ret_v (by rw [HE.out]; rfl), hB⟩)
    have hc : (c == -1) = false := by simpa using hn
    have hd : (c != -1) = true := by simpa using hn
    rw [hc] at HE
    generalize belowB c chans = pc at HE hrc
    cases pc
    · (go_wp2_with (first | (go_at_call 101; first | (refine (hra _).mono ?_; rintro e w' ⟨rfl, rfl⟩)) | (go_at_call 102; first | (refine (hrc _).mono ?_; rintro e w' ⟨rfl, rfl⟩))); go_ret; exact ⟨ret_v (by rw [HE.out]; rfl), hB⟩)
    · (go_wp2_with (first | (go_at_call 101; first | (refine (hra _).mono ?_; rintro e w' ⟨rfl, rfl⟩)) | (go_at_call 102; first | (refine (hrc _).mono ?_; rintro e w' ⟨rfl, rfl⟩))); go_ret; exact ⟨ret_v (by rw [HE.out]; rfl), hB⟩)
  · have HE : Hid (checkB ⟨6, a, b, c, k⟩ chans sites codes length = (((true && belowB a 8) && belowB b 8) && (c == -1 || belowB c chans))) := Lib.hid (by unfold checkB; rw [hok]; rfl)
    clear hok
    generalize belowB a 8 = pa at HE hra
    generalize belowB b 8 = pb at HE hrb
    cases pa
    · (go_wp2_with (first | (go_at_call 101; first | (refine (hra _).mono ?_; rintro e w' ⟨rfl, rfl⟩) | (refine (hrb _).mono ?_; rintro e w' ⟨rfl, rfl⟩)) | (go_at_call 102; first | (refine (hrc _).mono ?_; rintro e w' ⟨rfl, rfl⟩))); go_ret; exact ⟨ret_v (by rw [HE.out]; rfl), hB⟩)
    cases pb
    · (go_wp2_with (first | (go_at_call 101; first | (refine (hra _).mono ?_; rintro e w' ⟨rfl, rfl⟩) | (refine (hrb _).mono ?_; rintro e w' ⟨rfl, rfl⟩)) | (go_at_call 102; first | (refine (hrc _).mono ?_; rintro e w' ⟨rfl, rfl⟩))); go_ret; exact ⟨ret_v (by rw [HE.out]; rfl), hB⟩)
    rcases Decidable.em (c = -1) with rfl | hn
    · (go_wp2_with (first | (go_at_call 101; first | (refine (hra _).mono ?_; rintro e w' ⟨rfl, rfl⟩) | (refine (hrb _).mono ?_; rintro e w' ⟨rfl, rfl⟩)) | (go_at_call 102; first | (refine (hrc _).mono ?_; rintro e w' ⟨rfl, rfl⟩))); go_ret; exact ⟨ret_v (by rw [HE.out]; rfl), hB⟩)
    have hc : (c == -1) = false := by simpa using hn
    have hd : (c != -1) = true := by simpa using hn
    rw [hc] at HE
    generalize belowB c chans = pc at HE hrc
    cases pc
    · (go_wp2_with (first | (go_at_call 101; first | (refine (hra _).mono ?_; rintro e w' ⟨rfl, rfl⟩) | (refine (hrb _).mono ?_; rintro e w' ⟨rfl, rfl⟩)) | (go_at_call 102; first | (refine (hrc _).mono ?_; rintro e w' ⟨rfl, rfl⟩))); go_ret; exact ⟨ret_v (by rw [HE.out]; rfl), hB⟩)
    · (go_wp2_with (first | (go_at_call 101; first | (refine (hra _).mono ?_; rintro e w' ⟨rfl, rfl⟩) | (refine (hrb _).mono ?_; rintro e w' ⟨rfl, rfl⟩)) | (go_at_call 102; first | (refine (hrc _).mono ?_; rintro e w' ⟨rfl, rfl⟩))); go_ret; exact ⟨ret_v (by rw [HE.out]; rfl), hB⟩)
  · have HE : Hid (checkB ⟨7, a, b, c, k⟩ chans sites codes length = (true && (c == -1 || belowB c chans))) := Lib.hid (by unfold checkB; rw [hok]; rfl)
    clear hok
    rcases Decidable.em (c = -1) with rfl | hn
    · (go_wp2_with (first | (go_at_call 102; first | (refine (hrc _).mono ?_; rintro e w' ⟨rfl, rfl⟩))); go_ret; exact ⟨ret_v (by rw [HE.out]; rfl), hB⟩)
    have hc : (c == -1) = false := by simpa using hn
    have hd : (c != -1) = true := by simpa using hn
    rw [hc] at HE
    generalize belowB c chans = pc at HE hrc
    cases pc
    · (go_wp2_with (first | (go_at_call 102; first | (refine (hrc _).mono ?_; rintro e w' ⟨rfl, rfl⟩))); go_ret; exact ⟨ret_v (by rw [HE.out]; rfl), hB⟩)
    · (go_wp2_with (first | (go_at_call 102; first | (refine (hrc _).mono ?_; rintro e w' ⟨rfl, rfl⟩))); go_ret; exact ⟨ret_v (by rw [HE.out]; rfl), hB⟩)
  · have HE : Hid (checkB ⟨8, a, b, c, k⟩ chans sites codes length = ((true && belowB b 8) && belowB k sites)) := Lib.hid (by unfold checkB; rw [hok]; rfl)
    clear hok
    generalize belowB b 8 = pb at HE hrb
    generalize belowB k sites = pk at HE hks
    cases pb
    · (go_wp2_with (first | (go_at_call 101; first | (refine (hrb _).mono ?_; rintro e w' ⟨rfl, rfl⟩)) | (go_at_call 102; first | (refine (hks _).mono ?_; rintro e w' ⟨rfl, rfl⟩))); go_ret; exact ⟨ret_v (by rw [HE.out]; rfl), hB⟩)
    (go_wp2_with (first | (go_at_call 101; first | (refine (hrb _).mono ?_; rintro e w' ⟨rfl, rfl⟩)) | (go_at_call 102; first | (refine (hks _).mono ?_; rintro e w' ⟨rfl, rfl⟩))); go_ret; exact ⟨ret_v (by rw [HE.out]; rfl), hB⟩)
  · have HE : Hid (checkB ⟨9, a, b, c, k⟩ chans sites codes length = (true && belowB k codes)) := Lib.hid (by unfold checkB; rw [hok]; rfl)
    clear hok
    generalize belowB k codes = pk at HE hkc
    (go_wp2_with (first | (go_at_call 102; first | (refine (hkc _).mono ?_; rintro e w' ⟨rfl, rfl⟩))); go_ret; exact ⟨ret_v (by rw [HE.out]; rfl), hB⟩)
  · have HE : Hid (checkB ⟨10, a, b, c, k⟩ chans sites codes length = true) := Lib.hid (by unfold checkB; rw [hok]; rfl)
    clear hok
    (go_wp2_with fail; go_ret; exact ⟨ret_v (by rw [HE.out]; rfl), hB⟩)
end Go.Proofs.YtakgcienodigpaaGreat
