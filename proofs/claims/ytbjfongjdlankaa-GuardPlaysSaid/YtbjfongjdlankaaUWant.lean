/-
  The walks of guard.Want and Copy.
-/
import Derived.Deep.RegionHeld3
import Derived.Test.YtbjfongjdlankaaUGive
namespace Go.Proofs.Ytbjfongjdlankaa
open Go.RowKit

abbrev boxed2 (w : World) (G : Nat) (b : Option Addr) (m kap : Nat) : World := (w.alloc (.cells #[.pointer (some ⟨G, 0, none⟩)] 41)).alloc (.cells #[.slice b m kap] 23)
def WantPost (w : World) (G L : Nat) (s' : Gs) (x : Int) (e : Ending) (w' : World) : Prop :=
  e = .returned (.int .i64 x) ∧ (∃ a cap, Gd w' G L a cap s') ∧ But [G] w w'

theorem want_no {G L P Q B base n kap : Nat} {a b : Option Addr} {cap : Nat} {s : Gs} {l : List Int} (w : World) (h : Gd w G L a cap s) (hL : Lks w L P Q B base n) (hr : RowA w b l) (hl : l.length ≤ 4096) (hs : wantE n s l ≠ 0) :
    Calls Try.prog 12 #[.pointer (some ⟨G, 0, none⟩), .slice b l.length kap] w (WantPost w G L s (wantE n s l)) := by
  have hb : But [] w (boxed2 w G b l.length kap) := ((But.refl [] w).alloc _).alloc _
  have h1 := h.next hb
  have hL1 := hL.but hb (by simp) (by simp) (by simp)
  have hr1 := hr.but hb
  have hx := (Boxed.new w 41 (.pointer (some ⟨G, 0, none⟩))).alloc (.cells #[.slice b l.length kap] 23)
  have hy := Boxed.new (w.alloc (.cells #[.pointer (some ⟨G, 0, none⟩)] 41)) 23 (.slice b l.length kap)
  rw [World.size_alloc] at hy
  have hask := asked_want (G := G) _ (want1_any _ hx hy h1 hL1 hr1 hl)
  have t1 : (wantE n s l == 0) = false := by simpa using hs
  obtain ⟨x, hx'⟩ : ∃ x, x = wantE n s l := ⟨_, rfl⟩
  rw [← hx'] at hask t1
  rw [← hx']
  clear h hL hs hx hx' hy hr hr1 hL1
  go_enter Try.func12, Try.ntmps12
  go_wp2_with fail
  refine hask.mono ?_
  rintro e w1 ⟨rfl, m, rfl⟩
  go_wp2_with fail
  go_ret
  exact ⟨rfl, ⟨_, _, h1.drewN _⟩, (hb.mono (by simp)).drewN _⟩

theorem want_yes {G L P Q B base n kap : Nat} {a b : Option Addr} {cap : Nat} {s : Gs} {l : List Int} (w : World) (h : Gd w G L a cap s) (hL : Lks w L P Q B base n) (hr : RowA w b l) (hl : l.length ≤ 4096) (hs : wantE n s l = 0) (h0 : s.h ≤ l.length) :
    Calls Try.prog 12 #[.pointer (some ⟨G, 0, none⟩), .slice b l.length kap] w (WantPost w G L { s with l := l } 0) := by
  have hb : But [] w (boxed2 w G b l.length kap) := ((But.refl [] w).alloc _).alloc _
  have h1 := h.next hb
  have hL1 := hL.but hb (by simp) (by simp) (by simp)
  have hr1 := hr.but hb
  have hx := (Boxed.new w 41 (.pointer (some ⟨G, 0, none⟩))).alloc (.cells #[.slice b l.length kap] 23)
  have hy := Boxed.new (w.alloc (.cells #[.pointer (some ⟨G, 0, none⟩)] 41)) 23 (.slice b l.length kap)
  rw [World.size_alloc] at hy
  have hask := asked_want (G := G) _ (want1_any _ hx hy h1 hL1 hr1 hl)
  rw [hs] at hask
  have cD := hx.cell
  have cE := hy.cell
  have hlt := h.lt
  clear h hL hs hx hy hr hL1
  go_enter Try.func12, Try.ntmps12
  go_wp2_with fail
  refine hask.mono ?_
  rintro e w1 ⟨rfl, m, rfl⟩
  go_wp2_with fail
  generalize hU : World.drewN (boxed2 w G b l.length kap) m = U
  have hGU : Gd U.drew G L a cap s := hU ▸ (h1.drewN _).drew
  have hrU : RowA U.drew b l := hU ▸ hr1
  have hbU : But [] w U.drew := hU ▸ (hb.drewN _).drew
  have cU : U.drew.cell? ⟨w.heap.size, 0, none⟩ = some (.pointer (some ⟨G, 0, none⟩)) := hU ▸ cD
  have eU : U.drew.cell? ⟨w.heap.size + 1, 0, none⟩ = some (.slice b l.length kap) := hU ▸ cE
  have hcl := clone_any kap U.drew hrU hl
  have hDG : w.heap.size ∉ [G] := by simp; omega
  have hEG : w.heap.size + 1 ∉ [G] := by simp; omega
  clear h1 hr1 hb cD cE hask hU
  go_region_held3 (fun w' => w'.cell? ⟨w.heap.size, 0, none⟩ = some (.pointer (some ⟨G, 0, none⟩)) ∧ w'.cell? ⟨w.heap.size + 1, 0, none⟩ = some (.slice b l.length kap))
    (with_reducible first | (exact ⟨cU, eU⟩) | (exact ⟨xD, xE⟩) | (exact ⟨yD _, yE _⟩))
    ((first | (go_at_call 37; refine hcl.mono ?_; rintro e w2 ⟨a', cap', rfl, hr2, hb2⟩; have hG2 := hGU.next hb2; have f1 := hG2.frozen 1; have x1 := hG2.c1; have xD := hb2.cell cU (by simp); have xE := hb2.cell eU (by simp); have yD := fun v => ((But.refl [G] w2).set (p := ⟨G, 1, none⟩) (.inl (by simp)) v).cell xD hDG; have yE := fun v => ((But.refl [G] w2).set (p := ⟨G, 1, none⟩) (.inl (by simp)) v).cell xE hEG)))
  all_goals
    have hG3 := hG2.setL (b := a') (kap := cap') (l := l) rfl hr2 h0 hl
    have hb3 := ((hbU.next hb2).mono (T := [G]) (by simp)).set (p := ⟨G, 1, none⟩) (.inl (by simp)) (.slice a' l.length cap')
    clear hG2 hb2 hbU hGU hcl hrU hr2
    go_wp2_with fail
    go_ret
    exact ⟨rfl, ⟨_, _, hG3⟩, hb3⟩

theorem gwant_any {G L P Q B base n kap : Nat} {a b : Option Addr} {cap : Nat} {s : Gs} {l : List Int} (w : World) (h : Gd w G L a cap s) (hL : Lks w L P Q B base n) (hr : RowA w b l) (hl : l.length ≤ 4096) :
    Calls Try.prog 12 #[.pointer (some ⟨G, 0, none⟩), .slice b l.length kap] w (WantPost w G L (wantS n s l) (wantE n s l)) := by
  unfold wantS
  by_cases h0 : wantE n s l = 0
  · rw [if_pos h0, h0]
    refine want_yes w h hL hr hl h0 ?_
    unfold wantE at h0
    split at h0
    · cases h0
    · rename_i hh; have : ¬ 0 < s.h := fun hx => hh (.inl hx); omega
  · rw [if_neg h0]
    exact want_no w h hL hr hl h0

theorem gcopy_nil (w : World) :
    Calls Try.prog 16 #[.pointer none] w fun e w' => e = .returned (.pointer none) ∧ w' = w := by
  go_enter Try.func16, Try.ntmps16
  go_wp2_with fail
  go_ret
  exact ⟨rfl, rfl⟩
theorem gcopy_any {G L : Nat} {a : Option Addr} {cap : Nat} {s : Gs} (w : World) (h : Gd w G L a cap s) :
    Calls Try.prog 16 #[.pointer (some ⟨G, 0, none⟩)] w fun e w' => e = .returned (.pointer (some ⟨w.heap.size, 0, none⟩)) ∧ (∃ a' cap', Gd w' w.heap.size L a' cap' s) ∧ But [] w w' := by
  have x0 := h.c0
  have x1 := h.c1
  have x2 := h.c2
  have x3 := h.c3
  have x4 := h.c4
  have hle := h.le
  have hlen := h.len
  have hN := World.alloc_heap_new w (.cells #[.pointer (some ⟨L, 0, Option.none⟩), .slice a s.l.length cap, .int .i64 (s.h : Int), .bool s.d, .int .u16 (s.t : Int)] 76)
  have hb : But [] w (w.alloc (.cells #[.pointer (some ⟨L, 0, Option.none⟩), .slice a s.l.length cap, .int .i64 (s.h : Int), .bool s.d, .int .u16 (s.t : Int)] 76)) := (But.refl [] w).alloc _
  have hG1 : Gd (w.alloc (.cells #[.pointer (some ⟨L, 0, Option.none⟩), .slice a s.l.length cap, .int .i64 (s.h : Int), .bool s.d, .int .u16 (s.t : Int)] 76)) w.heap.size L a cap s := ⟨hN, h.row.but hb (NotInts.nil _), hle, hlen⟩
  have hcl := clone_any cap _ hG1.row.any hlen
  have y1 := hb.cell x1 (by simp)
  have hdl := h.lt
  clear h hN
  go_enter Try.func16, Try.ntmps16
  go_wp2_with fail
  refine hcl.mono ?_
  rintro e w2 ⟨a', cap', rfl, hr2, hb2⟩
  have hG2 := hG1.next hb2
  have f1 := hG2.frozen 1
  have z1 := hG2.c1
  have hG3 := hG2.setL (b := a') (kap := cap') (l := s.l) rfl hr2 hle hlen
  have hb3 := (hb.next hb2).set (p := ⟨w.heap.size, 1, none⟩) (.inr (Nat.le_refl _)) (.slice a' s.l.length cap')
  clear hG1 hcl hr2 hb hb2
  go_wp2_with fail
  go_ret
  exact ⟨rfl, ⟨_, _, hG3⟩, hb3⟩
end Go.Proofs.Ytbjfongjdlankaa
