/-
  The walks of what a channel asks its queues: Enq, Deq, Has.
-/
import Derived.Test.YtkpnkhakjgfgfaaHCShut
namespace Go.Proofs.Ytkpnkhakjgfgfaa
open Go.RowKit
open Lq (But I64b)

theorem map_box {W : World} {y M : Nat} {t : TypeId} {v : Value} (hy : Boxed W y t v) (hm : ∃ es c, W.heap[M]? = some (.map es c)) : y ≠ M := by
  obtain ⟨es, c, hm⟩ := hm
  exact not_map hy hm
theorem que_box {W : World} {y B M : Nat} {xs : List Int} {t : TypeId} {v : Value} (hQ : Lq.Que W B M xs) (hy : Boxed W y t v) (ht : t ≠ 99) : y ∉ [B, M] := by
  obtain ⟨cs, z, hB⟩ := hQ.head
  have h1 := Lq.type_ne hy hB ht
  have h2 := map_box hy hQ.map
  simp [h1, h2]
/-- What the closure leaves: the result in its box, the rest as the queue's call left it. -/
def Told (y : Nat) (t : TypeId) (v : Value) (R : World → Prop) (w' : World) : Prop := Boxed w' y t v ∧ R w'
theorem told_set {y : Nat} {t : TypeId} {v u : Value} {R : World → Prop} {w : World} (hy : Boxed w y t u) (hR : R (w.setCell ⟨y, 0, none⟩ v)) : Told y t v R (w.setCell ⟨y, 0, none⟩ v) := ⟨hy.set v, hR⟩
theorem but_new {n : Nat} {S : List Nat} {w w' : World} (h : But (n :: S) w w') (hn : w.heap.size ≤ n) : But S w w' :=
  ⟨h.os, h.tape, h.output, h.size, fun k hk hS => h.block k hk (by simp only [List.mem_cons, not_or]; exact ⟨by omega, hS⟩)⟩
section
variable {W W' : World} {p : Pl} {h : Hs}
theorem Hch.own' (H : Hch W p h) {y : Nat} (hb : But [y] W W') (hy : y ∉ p.all) : Hch W' p h := H.but hb (fun x hx => by simp; rintro rfl; exact hy hx)
theorem Hch.turnQ' (H : Hch W p h) {send : Bool} {xs : List Int} {y : Nat} (hQ : Lq.Que W' (p.q send) (p.n send) xs) (hb : But [p.q send, p.n send, y] W W') (hy : y ∉ p.all) : Hch W' p (h.setQ send xs) := by
  simp only [Pl.all, List.mem_cons, List.not_mem_nil, or_false, not_or] at hy
  obtain ⟨y1, y2, y3, y4, y5, y6⟩ := hy
  have y1 := Ne.symm y1
  have y2 := Ne.symm y2
  have y3 := Ne.symm y3
  have y4 := Ne.symm y4
  have y5 := Ne.symm y5
  have y6 := Ne.symm y6
  cases send
  · have hb : But [p.T, p.N, y] W W' := hb
    exact ⟨(hb.block p.C H.ltC (by simp [H.CT, H.CN, y1])).trans H.head, rng_but H.ring hb (by simp [H.RT, H.RN, y2]), H.qs.but hb (by simp [H.ne, H.SN, y3]) (by simp [H.TM.symm, H.nm, y4]), hQ, H.ne, H.nm⟩
  · have hb : But [p.S, p.M, y] W W' := hb
    exact ⟨(hb.block p.C H.ltC (by simp [H.CS, H.CM, y1])).trans H.head, rng_but H.ring hb (by simp [H.RS, H.RM, y2]), hQ, H.qr.but hb (by simp [H.ne.symm, H.TM, y5]) (by simp [H.SN.symm, H.nm.symm, y6]), H.ne, H.nm⟩
end

theorem henq1_any {B M x y : Nat} {xs : List Int} (i : Int) (w : World) (hQ : Lq.Que w B M xs) (hx : Boxed w x 3 (.int .i64 i)) (hy : Boxed w y 40 (.int .i64 0)) :
    Calls Try.prog 38 #[ptrO B, ptrO x, ptrO y] w fun e w' => e = .returned (.tuple #[]) ∧ Told y 40 (.int .i64 (Lq.putE xs i)) (fun w' => Lq.Que w' B M (Lq.putX xs i) ∧ But [B, M, y] w w') w' := by
  have hc := hx.cell
  have hp := Lq.put_any i w hQ
  have hn := que_box hQ hy (by decide)
  clear hx
  go_enter Try.func38, Try.ntmps38
  go_wp2_with fail
  refine hp.mono ?_
  rintro e w1 ⟨rfl, hQ1, hb⟩
  have hy1 := hb.boxed hy hn
  have hcy := hy1.cell
  have hf := hy1.frozen
  clear hp
  go_wp2_with fail
  go_end0
  simp only [List.mem_cons, List.not_mem_nil, or_false, not_or] at hn
  exact ⟨rfl, told_set hy1 ⟨hQ1.but ((Lq.But.refl [y] w1).set (.inl (by simp)) _) (by simpa using Ne.symm hn.1) (by simpa using Ne.symm hn.2), (hb.mono (by simp)).set (.inl (by simp)) _⟩⟩
theorem henq1_nil {x y : Nat} (i : Int) (w : World) (hx : Boxed w x 3 (.int .i64 i)) (hy : Boxed w y 40 (.int .i64 0)) :
    Calls Try.prog 38 #[.pointer none, ptrO x, ptrO y] w fun e w' => e = .returned (.tuple #[]) ∧ Told y 40 (.int .i64 1) (fun w' => But [y] w w') w' := by
  have hc := hx.cell
  have hp := Lq.put_nil i w
  clear hx
  go_enter Try.func38, Try.ntmps38
  go_wp2_with fail
  refine hp.mono ?_
  rintro e w1 ⟨rfl, rfl⟩
  have hy1 := hy
  have hcy := hy1.cell
  have hf := hy1.frozen
  clear hp
  go_wp2_with fail
  go_end0
  exact ⟨rfl, told_set hy1 ((Lq.But.refl [y] _).set (.inl (by simp)) _)⟩
/-- The call, whatever the queue. -/
theorem henq_of (o : Option Addr) (send : Bool) (i : Int) (k : Int) (R : World → Prop) (w : World)
    (hq : Calls Try.prog 37 #[.pointer o, .bool send, .func (.func 38) #[] #[ptrO w.heap.size, ptrO (w.heap.size + 1)]] ((w.alloc (.cells #[.int .i64 i] 3)).alloc (.cells #[.int .i64 0] 40)) fun e w' => e = .returned (.tuple #[]) ∧ Told (w.heap.size + 1) 40 (.int .i64 k) R w') :
    Calls Try.prog 16 #[.pointer o, .bool send, .int .i64 i] w fun e w' => e = .returned (.int .i64 k) ∧ ∃ w1, w' = w1.setCell ⟨w.heap.size + 1, 0, none⟩ (.int .i64 k) ∧ R w1 := by
  go_enter Try.func16, Try.ntmps16
  go_wp2_with fail
  refine hq.mono ?_
  rintro e w1 ⟨rfl, hy, hR⟩
  have hc := hy.cell
  have hf := hy.frozen
  clear hq hy
  go_wp2_with fail
  refine bodyPost_ret (v := .int .i64 k) (by simp [results, Try.f16, go_sem, hc]) rfl ⟨rfl, w1, rfl, hR⟩
theorem henq_any {p : Pl} {h : Hs} (send : Bool) (i : Int) (w : World) (H : Hch w p h) :
    Calls Try.prog 16 #[ptrO p.C, .bool send, .int .i64 i] w fun e w' => e = .returned (.int .i64 (Lq.putE (h.q send) i)) ∧ Hch w' p (h.setQ send (Lq.putX (h.q send) i)) ∧ But p.all w w' := by
  have b0 := Boxed.new w 3 (.int .i64 i)
  have g0 : But [] w (w.alloc (.cells #[.int .i64 i] 3)) := (Lq.But.refl _ _).alloc _
  have b1 := Boxed.new (w.alloc (.cells #[.int .i64 i] 3)) 40 (.int .i64 0)
  rw [World.size_alloc] at b1
  have g1 : But [] (w.alloc (.cells #[.int .i64 i] 3)) ((w.alloc (.cells #[.int .i64 i] 3)).alloc (.cells #[.int .i64 0] 40)) := (Lq.But.refl _ _).alloc _
  have bx := g1.boxed b0 (by simp)
  have g := g0.next g1
  have H2 := H.fresh g
  have hlt := H.ltAll
  refine (henq_of (some ⟨p.C, 0, none⟩) send i (Lq.putE (h.q send) i) (fun w' => Hch w' p (h.setQ send (Lq.putX (h.q send) i)) ∧ But ((w.heap.size + 1) :: p.all) w w') w ?_).mono ?_
  · refine queue_any 38 [ptrO w.heap.size, ptrO (w.heap.size + 1)] send _ _ H2 (enters_of Try.func38 (by kernel_rfl) rfl) (fun W hW => ?_)
    refine (henq1_any i W ((H2.fresh hW).que send) (hW.boxed bx (by simp)) (hW.boxed b1 (by simp))).mono ?_
    rintro e w' ⟨rfl, ht, hQ, hb⟩
    refine ⟨rfl, ht, ?_, ((g.next hW).mono (by simp)).next (hb.mono (by
      intro x hx
      simp only [List.mem_cons, List.not_mem_nil, or_false] at hx
      rcases hx with rfl | rfl | rfl
      · exact List.mem_cons_of_mem _ (in_q p send _ (by simp))
      · exact List.mem_cons_of_mem _ (in_q p send _ (by simp))
      · simp))⟩
    have H3 := H2.fresh hW
    have hs : w.heap.size + 1 ∉ p.all := fun hm => by have := hlt _ hm; omega
    exact H3.turnQ' hQ hb hs
  · rintro e w' ⟨rfl, w1, rfl, HR, hb⟩
    refine ⟨rfl, HR.own' (y := w.heap.size + 1) ((Lq.But.refl [w.heap.size + 1] w1).set (.inl (by simp)) _) (fun hm => by have := hlt _ hm; omega), ?_⟩
    exact but_new (n := w.heap.size + 1) (hb.set (.inl (by simp)) _) (by omega)
theorem henq_nil (send : Bool) (i : Int) (w : World) :
    Calls Try.prog 16 #[.pointer none, .bool send, .int .i64 i] w fun e w' => e = .returned (.int .i64 1) ∧ But [] w w' := by
  have b0 := Boxed.new w 3 (.int .i64 i)
  have g0 : But [] w (w.alloc (.cells #[.int .i64 i] 3)) := (Lq.But.refl _ _).alloc _
  have b1 := Boxed.new (w.alloc (.cells #[.int .i64 i] 3)) 40 (.int .i64 0)
  rw [World.size_alloc] at b1
  have g1 : But [] (w.alloc (.cells #[.int .i64 i] 3)) ((w.alloc (.cells #[.int .i64 i] 3)).alloc (.cells #[.int .i64 0] 40)) := (Lq.But.refl _ _).alloc _
  have bx := g1.boxed b0 (by simp)
  have g := g0.next g1
  refine (henq_of none send i (1) (fun w' => But [w.heap.size + 1] w w') w ?_).mono ?_
  · refine queue_nil 38 [ptrO w.heap.size, ptrO (w.heap.size + 1)] send _ _ (enters_of Try.func38 (by kernel_rfl) rfl) (fun W hW => ?_)
    refine (henq1_nil i W (hW.boxed bx (by simp)) (hW.boxed b1 (by simp))).mono ?_
    rintro e w' ⟨rfl, ht, hb⟩
    exact ⟨rfl, ht, ((g.next hW).mono (by simp)).next hb⟩
  · rintro e w' ⟨rfl, w1, rfl, hb⟩
    refine ⟨rfl, ?_⟩
    exact but_new (n := w.heap.size + 1) (hb.set (.inl (by simp)) _) (by omega)

theorem hdeq1_any {B M x y : Nat} {xs : List Int} (i : Int) (hi : I64b i) (w : World) (hQ : Lq.Que w B M xs) (hx : Boxed w x 3 (.int .i64 i)) (hy : Boxed w y 40 (.int .i64 0)) :
    Calls Try.prog 44 #[ptrO B, ptrO x, ptrO y] w fun e w' => e = .returned (.tuple #[]) ∧ Told y 40 (.int .i64 (Lq.dropE xs i)) (fun w' => Lq.Que w' B M (xs.erase i) ∧ But [B, M, y] w w') w' := by
  have hc := hx.cell
  have hp := Lq.drop_any i hi w hQ
  have hn := que_box hQ hy (by decide)
  clear hx
  go_enter Try.func44, Try.ntmps44
  go_wp2_with fail
  refine hp.mono ?_
  rintro e w1 ⟨rfl, hQ1, hb⟩
  have hy1 := hb.boxed hy hn
  have hcy := hy1.cell
  have hf := hy1.frozen
  clear hp
  go_wp2_with fail
  go_end0
  simp only [List.mem_cons, List.not_mem_nil, or_false, not_or] at hn
  exact ⟨rfl, told_set hy1 ⟨hQ1.but ((Lq.But.refl [y] w1).set (.inl (by simp)) _) (by simpa using Ne.symm hn.1) (by simpa using Ne.symm hn.2), (hb.mono (by simp)).set (.inl (by simp)) _⟩⟩
theorem hdeq1_nil {x y : Nat} (i : Int) (w : World) (hx : Boxed w x 3 (.int .i64 i)) (hy : Boxed w y 40 (.int .i64 0)) :
    Calls Try.prog 44 #[.pointer none, ptrO x, ptrO y] w fun e w' => e = .returned (.tuple #[]) ∧ Told y 40 (.int .i64 1) (fun w' => But [y] w w') w' := by
  have hc := hx.cell
  have hp := Lq.drop_nil i w
  clear hx
  go_enter Try.func44, Try.ntmps44
  go_wp2_with fail
  refine hp.mono ?_
  rintro e w1 ⟨rfl, rfl⟩
  have hy1 := hy
  have hcy := hy1.cell
  have hf := hy1.frozen
  clear hp
  go_wp2_with fail
  go_end0
  exact ⟨rfl, told_set hy1 ((Lq.But.refl [y] _).set (.inl (by simp)) _)⟩
/-- The call, whatever the queue. -/
theorem hdeq_of (o : Option Addr) (send : Bool) (i : Int) (k : Int) (R : World → Prop) (w : World)
    (hq : Calls Try.prog 37 #[.pointer o, .bool send, .func (.func 44) #[] #[ptrO w.heap.size, ptrO (w.heap.size + 1)]] ((w.alloc (.cells #[.int .i64 i] 3)).alloc (.cells #[.int .i64 0] 40)) fun e w' => e = .returned (.tuple #[]) ∧ Told (w.heap.size + 1) 40 (.int .i64 k) R w') :
    Calls Try.prog 25 #[.pointer o, .bool send, .int .i64 i] w fun e w' => e = .returned (.int .i64 k) ∧ ∃ w1, w' = w1.setCell ⟨w.heap.size + 1, 0, none⟩ (.int .i64 k) ∧ R w1 := by
  go_enter Try.func25, Try.ntmps25
  go_wp2_with fail
  refine hq.mono ?_
  rintro e w1 ⟨rfl, hy, hR⟩
  have hc := hy.cell
  have hf := hy.frozen
  clear hq hy
  go_wp2_with fail
  refine bodyPost_ret (v := .int .i64 k) (by simp [results, Try.f25, go_sem, hc]) rfl ⟨rfl, w1, rfl, hR⟩
theorem hdeq_any {p : Pl} {h : Hs} (send : Bool) (i : Int) (hi : I64b i) (w : World) (H : Hch w p h) :
    Calls Try.prog 25 #[ptrO p.C, .bool send, .int .i64 i] w fun e w' => e = .returned (.int .i64 (Lq.dropE (h.q send) i)) ∧ Hch w' p (h.setQ send ((h.q send).erase i)) ∧ But p.all w w' := by
  have b0 := Boxed.new w 3 (.int .i64 i)
  have g0 : But [] w (w.alloc (.cells #[.int .i64 i] 3)) := (Lq.But.refl _ _).alloc _
  have b1 := Boxed.new (w.alloc (.cells #[.int .i64 i] 3)) 40 (.int .i64 0)
  rw [World.size_alloc] at b1
  have g1 : But [] (w.alloc (.cells #[.int .i64 i] 3)) ((w.alloc (.cells #[.int .i64 i] 3)).alloc (.cells #[.int .i64 0] 40)) := (Lq.But.refl _ _).alloc _
  have bx := g1.boxed b0 (by simp)
  have g := g0.next g1
  have H2 := H.fresh g
  have hlt := H.ltAll
  refine (hdeq_of (some ⟨p.C, 0, none⟩) send i (Lq.dropE (h.q send) i) (fun w' => Hch w' p (h.setQ send ((h.q send).erase i)) ∧ But ((w.heap.size + 1) :: p.all) w w') w ?_).mono ?_
  · refine queue_any 44 [ptrO w.heap.size, ptrO (w.heap.size + 1)] send _ _ H2 (enters_of Try.func44 (by kernel_rfl) rfl) (fun W hW => ?_)
    refine (hdeq1_any i hi W ((H2.fresh hW).que send) (hW.boxed bx (by simp)) (hW.boxed b1 (by simp))).mono ?_
    rintro e w' ⟨rfl, ht, hQ, hb⟩
    refine ⟨rfl, ht, ?_, ((g.next hW).mono (by simp)).next (hb.mono (by
      intro x hx
      simp only [List.mem_cons, List.not_mem_nil, or_false] at hx
      rcases hx with rfl | rfl | rfl
      · exact List.mem_cons_of_mem _ (in_q p send _ (by simp))
      · exact List.mem_cons_of_mem _ (in_q p send _ (by simp))
      · simp))⟩
    have H3 := H2.fresh hW
    have hs : w.heap.size + 1 ∉ p.all := fun hm => by have := hlt _ hm; omega
    exact H3.turnQ' hQ hb hs
  · rintro e w' ⟨rfl, w1, rfl, HR, hb⟩
    refine ⟨rfl, HR.own' (y := w.heap.size + 1) ((Lq.But.refl [w.heap.size + 1] w1).set (.inl (by simp)) _) (fun hm => by have := hlt _ hm; omega), ?_⟩
    exact but_new (n := w.heap.size + 1) (hb.set (.inl (by simp)) _) (by omega)
theorem hdeq_nil (send : Bool) (i : Int) (w : World) :
    Calls Try.prog 25 #[.pointer none, .bool send, .int .i64 i] w fun e w' => e = .returned (.int .i64 1) ∧ But [] w w' := by
  have b0 := Boxed.new w 3 (.int .i64 i)
  have g0 : But [] w (w.alloc (.cells #[.int .i64 i] 3)) := (Lq.But.refl _ _).alloc _
  have b1 := Boxed.new (w.alloc (.cells #[.int .i64 i] 3)) 40 (.int .i64 0)
  rw [World.size_alloc] at b1
  have g1 : But [] (w.alloc (.cells #[.int .i64 i] 3)) ((w.alloc (.cells #[.int .i64 i] 3)).alloc (.cells #[.int .i64 0] 40)) := (Lq.But.refl _ _).alloc _
  have bx := g1.boxed b0 (by simp)
  have g := g0.next g1
  refine (hdeq_of none send i (1) (fun w' => But [w.heap.size + 1] w w') w ?_).mono ?_
  · refine queue_nil 44 [ptrO w.heap.size, ptrO (w.heap.size + 1)] send _ _ (enters_of Try.func44 (by kernel_rfl) rfl) (fun W hW => ?_)
    refine (hdeq1_nil i W (hW.boxed bx (by simp)) (hW.boxed b1 (by simp))).mono ?_
    rintro e w' ⟨rfl, ht, hb⟩
    exact ⟨rfl, ht, ((g.next hW).mono (by simp)).next hb⟩
  · rintro e w' ⟨rfl, w1, rfl, hb⟩
    refine ⟨rfl, ?_⟩
    exact but_new (n := w.heap.size + 1) (hb.set (.inl (by simp)) _) (by omega)

end Go.Proofs.Ytkpnkhakjgfgfaa
