/-
  A frame that is handed over.
-/
import Derived.Test.YtplajidagpimdaaGOpen
import Derived.Test.YtplajidagpimdaaHPure
namespace Go.Proofs.Ytplajidagpimdaa
open Go.ChangeShapes Go.WideShapes Go.ChangeAt Go.RowKit Go.Deep

theorem cFra : Try.prog.cellsOf 29 = 10 := by kernel_rfl
theorem cReg : Try.prog.cellsOf 27 = 8 := by kernel_rfl
theorem u16_range {z : Int} (h : (Lit.int .u16 z).wf = true) : 0 ≤ z ∧ z < 65536 := by
  simp only [Lit.wf, Bool.and_eq_true, decide_eq_true_eq] at h
  have e1 : IntKind.min .u16 = 0 := by decide
  have e2 : IntKind.max .u16 = 65535 := by decide
  omega
theorem ten {α : Type} {l : List α} (h : l.length = 10) : ∃ a b c d e f g h i j, l = [a, b, c, d, e, f, g, h, i, j] := by
  obtain ⟨a, l, rfl⟩ := List.exists_cons_of_length_pos (by omega : 0 < l.length)
  obtain ⟨b, l, rfl⟩ := List.exists_cons_of_length_pos (by simp at h; omega : 0 < l.length)
  obtain ⟨c, l, rfl⟩ := List.exists_cons_of_length_pos (by simp at h; omega : 0 < l.length)
  obtain ⟨d, l, rfl⟩ := List.exists_cons_of_length_pos (by simp at h; omega : 0 < l.length)
  obtain ⟨e, l, rfl⟩ := List.exists_cons_of_length_pos (by simp at h; omega : 0 < l.length)
  obtain ⟨v, w, x, y, z, rfl⟩ := five (by simp at h; omega : l.length = 5)
  exact ⟨a, b, c, d, e, v, w, x, y, z, rfl⟩
theorem one_of {α : Type} {l : List α} {i : Nat} {u : α} (h : l[i]? = some u) : (l.drop i).take 1 = [u] := by
  obtain ⟨h1, h2⟩ := List.getElem?_eq_some_iff.1 h
  rw [List.take_one, List.head?_drop, h]; rfl
set_option maxRecDepth 100000 in
set_option maxHeartbeats 1600000 in
theorem open_fra {H : Type} {enc : TypeId × Value → H} {W : World} {base : Nat} {v : Value} {d : DataW H} {ps : List MemPlace} (hv : Value.okWide Try.prog W .any base 29 v)
    (h : DataW.Trod enc Try.prog W 0 (fun _ => true) true 29 v d ps) : ∃ f : Fra, v = fraV f ∧ f.ok := by
  have hs := okWide_struct Try.underlying29 hv
  rw [cFra] at hs
  obtain ⟨cs, rfl, hcs⟩ := hs
  obtain ⟨n, h⟩ := h
  obtain ⟨l⟩ := cs
  have h' : DataW.trod enc Try.prog W 0 (fun _ => true) true n 29 l = some (d, ps) := by simpa [Value.cells] using h
  have hs := DataW.trod_struct Try.underlying29 h'
  rw [cFra] at hs
  obtain ⟨xs, m, _, _, _, hl, hf⟩ := hs
  obtain ⟨v0, v1, v2, v3, v4, v5, v6, v7, v8, v9, rfl⟩ := ten (show l.length = 10 by simpa using hcs)
  obtain ⟨y0, y1, y2, rfl⟩ := three (show xs.length = 3 from hl)
  have k0 : DataW.trod enc Try.prog W 0 (fun _ => true) true m 3 (List.take (Try.prog.cellsOf 3) [v0, v1, v2, v3, v4, v5, v6, v7, v8, v9]) = some y0 := hf 0 _ rfl
  rw [cInt, List.take_succ_cons, List.take_zero] at k0
  have k1 : DataW.trod enc Try.prog W 0 (fun _ => true) true m 3 (List.take (Try.prog.cellsOf 3) [v1, v2, v3, v4, v5, v6, v7, v8, v9]) = some y1 := hf 1 _ rfl
  rw [cInt, List.take_succ_cons, List.take_zero] at k1
  have k2 : DataW.trod enc Try.prog W 0 (fun _ => true) true m 27 (List.take (Try.prog.cellsOf 27) [v2, v3, v4, v5, v6, v7, v8, v9]) = some y2 := hf 2 _ rfl
  rw [cReg] at k2
  simp only [List.take_succ_cons, List.take_zero] at k2
  obtain ⟨zs, m2, _, _, _, hzl, hz⟩ := DataW.trod_array Try.underlying27 k2
  rw [cI64] at hz
  obtain ⟨c0, e0, _, u0⟩ := DataW.trod_int Try.underlying3 k0
  obtain ⟨c1, e1, _, u1⟩ := DataW.trod_int Try.underlying3 k1
  have key : ∀ i (hi : i < 8) u, ([v2, v3, v4, v5, v6, v7, v8, v9] : List Value)[i]? = some u → ∃ c : Int, u = .int .i64 c ∧ I64b c := fun i hi u hu => by
    have h1 := hz i hi
    rw [List.getElem?_eq_getElem (by omega), Nat.mul_one, one_of hu] at h1
    obtain ⟨c, e, _, hw⟩ := DataW.trod_int Try.underlying2 h1
    simp only [List.cons.injEq, and_true] at e
    exact ⟨c, e, i64_range hw⟩
  obtain ⟨r0, rfl, b0⟩ := key 0 (by omega) _ rfl
  obtain ⟨r1, rfl, b1⟩ := key 1 (by omega) _ rfl
  obtain ⟨r2, rfl, b2⟩ := key 2 (by omega) _ rfl
  obtain ⟨r3, rfl, b3⟩ := key 3 (by omega) _ rfl
  obtain ⟨r4, rfl, b4⟩ := key 4 (by omega) _ rfl
  obtain ⟨r5, rfl, b5⟩ := key 5 (by omega) _ rfl
  obtain ⟨r6, rfl, b6⟩ := key 6 (by omega) _ rfl
  obtain ⟨r7, rfl, b7⟩ := key 7 (by omega) _ rfl
  simp only [List.cons.injEq, and_true] at e0 e1
  subst e0 e1
  exact ⟨⟨c0, c1, r0, r1, r2, r3, r4, r5, r6, r7⟩, rfl, ⟨i64_range u0, i64_range u1, b0, b1, b2, b3, b4, b5, b6, b7⟩⟩
end Go.Proofs.Ytplajidagpimdaa
