/-
  The walk of the document's reader: one.
-/
import Derived.Deep.Cut
import Derived.Deep.CutRange
import Derived.Test.YtengpehiknoheaaDoorERefR
namespace Go.Proofs.YtengpehiknoheaaDoor
open Go.RowKit Go.Shelf Oct

attribute [local go_sem] Oper.semAt_some

section
variable {W : World} {B : Nat} {x : En}
theorem EnAt.set0 (h : EnAt W B x) (z : Int) : EnAt (W.setCell ⟨B, 0, none⟩ (.int .i64 z)) B { x with a := z } := by
  have h1 := heap_set_same (k := 0) (.int .i64 z) h
  simpa [EnAt] using h1
theorem EnAt.set1 (h : EnAt W B x) (z : Nat) : EnAt (W.setCell ⟨B, 1, none⟩ (.int .u8 (z : Int))) B { x with k := z } := by
  have h1 := heap_set_same (k := 1) (.int .u8 (z : Int)) h
  simpa [EnAt] using h1
theorem EnAt.set2 (h : EnAt W B x) (z : Int) : EnAt (W.setCell ⟨B, 2, none⟩ (.int .i64 z)) B { x with w := z } := by
  have h1 := heap_set_same (k := 2) (.int .i64 z) h
  simpa [EnAt] using h1
theorem EnAt.set3 (h : EnAt W B x) (z : Int) : EnAt (W.setCell ⟨B, 3, none⟩ (.int .i64 z)) B { x with t := z } := by
  have h1 := heap_set_same (k := 3) (.int .i64 z) h
  simpa [EnAt] using h1
theorem EnAt.set4 (h : EnAt W B x) (z : Int) : EnAt (W.setCell ⟨B, 4, none⟩ (.int .i64 z)) B { x with p := z } := by
  have h1 := heap_set_same (k := 4) (.int .i64 z) h
  simpa [EnAt] using h1
theorem EnAt.set5 (h : EnAt W B x) (z : Int) : EnAt (W.setCell ⟨B, 5, none⟩ (.int .i64 z)) B { x with c := z } := by
  have h1 := heap_set_same (k := 5) (.int .i64 z) h
  simpa [EnAt] using h1
theorem EnAt.set6 (h : EnAt W B x) (z : Int) : EnAt (W.setCell ⟨B, 6, none⟩ (.int .i64 z)) B { x with b := z } := by
  have h1 := heap_set_same (k := 6) (.int .i64 z) h
  simpa [EnAt] using h1
theorem EnAt.set7 (h : EnAt W B x) (z : Int) : EnAt (W.setCell ⟨B, 7, none⟩ (.int .i64 z)) B { x with q := z } := by
  have h1 := heap_set_same (k := 7) (.int .i64 z) h
  simpa [EnAt] using h1
theorem EnAt.set8 (h : EnAt W B x) (z : Int) : EnAt (W.setCell ⟨B, 8, none⟩ (.int .i64 z)) B { x with v := z } := by
  have h1 := heap_set_same (k := 8) (.int .i64 z) h
  simpa [EnAt] using h1
theorem EnAt.set9 (h : EnAt W B x) (z : Int) : EnAt (W.setCell ⟨B, 9, none⟩ (.int .i64 z)) B { x with u := z } := by
  have h1 := heap_set_same (k := 9) (.int .i64 z) h
  simpa [EnAt] using h1
theorem EnAt.set10 (h : EnAt W B x) (z : Bool) : EnAt (W.setCell ⟨B, 10, none⟩ (.bool z)) B { x with o := z } := by
  have h1 := heap_set_same (k := 10) (.bool z) h
  simpa [EnAt] using h1
theorem EnAt.set11 (h : EnAt W B x) (z : Int) : EnAt (W.setCell ⟨B, 11, none⟩ (.int .i64 z)) B { x with e := z } := by
  have h1 := heap_set_same (k := 11) (.int .i64 z) h
  simpa [EnAt] using h1
theorem EnAt.set12 (h : EnAt W B x) (z : Nat) : EnAt (W.setCell ⟨B, 12, none⟩ (.int .u64 (z : Int))) B { x with s := z } := by
  have h1 := heap_set_same (k := 12) (.int .u64 (z : Int)) h
  simpa [EnAt] using h1
end
/-- May that number be an At? -/
def atOk (u : Nat) : Bool := decide (u < 9223372036854775808)
/-- What is the case in one's walk: the reader, the entry, what it names, the result. -/
structure OSt (w W : World) (R X N : Nat) (s : List UInt8) (b : Bool) (x : En) (g0 g1 g2 g3 g4 g5 g6 g7 g8 g9 g10 : Bool) : Prop where
  rd : RdB W R s b
  x : EnAt W X x
  n : NdAt W N g0 g1 g2 g3 g4 g5 g6 g7 g8 g9 g10
  res : EnAt W w.heap.size En.zero
  but : But [R] w W
structure OSep (w : World) (R X N : Nat) : Prop where
  r : R < w.heap.size
  x : w.heap.size < X
  n : w.heap.size < N
  ne : X ≠ N
section
variable {w W W' : World} {R X N : Nat} {s s' : List UInt8} {b b' : Bool} {x x' : En} {g0 g1 g2 g3 g4 g5 g6 g7 g8 g9 g10 : Bool}
theorem OSt.call (h : OSt w W R X N s b x g0 g1 g2 g3 g4 g5 g6 g7 g8 g9 g10) (hs : OSep w R X N) (hr : RdB W' R s' b') (hb : But [R] W W') : OSt w W' R X N s' b' x g0 g1 g2 g3 g4 g5 g6 g7 g8 g9 g10 := by
  have h1 := hs.r
  have h2 := hs.x
  have h3 := hs.n
  exact ⟨hr, h.x.but hb (by simp; omega), h.n.of_block (hb.block _ h.n.lt (by simp; omega)), h.res.but hb (by simp; omega), h.but.next hb⟩
theorem OSt.store (h : OSt w W R X N s b x g0 g1 g2 g3 g4 g5 g6 g7 g8 g9 g10) (hs : OSep w R X N) {j : Nat} {v : Value} (hx : EnAt (W.setCell ⟨X, j, none⟩ v) X x') : OSt w (W.setCell ⟨X, j, none⟩ v) R X N s b x' g0 g1 g2 g3 g4 g5 g6 g7 g8 g9 g10 := by
  have h1 := hs.r
  have h2 := hs.x
  have h3 := hs.n
  have h4 := hs.ne
  have hk : ∀ k, k ≠ X → (W.setCell ⟨X, j, none⟩ v).heap[k]? = W.heap[k]? := fun k hk => Below.heap_setCell W ⟨X, j, none⟩ v k hk
  exact ⟨Two.of_block h.rd (hk _ (by omega)), hx, h.n.of_block (hk _ (by omega)), h.res.of_block (hk _ (by omega)), h.but.set (p := ⟨X, j, none⟩) (.inr (by show w.heap.size ≤ X; omega)) v⟩
end
theorem oone_lens {u : Nat} {s0 : List UInt8} {b0 : Bool} {vk : Int} {s1 : List UInt8} {b1 : Bool} {vw : Int} {s2 : List UInt8} {b2 : Bool} {vt : Int} {s3 : List UInt8} {b3 : Bool} {vp : Int} {s4 : List UInt8} {b4 : Bool} {vc : Int} {s5 : List UInt8} {b5 : Bool} {vb : Int} {s6 : List UInt8} {b6 : Bool} {vq : Int} {s7 : List UInt8} {b7 : Bool} {vv : Int} {s8 : List UInt8} {b8 : Bool} {vu : Int} {s9 : List UInt8} {b9 : Bool} {vo : Int} {s10 : List UInt8} {b10 : Bool} {ve : Int} {s11 : List UInt8} {b11 : Bool} {vs : Nat} {s12 : List UInt8} {b12 : Bool} {g0 g1 g2 g3 g4 g5 g6 g7 g8 g9 g10 : Bool} {s : List UInt8} {b : Bool} (H0 : numF s b = (u, s0, b0)) (H1 : smallF true 0 s0 (b0 && atOk u) = (vk, s1, b1)) (H2 : smallF g0 0 s1 b1 = (vw, s2, b2)) (H3 : smallF g1 0 s2 b2 = (vt, s3, b3)) (H4 : smallF g2 1 s3 b3 = (vp, s4, b4)) (H5 : smallF g3 0 s4 b4 = (vc, s5, b5)) (H6 : smallF g4 1 s5 b5 = (vb, s6, b6)) (H7 : smallF g5 1 s6 b6 = (vq, s7, b7)) (H8 : intF g6 s7 b7 = (vv, s8, b8)) (H9 : intF g7 s8 b8 = (vu, s9, b9)) (H10 : smallF g8 0 s9 b9 = (vo, s10, b10)) (H11 : smallF g9 0 s10 b10 = (ve, s11, b11)) (H12 : setF g10 s11 b11 = (vs, s12, b12)) : s0.length ≤ s.length ∧ s1.length ≤ s.length ∧ s2.length ≤ s.length ∧ s3.length ≤ s.length ∧ s4.length ≤ s.length ∧ s5.length ≤ s.length ∧ s6.length ≤ s.length ∧ s7.length ≤ s.length ∧ s8.length ≤ s.length ∧ s9.length ≤ s.length ∧ s10.length ≤ s.length ∧ s11.length ≤ s.length ∧ s12.length ≤ s.length := by
  have l0 := numF_len s b
  rw [H0] at l0
  have l1 := smallF_len true 0 s0 (b0 && atOk u)
  rw [H1] at l1
  have l2 := smallF_len g0 0 s1 b1
  rw [H2] at l2
  have l3 := smallF_len g1 0 s2 b2
  rw [H3] at l3
  have l4 := smallF_len g2 1 s3 b3
  rw [H4] at l4
  have l5 := smallF_len g3 0 s4 b4
  rw [H5] at l5
  have l6 := smallF_len g4 1 s5 b5
  rw [H6] at l6
  have l7 := smallF_len g5 1 s6 b6
  rw [H7] at l7
  have l8 := intF_len g6 s7 b7
  rw [H8] at l8
  have l9 := intF_len g7 s8 b8
  rw [H9] at l9
  have l10 := smallF_len g8 0 s9 b9
  rw [H10] at l10
  have l11 := smallF_len g9 0 s10 b10
  rw [H11] at l11
  have l12 := setF_len g10 s11 b11
  rw [H12] at l12
  simp only at l0 l1 l2 l3 l4 l5 l6 l7 l8 l9 l10 l11 l12
  omega
set_option maxRecDepth 100000 in
set_option maxHeartbeats 12800000 in
theorem rone_walk {u : Nat} {s0 : List UInt8} {b0 : Bool} {vk : Int} {k : Nat} {s1 : List UInt8} {b1 : Bool} {vw : Int} {s2 : List UInt8} {b2 : Bool} {vt : Int} {s3 : List UInt8} {b3 : Bool} {vp : Int} {s4 : List UInt8} {b4 : Bool} {vc : Int} {s5 : List UInt8} {b5 : Bool} {vb : Int} {s6 : List UInt8} {b6 : Bool} {vq : Int} {s7 : List UInt8} {b7 : Bool} {vv : Int} {s8 : List UInt8} {b8 : Bool} {vu : Int} {s9 : List UInt8} {b9 : Bool} {vo : Int} {s10 : List UInt8} {b10 : Bool} {ve : Int} {s11 : List UInt8} {b11 : Bool} {vs : Nat} {s12 : List UInt8} {b12 : Bool} {g0 g1 g2 g3 g4 g5 g6 g7 g8 g9 g10 : Bool} (R : Nat) (s : List UInt8) (b : Bool) (w : World) (h : RdB w R s b) (hz : s.length ≤ 100000) (H0 : Hid (numF s b = (u, s0, b0)))
    (H1 : Hid (smallF true 0 s0 (b0 && atOk u) = (vk, s1, b1))) (hk : Hid ((k : Int) = vk % 256)) (hvk : 0 ≤ vk)
    (hof : ∀ W, Calls Tryd.prog 25 #[.int .u8 (k : Int)] W fun e w' => e = .returned (.agg #[.bool g0, .bool g1, .bool g2, .bool g3, .bool g4, .bool g5, .bool g6, .bool g7, .bool g8, .bool g9, .bool g10]) ∧ But [] W w')
    (H2 : Hid (smallF g0 0 s1 b1 = (vw, s2, b2)))
    (H3 : Hid (smallF g1 0 s2 b2 = (vt, s3, b3)))
    (H4 : Hid (smallF g2 1 s3 b3 = (vp, s4, b4)))
    (H5 : Hid (smallF g3 0 s4 b4 = (vc, s5, b5)))
    (H6 : Hid (smallF g4 1 s5 b5 = (vb, s6, b6)))
    (H7 : Hid (smallF g5 1 s6 b6 = (vq, s7, b7)))
    (H8 : Hid (intF g6 s7 b7 = (vv, s8, b8)))
    (H9 : Hid (intF g7 s8 b8 = (vu, s9, b9)))
    (H10 : Hid (smallF g8 0 s9 b9 = (vo, s10, b10)))
    (H11 : Hid (smallF g9 0 s10 b10 = (ve, s11, b11)))
    (H12 : Hid (setF g10 s11 b11 = (vs, s12, b12))) :
    Calls Tryd.prog 33 #[.pointer (some ⟨R, 0, none⟩)] w fun e w' => e = .returned ((⟨sgn u, k, vw, vt, vp, vc, vb, vq, vv, vu, (vo == 1), ve, vs⟩ : En)).val ∧ RdB w' R s12 b12 ∧ But [R] w w' := by
  obtain ⟨z0, z1, z2, z3, z4, z5, z6, z7, z8, z9, z10, z11, z12⟩ := oone_lens H0.out H1.out H2.out H3.out H4.out H5.out H6.out H7.out H8.out H9.out H10.out H11.out H12.out
  have hu64 : u < 18446744073709551616 := by have := numF_lt s b; rwa [H0.out] at this
  have qa : IntKind.i64.wrap (u : Int) = sgn u := by rw [IntKind.wrap_i64]; unfold sgn; split <;> omega
  clear hu64
  have hRlt := Two.lt h
  obtain ⟨wa, hwa⟩ : ∃ wa, wa = w.alloc (.cells #[.int .i64 0, .int .u8 0, .int .i64 0, .int .i64 0, .int .i64 0, .int .i64 0, .int .i64 0, .int .i64 0, .int .i64 0, .int .i64 0, .bool false, .int .i64 0, .int .u64 0] 26) := ⟨_, rfl⟩
  have hba : But [R] w wa := by rw [hwa]; exact (But.refl [R] w).alloc _
  have hra : RdB wa R s b := by rw [hwa]; exact Two.alloc h _
  have hea : EnAt wa w.heap.size En.zero := by rw [hwa]; exact enAt_new w En.zero
  have hcl := rdnum_any R s b wa hra hz H0
  rw [hwa] at hcl
  obtain ⟨i0, hi, hz0, hz1, hz2⟩ := info_parts infoEntry
  go_enter Tryd.func33, Tryd.ntmps33
  go_wp2_with fail
  refine hcl.mono ?_
  rw [← hwa]
  rintro e w0 ⟨rfl, hr0, hb0⟩
  have he0 : EnAt w0 w.heap.size En.zero := hea.but hb0 (by simp; omega)
  have hB0 := hba.next hb0
  clear hcl hwa hba hra hea hb0
  go_upto_if 10 with fail
  go_cut [2] from 9 to 13 (fun rv W => rv = .pointer (some ⟨w.heap.size, 0, none⟩) ∧ RdB W R s0 (b0 && atOk u) ∧ EnAt W w.heap.size En.zero ∧ But [R] w W)
  case first =>
    by_cases hu : u < 9223372036854775808
    · have hu1 : (u : Int) < 9223372036854775808 := by omega
      have hu2 : decide ((9223372036854775808 : Int) ≤ (u : Int)) = false := by simp; omega
      have hr1 : RdB w0 R s0 (b0 && atOk u) := by rw [show atOk u = true from decide_eq_true hu, Bool.and_true]; exact hr0
      clear hu hu1
      go_upto_if 10 with fail
      rw [hu2]
      go_wp2_with fail
      go_meet
      exact ⟨rfl, hr1, he0, hB0⟩
    · have hu1 : (9223372036854775808 : Int) ≤ (u : Int) := by omega
      have f1 : w0.frozen? ⟨R, 1, none⟩ = false := Two.frozen hr0 1
      have d1 : w0.cell? ⟨R, 1, none⟩ = some (.bool b0) := Two.c1 hr0
      have hr1 : RdB (w0.setCell ⟨R, 1, none⟩ (.bool false)) R s0 (b0 && atOk u) := by rw [show atOk u = false from decide_eq_false hu, Bool.and_false]; exact rdB_bad hr0
      have he1 : EnAt (w0.setCell ⟨R, 1, none⟩ (.bool false)) w.heap.size En.zero := he0.of_block (Below.heap_setCell w0 ⟨R, 1, none⟩ _ _ (by simp only; omega))
      have hB1 : But [R] w (w0.setCell ⟨R, 1, none⟩ (.bool false)) := hB0.set (p := ⟨R, 1, none⟩) (.inl (by simp)) _
      have hu2 : decide ((9223372036854775808 : Int) ≤ (u : Int)) = true := by simp; omega
      clear hu hu1
      go_upto_if 10 with fail
      rw [hu2]
      go_wp2_with fail
      go_meet
      exact ⟨rfl, hr1, he1, hB1⟩
  obtain ⟨rfl, hrc, hec, hBc⟩ := hcut
  have qk : vk % 256 = (k : Int) := hk.out.symm
  obtain ⟨wx, hwx⟩ : ∃ wx, wx = wc.alloc (.cells #[.int .i64 (sgn u), .int .u8 0, .int .i64 0, .int .i64 0, .int .i64 0, .int .i64 0, .int .i64 0, .int .i64 0, .int .i64 0, .int .i64 0, .bool false, .int .i64 0, .int .u64 0] 26) := ⟨_, rfl⟩
  have hrx : RdB wx R s0 (b0 && atOk u) := by rw [hwx]; exact Two.alloc hrc _
  have hex : EnAt wx w.heap.size En.zero := by rw [hwx]; exact hec.alloc _
  have hxx : EnAt wx wc.heap.size (⟨sgn u, 0, 0, 0, 0, 0, 0, 0, 0, 0, false, 0, 0⟩ : En) := by rw [hwx]; exact enAt_new wc (⟨sgn u, 0, 0, 0, 0, 0, 0, 0, 0, 0, false, 0, 0⟩ : En)
  have hBx : But [R] w wx := by rw [hwx]; exact hBc.alloc _
  obtain ⟨X, hX⟩ : ∃ X, X = wc.heap.size := ⟨_, rfl⟩
  have hXlt : w.heap.size < X := by rw [hX]; exact hec.lt
  rw [← hX] at hxx
  have hcl := rdsmall_any R true 0 (by omega) s0 _ wx hrx (by omega) H1
  rw [hwx] at hcl
  clear hr0 he0 hB0 hrc hec hBc h
  go_wp2_with fail
  rw [← hX]
  clear hX
  refine hcl.mono ?_
  rw [← hwx]
  rintro e w1 ⟨rfl, hr1, hb1⟩
  have hx1 : EnAt w1 X (⟨sgn u, 0, 0, 0, 0, 0, 0, 0, 0, 0, false, 0, 0⟩ : En) := hxx.but hb1 (by simp; omega)
  have he1 : EnAt w1 w.heap.size En.zero := hex.but hb1 (by simp; omega)
  have hB1 := hBx.next hb1
  obtain ⟨v1, hv1⟩ : ∃ v1, v1 = w1.setCell ⟨X, 1, none⟩ (.int .u8 (k : Int)) := ⟨_, rfl⟩
  have hkk : ∀ i, i ≠ X → v1.heap[i]? = w1.heap[i]? := fun i hi => by rw [hv1]; exact Below.heap_setCell w1 ⟨X, 1, none⟩ _ i hi
  have hr2 : RdB v1 R s1 b1 := Two.of_block hr1 (hkk _ (by omega))
  have hx2 : EnAt v1 X (⟨sgn u, k, 0, 0, 0, 0, 0, 0, 0, 0, false, 0, 0⟩ : En) := by rw [hv1]; exact hx1.set1 k
  have he2 : EnAt v1 w.heap.size En.zero := he1.of_block (hkk _ (by omega))
  have hB2 : But [R] w v1 := by rw [hv1]; exact hB1.set (p := ⟨X, 1, none⟩) (.inr (by show w.heap.size ≤ X; omega)) _
  have f1 : w1.frozen? ⟨X, 1, none⟩ = false := hx1.frozen 1
  have d1 : w1.cell? ⟨X, 1, none⟩ = some (.int .u8 0) := hx1.c1
  have y1 : v1.cell? ⟨X, 1, none⟩ = some (.int .u8 (k : Int)) := hx2.c1
  rw [hv1] at y1
  have hofc := hof v1
  rw [hv1] at hofc
  clear hcl hwx hrx hex hxx hBx hr1 hb1 hx1 he1 hB1 hkk
  go_wp2_with fail
  refine hofc.mono ?_
  rw [← hv1]
  rintro e w2 ⟨rfl, hb2⟩
  obtain ⟨N, hN⟩ : ∃ N, N = w2.heap.size := ⟨_, rfl⟩
  obtain ⟨w3, hw3⟩ : ∃ w3, w3 = w2.alloc (.cells #[.bool g0, .bool g1, .bool g2, .bool g3, .bool g4, .bool g5, .bool g6, .bool g7, .bool g8, .bool g9, .bool g10] 56) := ⟨_, rfl⟩
  have hb3 : But [] w2 w3 := by rw [hw3]; exact (But.refl [] w2).alloc _
  have hb23 := hb2.next hb3
  have hXv : X < v1.heap.size := hx2.lt
  have hsep : OSep w R X N := ⟨hRlt, hXlt, by rw [hN]; have := hb2.size; omega, by rw [hN]; have := hb2.size; omega⟩
  have hS : OSt w w3 R X N s1 b1 (⟨sgn u, k, 0, 0, 0, 0, 0, 0, 0, 0, false, 0, 0⟩ : En) g0 g1 g2 g3 g4 g5 g6 g7 g8 g9 g10 := ⟨Two.of_block hr2 (hb23.block _ (Two.lt hr2) (by simp)), hx2.of_block (hb23.block _ hx2.lt (by simp)), by rw [hw3, hN]; exact ndAt_new w2 g0 g1 g2 g3 g4 g5 g6 g7 g8 g9 g10, he2.of_block (hb23.block _ he2.lt (by simp)), hB2.trans hb23 (by simp)⟩
  have hcl := rdsmall_any R g0 0 (by omega) s1 b1 w3 hS.rd (by omega) H2
  have n0 : w3.cell? ⟨N, 0, none⟩ = some (.bool g0) := hS.n.c0
  rw [hw3] at hcl n0
  rw [hN] at n0
  clear hr2 hx2 he2 hB2 f1 d1 y1 hofc hv1 hb2 hb3 hb23 hof qa qk
  go_wp2_with fail
  refine hcl.mono ?_
  rw [← hw3, ← hN]
  clear hcl hw3 hN n0
  rintro e wa0 ⟨rfl, hr, hb⟩
  have hT0 : OSt w wa0 R X N s2 b2 (⟨sgn u, k, 0, 0, 0, 0, 0, 0, 0, 0, false, 0, 0⟩ : En) g0 g1 g2 g3 g4 g5 g6 g7 g8 g9 g10 := hS.call hsep hr hb
  have f0 : wa0.frozen? ⟨X, 2, none⟩ = false := hT0.x.frozen 2
  have d0 : wa0.cell? ⟨X, 2, none⟩ = some (.int .i64 0) := hT0.x.c2
  obtain ⟨wb0, hw⟩ : ∃ W, W = wa0.setCell ⟨X, 2, none⟩ (.int .i64 vw) := ⟨_, rfl⟩
  have hU0 : OSt w wb0 R X N s2 b2 (⟨sgn u, k, vw, 0, 0, 0, 0, 0, 0, 0, false, 0, 0⟩ : En) g0 g1 g2 g3 g4 g5 g6 g7 g8 g9 g10 := by rw [hw]; exact hT0.store hsep (hT0.x.set2 (vw))
  have n0 : wb0.cell? ⟨N, 1, none⟩ = some (.bool g1) := hU0.n.c1
  have hcl := rdsmall_any R g1 0 (by omega) s2 b2 wb0 hU0.rd (by omega) H3
  rw [hw] at n0 hcl
  clear hS hT0 hr hb
  go_wp2_with fail
  refine hcl.mono ?_
  rw [← hw]
  clear hw n0 hcl f0 d0
  rintro e wa1 ⟨rfl, hr, hb⟩
  have hT1 : OSt w wa1 R X N s3 b3 (⟨sgn u, k, vw, 0, 0, 0, 0, 0, 0, 0, false, 0, 0⟩ : En) g0 g1 g2 g3 g4 g5 g6 g7 g8 g9 g10 := hU0.call hsep hr hb
  have f0 : wa1.frozen? ⟨X, 3, none⟩ = false := hT1.x.frozen 3
  have d0 : wa1.cell? ⟨X, 3, none⟩ = some (.int .i64 0) := hT1.x.c3
  obtain ⟨wb1, hw⟩ : ∃ W, W = wa1.setCell ⟨X, 3, none⟩ (.int .i64 vt) := ⟨_, rfl⟩
  have hU1 : OSt w wb1 R X N s3 b3 (⟨sgn u, k, vw, vt, 0, 0, 0, 0, 0, 0, false, 0, 0⟩ : En) g0 g1 g2 g3 g4 g5 g6 g7 g8 g9 g10 := by rw [hw]; exact hT1.store hsep (hT1.x.set3 (vt))
  have n0 : wb1.cell? ⟨N, 2, none⟩ = some (.bool g2) := hU1.n.c2
  have hcl := rdsmall_any R g2 1 (by omega) s3 b3 wb1 hU1.rd (by omega) H4
  rw [hw] at n0 hcl
  clear hU0 hT1 hr hb
  go_wp2_with fail
  refine hcl.mono ?_
  rw [← hw]
  clear hw n0 hcl f0 d0
  rintro e wa2 ⟨rfl, hr, hb⟩
  have hT2 : OSt w wa2 R X N s4 b4 (⟨sgn u, k, vw, vt, 0, 0, 0, 0, 0, 0, false, 0, 0⟩ : En) g0 g1 g2 g3 g4 g5 g6 g7 g8 g9 g10 := hU1.call hsep hr hb
  have f0 : wa2.frozen? ⟨X, 4, none⟩ = false := hT2.x.frozen 4
  have d0 : wa2.cell? ⟨X, 4, none⟩ = some (.int .i64 0) := hT2.x.c4
  obtain ⟨wb2, hw⟩ : ∃ W, W = wa2.setCell ⟨X, 4, none⟩ (.int .i64 vp) := ⟨_, rfl⟩
  have hU2 : OSt w wb2 R X N s4 b4 (⟨sgn u, k, vw, vt, vp, 0, 0, 0, 0, 0, false, 0, 0⟩ : En) g0 g1 g2 g3 g4 g5 g6 g7 g8 g9 g10 := by rw [hw]; exact hT2.store hsep (hT2.x.set4 (vp))
  have n0 : wb2.cell? ⟨N, 3, none⟩ = some (.bool g3) := hU2.n.c3
  have hcl := rdsmall_any R g3 0 (by omega) s4 b4 wb2 hU2.rd (by omega) H5
  rw [hw] at n0 hcl
  clear hU1 hT2 hr hb
  go_wp2_with fail
  refine hcl.mono ?_
  rw [← hw]
  clear hw n0 hcl f0 d0
  rintro e wa3 ⟨rfl, hr, hb⟩
  have hT3 : OSt w wa3 R X N s5 b5 (⟨sgn u, k, vw, vt, vp, 0, 0, 0, 0, 0, false, 0, 0⟩ : En) g0 g1 g2 g3 g4 g5 g6 g7 g8 g9 g10 := hU2.call hsep hr hb
  have f0 : wa3.frozen? ⟨X, 5, none⟩ = false := hT3.x.frozen 5
  have d0 : wa3.cell? ⟨X, 5, none⟩ = some (.int .i64 0) := hT3.x.c5
  obtain ⟨wb3, hw⟩ : ∃ W, W = wa3.setCell ⟨X, 5, none⟩ (.int .i64 vc) := ⟨_, rfl⟩
  have hU3 : OSt w wb3 R X N s5 b5 (⟨sgn u, k, vw, vt, vp, vc, 0, 0, 0, 0, false, 0, 0⟩ : En) g0 g1 g2 g3 g4 g5 g6 g7 g8 g9 g10 := by rw [hw]; exact hT3.store hsep (hT3.x.set5 (vc))
  have n0 : wb3.cell? ⟨N, 4, none⟩ = some (.bool g4) := hU3.n.c4
  have hcl := rdsmall_any R g4 1 (by omega) s5 b5 wb3 hU3.rd (by omega) H6
  rw [hw] at n0 hcl
  clear hU2 hT3 hr hb
  go_wp2_with fail
  refine hcl.mono ?_
  rw [← hw]
  clear hw n0 hcl f0 d0
  rintro e wa4 ⟨rfl, hr, hb⟩
  have hT4 : OSt w wa4 R X N s6 b6 (⟨sgn u, k, vw, vt, vp, vc, 0, 0, 0, 0, false, 0, 0⟩ : En) g0 g1 g2 g3 g4 g5 g6 g7 g8 g9 g10 := hU3.call hsep hr hb
  have f0 : wa4.frozen? ⟨X, 6, none⟩ = false := hT4.x.frozen 6
  have d0 : wa4.cell? ⟨X, 6, none⟩ = some (.int .i64 0) := hT4.x.c6
  obtain ⟨wb4, hw⟩ : ∃ W, W = wa4.setCell ⟨X, 6, none⟩ (.int .i64 vb) := ⟨_, rfl⟩
  have hU4 : OSt w wb4 R X N s6 b6 (⟨sgn u, k, vw, vt, vp, vc, vb, 0, 0, 0, false, 0, 0⟩ : En) g0 g1 g2 g3 g4 g5 g6 g7 g8 g9 g10 := by rw [hw]; exact hT4.store hsep (hT4.x.set6 (vb))
  have n0 : wb4.cell? ⟨N, 5, none⟩ = some (.bool g5) := hU4.n.c5
  have hcl := rdsmall_any R g5 1 (by omega) s6 b6 wb4 hU4.rd (by omega) H7
  rw [hw] at n0 hcl
  clear hU3 hT4 hr hb
  go_wp2_with fail
  refine hcl.mono ?_
  rw [← hw]
  clear hw n0 hcl f0 d0
  rintro e wa5 ⟨rfl, hr, hb⟩
  have hT5 : OSt w wa5 R X N s7 b7 (⟨sgn u, k, vw, vt, vp, vc, vb, 0, 0, 0, false, 0, 0⟩ : En) g0 g1 g2 g3 g4 g5 g6 g7 g8 g9 g10 := hU4.call hsep hr hb
  have f0 : wa5.frozen? ⟨X, 7, none⟩ = false := hT5.x.frozen 7
  have d0 : wa5.cell? ⟨X, 7, none⟩ = some (.int .i64 0) := hT5.x.c7
  obtain ⟨wb5, hw⟩ : ∃ W, W = wa5.setCell ⟨X, 7, none⟩ (.int .i64 vq) := ⟨_, rfl⟩
  have hU5 : OSt w wb5 R X N s7 b7 (⟨sgn u, k, vw, vt, vp, vc, vb, vq, 0, 0, false, 0, 0⟩ : En) g0 g1 g2 g3 g4 g5 g6 g7 g8 g9 g10 := by rw [hw]; exact hT5.store hsep (hT5.x.set7 (vq))
  have n0 : wb5.cell? ⟨N, 6, none⟩ = some (.bool g6) := hU5.n.c6
  have hcl := rdint_any R g6 s7 b7 wb5 hU5.rd (by omega) H8
  rw [hw] at n0 hcl
  clear hU4 hT5 hr hb
  go_wp2_with fail
  refine hcl.mono ?_
  rw [← hw]
  clear hw n0 hcl f0 d0
  rintro e wa6 ⟨rfl, hr, hb⟩
  have hT6 : OSt w wa6 R X N s8 b8 (⟨sgn u, k, vw, vt, vp, vc, vb, vq, 0, 0, false, 0, 0⟩ : En) g0 g1 g2 g3 g4 g5 g6 g7 g8 g9 g10 := hU5.call hsep hr hb
  have f0 : wa6.frozen? ⟨X, 8, none⟩ = false := hT6.x.frozen 8
  have d0 : wa6.cell? ⟨X, 8, none⟩ = some (.int .i64 0) := hT6.x.c8
  obtain ⟨wb6, hw⟩ : ∃ W, W = wa6.setCell ⟨X, 8, none⟩ (.int .i64 vv) := ⟨_, rfl⟩
  have hU6 : OSt w wb6 R X N s8 b8 (⟨sgn u, k, vw, vt, vp, vc, vb, vq, vv, 0, false, 0, 0⟩ : En) g0 g1 g2 g3 g4 g5 g6 g7 g8 g9 g10 := by rw [hw]; exact hT6.store hsep (hT6.x.set8 (vv))
  have n0 : wb6.cell? ⟨N, 7, none⟩ = some (.bool g7) := hU6.n.c7
  have hcl := rdint_any R g7 s8 b8 wb6 hU6.rd (by omega) H9
  rw [hw] at n0 hcl
  clear hU5 hT6 hr hb
  go_wp2_with fail
  refine hcl.mono ?_
  rw [← hw]
  clear hw n0 hcl f0 d0
  rintro e wa7 ⟨rfl, hr, hb⟩
  have hT7 : OSt w wa7 R X N s9 b9 (⟨sgn u, k, vw, vt, vp, vc, vb, vq, vv, 0, false, 0, 0⟩ : En) g0 g1 g2 g3 g4 g5 g6 g7 g8 g9 g10 := hU6.call hsep hr hb
  have f0 : wa7.frozen? ⟨X, 9, none⟩ = false := hT7.x.frozen 9
  have d0 : wa7.cell? ⟨X, 9, none⟩ = some (.int .i64 0) := hT7.x.c9
  obtain ⟨wb7, hw⟩ : ∃ W, W = wa7.setCell ⟨X, 9, none⟩ (.int .i64 vu) := ⟨_, rfl⟩
  have hU7 : OSt w wb7 R X N s9 b9 (⟨sgn u, k, vw, vt, vp, vc, vb, vq, vv, vu, false, 0, 0⟩ : En) g0 g1 g2 g3 g4 g5 g6 g7 g8 g9 g10 := by rw [hw]; exact hT7.store hsep (hT7.x.set9 (vu))
  have n0 : wb7.cell? ⟨N, 8, none⟩ = some (.bool g8) := hU7.n.c8
  have hcl := rdsmall_any R g8 0 (by omega) s9 b9 wb7 hU7.rd (by omega) H10
  rw [hw] at n0 hcl
  clear hU6 hT7 hr hb
  go_wp2_with fail
  refine hcl.mono ?_
  rw [← hw]
  clear hw n0 hcl f0 d0
  rintro e wa8 ⟨rfl, hr, hb⟩
  have hT8 : OSt w wa8 R X N s10 b10 (⟨sgn u, k, vw, vt, vp, vc, vb, vq, vv, vu, false, 0, 0⟩ : En) g0 g1 g2 g3 g4 g5 g6 g7 g8 g9 g10 := hU7.call hsep hr hb
  have f0 : wa8.frozen? ⟨X, 10, none⟩ = false := hT8.x.frozen 10
  have d0 : wa8.cell? ⟨X, 10, none⟩ = some (.bool false) := hT8.x.c10
  obtain ⟨wb8, hw⟩ : ∃ W, W = wa8.setCell ⟨X, 10, none⟩ (.bool (vo == 1)) := ⟨_, rfl⟩
  have hU8 : OSt w wb8 R X N s10 b10 (⟨sgn u, k, vw, vt, vp, vc, vb, vq, vv, vu, (vo == 1), 0, 0⟩ : En) g0 g1 g2 g3 g4 g5 g6 g7 g8 g9 g10 := by rw [hw]; exact hT8.store hsep (hT8.x.set10 ((vo == 1)))
  have n0 : wb8.cell? ⟨N, 9, none⟩ = some (.bool g9) := hU8.n.c9
  have hcl := rdsmall_any R g9 0 (by omega) s10 b10 wb8 hU8.rd (by omega) H11
  rw [hw] at n0 hcl
  clear hU7 hT8 hr hb
  go_wp2_with fail
  refine hcl.mono ?_
  rw [← hw]
  clear hw n0 hcl f0 d0
  rintro e wa9 ⟨rfl, hr, hb⟩
  have hT9 : OSt w wa9 R X N s11 b11 (⟨sgn u, k, vw, vt, vp, vc, vb, vq, vv, vu, (vo == 1), 0, 0⟩ : En) g0 g1 g2 g3 g4 g5 g6 g7 g8 g9 g10 := hU8.call hsep hr hb
  have f0 : wa9.frozen? ⟨X, 11, none⟩ = false := hT9.x.frozen 11
  have d0 : wa9.cell? ⟨X, 11, none⟩ = some (.int .i64 0) := hT9.x.c11
  obtain ⟨wb9, hw⟩ : ∃ W, W = wa9.setCell ⟨X, 11, none⟩ (.int .i64 ve) := ⟨_, rfl⟩
  have hU9 : OSt w wb9 R X N s11 b11 (⟨sgn u, k, vw, vt, vp, vc, vb, vq, vv, vu, (vo == 1), ve, 0⟩ : En) g0 g1 g2 g3 g4 g5 g6 g7 g8 g9 g10 := by rw [hw]; exact hT9.store hsep (hT9.x.set11 (ve))
  have n0 : wb9.cell? ⟨N, 10, none⟩ = some (.bool g10) := hU9.n.c10
  rw [hw] at n0
  clear hU8 hT9 hr hb
  go_upto_if 78 with fail
  rw [← hw]
  clear hw n0 f0 d0
  have n0 : wb9.cell? ⟨N, 10, none⟩ = some (.bool g10) := hU9.n.c10
  cases g10 with
  | false =>
    have HE : Hid (vs = 0 ∧ s12 = s11 ∧ b12 = b11) := Lib.hid (by have := H12.out; simp [setF] at this; exact ⟨this.1.symm, this.2.1.symm, this.2.2.symm⟩)
    have hE2 : OSt w wb9 R X N s12 b12 (⟨sgn u, k, vw, vt, vp, vc, vb, vq, vv, vu, (vo == 1), ve, vs⟩ : En) g0 g1 g2 g3 g4 g5 g6 g7 g8 g9 false := by rw [HE.out.1, HE.out.2.1, HE.out.2.2]; exact hU9
    clear HE hU9
    have y0 : World.cell? wb9 ⟨X, 0, none⟩ = some (.int .i64 (sgn u)) := hE2.x.c0
    have y1 : World.cell? wb9 ⟨X, 1, none⟩ = some (.int .u8 (k : Int)) := hE2.x.c1
    have y2 : World.cell? wb9 ⟨X, 2, none⟩ = some (.int .i64 vw) := hE2.x.c2
    have y3 : World.cell? wb9 ⟨X, 3, none⟩ = some (.int .i64 vt) := hE2.x.c3
    have y4 : World.cell? wb9 ⟨X, 4, none⟩ = some (.int .i64 vp) := hE2.x.c4
    have y5 : World.cell? wb9 ⟨X, 5, none⟩ = some (.int .i64 vc) := hE2.x.c5
    have y6 : World.cell? wb9 ⟨X, 6, none⟩ = some (.int .i64 vb) := hE2.x.c6
    have y7 : World.cell? wb9 ⟨X, 7, none⟩ = some (.int .i64 vq) := hE2.x.c7
    have y8 : World.cell? wb9 ⟨X, 8, none⟩ = some (.int .i64 vv) := hE2.x.c8
    have y9 : World.cell? wb9 ⟨X, 9, none⟩ = some (.int .i64 vu) := hE2.x.c9
    have y10 : World.cell? wb9 ⟨X, 10, none⟩ = some (.bool (vo == 1)) := hE2.x.c10
    have y11 : World.cell? wb9 ⟨X, 11, none⟩ = some (.int .i64 ve) := hE2.x.c11
    have y12 : World.cell? wb9 ⟨X, 12, none⟩ = some (.int .u64 (vs : Int)) := hE2.x.c12
    have r0 : World.cell? wb9 ⟨w.heap.size, 0, none⟩ = some (.int .i64 0) := hE2.res.c0
    have r1 : World.cell? wb9 ⟨w.heap.size, 1, none⟩ = some (.int .u8 0) := hE2.res.c1
    have r2 : World.cell? wb9 ⟨w.heap.size, 2, none⟩ = some (.int .i64 0) := hE2.res.c2
    have r3 : World.cell? wb9 ⟨w.heap.size, 3, none⟩ = some (.int .i64 0) := hE2.res.c3
    have r4 : World.cell? wb9 ⟨w.heap.size, 4, none⟩ = some (.int .i64 0) := hE2.res.c4
    have r5 : World.cell? wb9 ⟨w.heap.size, 5, none⟩ = some (.int .i64 0) := hE2.res.c5
    have r6 : World.cell? wb9 ⟨w.heap.size, 6, none⟩ = some (.int .i64 0) := hE2.res.c6
    have r7 : World.cell? wb9 ⟨w.heap.size, 7, none⟩ = some (.int .i64 0) := hE2.res.c7
    have r8 : World.cell? wb9 ⟨w.heap.size, 8, none⟩ = some (.int .i64 0) := hE2.res.c8
    have r9 : World.cell? wb9 ⟨w.heap.size, 9, none⟩ = some (.int .i64 0) := hE2.res.c9
    have r10 : World.cell? wb9 ⟨w.heap.size, 10, none⟩ = some (.bool false) := hE2.res.c10
    have r11 : World.cell? wb9 ⟨w.heap.size, 11, none⟩ = some (.int .i64 0) := hE2.res.c11
    have r12 : World.cell? wb9 ⟨w.heap.size, 12, none⟩ = some (.int .u64 0) := hE2.res.c12
    have fz : ∀ j, World.frozen? wb9 ⟨w.heap.size, j, none⟩ = false := fun j => hE2.res.frozen j
    have hz9 : EnAt (put13 wb9 w.heap.size (⟨sgn u, k, vw, vt, vp, vc, vb, vq, vv, vu, (vo == 1), ve, vs⟩ : En)) w.heap.size (⟨sgn u, k, vw, vt, vp, vc, vb, vq, vv, vu, (vo == 1), ve, vs⟩ : En) := hE2.res.put13 _
    have q0 : World.cell? (put13 wb9 w.heap.size (⟨sgn u, k, vw, vt, vp, vc, vb, vq, vv, vu, (vo == 1), ve, vs⟩ : En)) ⟨w.heap.size, 0, none⟩ = some (.int .i64 (sgn u)) := hz9.c0
    have q1 : World.cell? (put13 wb9 w.heap.size (⟨sgn u, k, vw, vt, vp, vc, vb, vq, vv, vu, (vo == 1), ve, vs⟩ : En)) ⟨w.heap.size, 1, none⟩ = some (.int .u8 (k : Int)) := hz9.c1
    have q2 : World.cell? (put13 wb9 w.heap.size (⟨sgn u, k, vw, vt, vp, vc, vb, vq, vv, vu, (vo == 1), ve, vs⟩ : En)) ⟨w.heap.size, 2, none⟩ = some (.int .i64 vw) := hz9.c2
    have q3 : World.cell? (put13 wb9 w.heap.size (⟨sgn u, k, vw, vt, vp, vc, vb, vq, vv, vu, (vo == 1), ve, vs⟩ : En)) ⟨w.heap.size, 3, none⟩ = some (.int .i64 vt) := hz9.c3
    have q4 : World.cell? (put13 wb9 w.heap.size (⟨sgn u, k, vw, vt, vp, vc, vb, vq, vv, vu, (vo == 1), ve, vs⟩ : En)) ⟨w.heap.size, 4, none⟩ = some (.int .i64 vp) := hz9.c4
    have q5 : World.cell? (put13 wb9 w.heap.size (⟨sgn u, k, vw, vt, vp, vc, vb, vq, vv, vu, (vo == 1), ve, vs⟩ : En)) ⟨w.heap.size, 5, none⟩ = some (.int .i64 vc) := hz9.c5
    have q6 : World.cell? (put13 wb9 w.heap.size (⟨sgn u, k, vw, vt, vp, vc, vb, vq, vv, vu, (vo == 1), ve, vs⟩ : En)) ⟨w.heap.size, 6, none⟩ = some (.int .i64 vb) := hz9.c6
    have q7 : World.cell? (put13 wb9 w.heap.size (⟨sgn u, k, vw, vt, vp, vc, vb, vq, vv, vu, (vo == 1), ve, vs⟩ : En)) ⟨w.heap.size, 7, none⟩ = some (.int .i64 vq) := hz9.c7
    have q8 : World.cell? (put13 wb9 w.heap.size (⟨sgn u, k, vw, vt, vp, vc, vb, vq, vv, vu, (vo == 1), ve, vs⟩ : En)) ⟨w.heap.size, 8, none⟩ = some (.int .i64 vv) := hz9.c8
    have q9 : World.cell? (put13 wb9 w.heap.size (⟨sgn u, k, vw, vt, vp, vc, vb, vq, vv, vu, (vo == 1), ve, vs⟩ : En)) ⟨w.heap.size, 9, none⟩ = some (.int .i64 vu) := hz9.c9
    have q10 : World.cell? (put13 wb9 w.heap.size (⟨sgn u, k, vw, vt, vp, vc, vb, vq, vv, vu, (vo == 1), ve, vs⟩ : En)) ⟨w.heap.size, 10, none⟩ = some (.bool (vo == 1)) := hz9.c10
    have q11 : World.cell? (put13 wb9 w.heap.size (⟨sgn u, k, vw, vt, vp, vc, vb, vq, vv, vu, (vo == 1), ve, vs⟩ : En)) ⟨w.heap.size, 11, none⟩ = some (.int .i64 ve) := hz9.c11
    have q12 : World.cell? (put13 wb9 w.heap.size (⟨sgn u, k, vw, vt, vp, vc, vb, vq, vv, vu, (vo == 1), ve, vs⟩ : En)) ⟨w.heap.size, 12, none⟩ = some (.int .u64 (vs : Int)) := hz9.c12
    have hRd : RdB (put13 wb9 w.heap.size (⟨sgn u, k, vw, vt, vp, vc, vb, vq, vv, vu, (vo == 1), ve, vs⟩ : En)) R s12 b12 := Two.of_block hE2.rd ((but_put13 _ _ _).block R (Two.lt hE2.rd) (by simp; omega))
    have hBt : But [R] w (put13 wb9 w.heap.size (⟨sgn u, k, vw, vt, vp, vc, vb, vq, vv, vu, (vo == 1), ve, vs⟩ : En)) := hE2.but.trans (but_put13 _ _ _) (fun j hj hj2 => by obtain rfl := List.mem_singleton.1 hj; omega)
    unfold put13 at q0 q1 q2 q3 q4 q5 q6 q7 q8 q9 q10 q11 q12 hRd hBt
    clear hz9 hE2
    go_wp2_with fail
    exact bodyPost_ret (v := (⟨sgn u, k, vw, vt, vp, vc, vb, vq, vv, vu, (vo == 1), ve, vs⟩ : En).val) (by simp [results, Tryd.f33, go_sem, En.val, q0, q1, q2, q3, q4, q5, q6, q7, q8, q9, q10, q11, q12]) rfl ⟨rfl, hRd, hBt⟩
  | true =>
    have hcl := rdnum_any R s11 b11 wb9 hU9.rd (by omega) (Lib.hid (show numF s11 b11 = (vs, s12, b12) by have := H12.out; simpa [setF] using this))
    go_wp2_with fail
    refine hcl.mono ?_
    rintro e wn ⟨rfl, hr, hb⟩
    have hT := hU9.call hsep hr hb
    have f0 : wn.frozen? ⟨X, 12, none⟩ = false := hT.x.frozen 12
    have d0 : wn.cell? ⟨X, 12, none⟩ = some (.int .u64 0) := hT.x.c12
    have hE2 : OSt w (wn.setCell ⟨X, 12, none⟩ (.int .u64 (vs : Int))) R X N s12 b12 (⟨sgn u, k, vw, vt, vp, vc, vb, vq, vv, vu, (vo == 1), ve, vs⟩ : En) g0 g1 g2 g3 g4 g5 g6 g7 g8 g9 true := hT.store hsep (hT.x.set12 vs)
    clear hcl hU9 hr hb hT n0
    have y0 : World.cell? (wn.setCell ⟨X, 12, none⟩ (.int .u64 (vs : Int))) ⟨X, 0, none⟩ = some (.int .i64 (sgn u)) := hE2.x.c0
    have y1 : World.cell? (wn.setCell ⟨X, 12, none⟩ (.int .u64 (vs : Int))) ⟨X, 1, none⟩ = some (.int .u8 (k : Int)) := hE2.x.c1
    have y2 : World.cell? (wn.setCell ⟨X, 12, none⟩ (.int .u64 (vs : Int))) ⟨X, 2, none⟩ = some (.int .i64 vw) := hE2.x.c2
    have y3 : World.cell? (wn.setCell ⟨X, 12, none⟩ (.int .u64 (vs : Int))) ⟨X, 3, none⟩ = some (.int .i64 vt) := hE2.x.c3
    have y4 : World.cell? (wn.setCell ⟨X, 12, none⟩ (.int .u64 (vs : Int))) ⟨X, 4, none⟩ = some (.int .i64 vp) := hE2.x.c4
    have y5 : World.cell? (wn.setCell ⟨X, 12, none⟩ (.int .u64 (vs : Int))) ⟨X, 5, none⟩ = some (.int .i64 vc) := hE2.x.c5
    have y6 : World.cell? (wn.setCell ⟨X, 12, none⟩ (.int .u64 (vs : Int))) ⟨X, 6, none⟩ = some (.int .i64 vb) := hE2.x.c6
    have y7 : World.cell? (wn.setCell ⟨X, 12, none⟩ (.int .u64 (vs : Int))) ⟨X, 7, none⟩ = some (.int .i64 vq) := hE2.x.c7
    have y8 : World.cell? (wn.setCell ⟨X, 12, none⟩ (.int .u64 (vs : Int))) ⟨X, 8, none⟩ = some (.int .i64 vv) := hE2.x.c8
    have y9 : World.cell? (wn.setCell ⟨X, 12, none⟩ (.int .u64 (vs : Int))) ⟨X, 9, none⟩ = some (.int .i64 vu) := hE2.x.c9
    have y10 : World.cell? (wn.setCell ⟨X, 12, none⟩ (.int .u64 (vs : Int))) ⟨X, 10, none⟩ = some (.bool (vo == 1)) := hE2.x.c10
    have y11 : World.cell? (wn.setCell ⟨X, 12, none⟩ (.int .u64 (vs : Int))) ⟨X, 11, none⟩ = some (.int .i64 ve) := hE2.x.c11
    have y12 : World.cell? (wn.setCell ⟨X, 12, none⟩ (.int .u64 (vs : Int))) ⟨X, 12, none⟩ = some (.int .u64 (vs : Int)) := hE2.x.c12
    have r0 : World.cell? (wn.setCell ⟨X, 12, none⟩ (.int .u64 (vs : Int))) ⟨w.heap.size, 0, none⟩ = some (.int .i64 0) := hE2.res.c0
    have r1 : World.cell? (wn.setCell ⟨X, 12, none⟩ (.int .u64 (vs : Int))) ⟨w.heap.size, 1, none⟩ = some (.int .u8 0) := hE2.res.c1
    have r2 : World.cell? (wn.setCell ⟨X, 12, none⟩ (.int .u64 (vs : Int))) ⟨w.heap.size, 2, none⟩ = some (.int .i64 0) := hE2.res.c2
    have r3 : World.cell? (wn.setCell ⟨X, 12, none⟩ (.int .u64 (vs : Int))) ⟨w.heap.size, 3, none⟩ = some (.int .i64 0) := hE2.res.c3
    have r4 : World.cell? (wn.setCell ⟨X, 12, none⟩ (.int .u64 (vs : Int))) ⟨w.heap.size, 4, none⟩ = some (.int .i64 0) := hE2.res.c4
    have r5 : World.cell? (wn.setCell ⟨X, 12, none⟩ (.int .u64 (vs : Int))) ⟨w.heap.size, 5, none⟩ = some (.int .i64 0) := hE2.res.c5
    have r6 : World.cell? (wn.setCell ⟨X, 12, none⟩ (.int .u64 (vs : Int))) ⟨w.heap.size, 6, none⟩ = some (.int .i64 0) := hE2.res.c6
    have r7 : World.cell? (wn.setCell ⟨X, 12, none⟩ (.int .u64 (vs : Int))) ⟨w.heap.size, 7, none⟩ = some (.int .i64 0) := hE2.res.c7
    have r8 : World.cell? (wn.setCell ⟨X, 12, none⟩ (.int .u64 (vs : Int))) ⟨w.heap.size, 8, none⟩ = some (.int .i64 0) := hE2.res.c8
    have r9 : World.cell? (wn.setCell ⟨X, 12, none⟩ (.int .u64 (vs : Int))) ⟨w.heap.size, 9, none⟩ = some (.int .i64 0) := hE2.res.c9
    have r10 : World.cell? (wn.setCell ⟨X, 12, none⟩ (.int .u64 (vs : Int))) ⟨w.heap.size, 10, none⟩ = some (.bool false) := hE2.res.c10
    have r11 : World.cell? (wn.setCell ⟨X, 12, none⟩ (.int .u64 (vs : Int))) ⟨w.heap.size, 11, none⟩ = some (.int .i64 0) := hE2.res.c11
    have r12 : World.cell? (wn.setCell ⟨X, 12, none⟩ (.int .u64 (vs : Int))) ⟨w.heap.size, 12, none⟩ = some (.int .u64 0) := hE2.res.c12
    have fz : ∀ j, World.frozen? (wn.setCell ⟨X, 12, none⟩ (.int .u64 (vs : Int))) ⟨w.heap.size, j, none⟩ = false := fun j => hE2.res.frozen j
    have hz9 : EnAt (put13 (wn.setCell ⟨X, 12, none⟩ (.int .u64 (vs : Int))) w.heap.size (⟨sgn u, k, vw, vt, vp, vc, vb, vq, vv, vu, (vo == 1), ve, vs⟩ : En)) w.heap.size (⟨sgn u, k, vw, vt, vp, vc, vb, vq, vv, vu, (vo == 1), ve, vs⟩ : En) := hE2.res.put13 _
    have q0 : World.cell? (put13 (wn.setCell ⟨X, 12, none⟩ (.int .u64 (vs : Int))) w.heap.size (⟨sgn u, k, vw, vt, vp, vc, vb, vq, vv, vu, (vo == 1), ve, vs⟩ : En)) ⟨w.heap.size, 0, none⟩ = some (.int .i64 (sgn u)) := hz9.c0
    have q1 : World.cell? (put13 (wn.setCell ⟨X, 12, none⟩ (.int .u64 (vs : Int))) w.heap.size (⟨sgn u, k, vw, vt, vp, vc, vb, vq, vv, vu, (vo == 1), ve, vs⟩ : En)) ⟨w.heap.size, 1, none⟩ = some (.int .u8 (k : Int)) := hz9.c1
    have q2 : World.cell? (put13 (wn.setCell ⟨X, 12, none⟩ (.int .u64 (vs : Int))) w.heap.size (⟨sgn u, k, vw, vt, vp, vc, vb, vq, vv, vu, (vo == 1), ve, vs⟩ : En)) ⟨w.heap.size, 2, none⟩ = some (.int .i64 vw) := hz9.c2
    have q3 : World.cell? (put13 (wn.setCell ⟨X, 12, none⟩ (.int .u64 (vs : Int))) w.heap.size (⟨sgn u, k, vw, vt, vp, vc, vb, vq, vv, vu, (vo == 1), ve, vs⟩ : En)) ⟨w.heap.size, 3, none⟩ = some (.int .i64 vt) := hz9.c3
    have q4 : World.cell? (put13 (wn.setCell ⟨X, 12, none⟩ (.int .u64 (vs : Int))) w.heap.size (⟨sgn u, k, vw, vt, vp, vc, vb, vq, vv, vu, (vo == 1), ve, vs⟩ : En)) ⟨w.heap.size, 4, none⟩ = some (.int .i64 vp) := hz9.c4
    have q5 : World.cell? (put13 (wn.setCell ⟨X, 12, none⟩ (.int .u64 (vs : Int))) w.heap.size (⟨sgn u, k, vw, vt, vp, vc, vb, vq, vv, vu, (vo == 1), ve, vs⟩ : En)) ⟨w.heap.size, 5, none⟩ = some (.int .i64 vc) := hz9.c5
    have q6 : World.cell? (put13 (wn.setCell ⟨X, 12, none⟩ (.int .u64 (vs : Int))) w.heap.size (⟨sgn u, k, vw, vt, vp, vc, vb, vq, vv, vu, (vo == 1), ve, vs⟩ : En)) ⟨w.heap.size, 6, none⟩ = some (.int .i64 vb) := hz9.c6
    have q7 : World.cell? (put13 (wn.setCell ⟨X, 12, none⟩ (.int .u64 (vs : Int))) w.heap.size (⟨sgn u, k, vw, vt, vp, vc, vb, vq, vv, vu, (vo == 1), ve, vs⟩ : En)) ⟨w.heap.size, 7, none⟩ = some (.int .i64 vq) := hz9.c7
    have q8 : World.cell? (put13 (wn.setCell ⟨X, 12, none⟩ (.int .u64 (vs : Int))) w.heap.size (⟨sgn u, k, vw, vt, vp, vc, vb, vq, vv, vu, (vo == 1), ve, vs⟩ : En)) ⟨w.heap.size, 8, none⟩ = some (.int .i64 vv) := hz9.c8
    have q9 : World.cell? (put13 (wn.setCell ⟨X, 12, none⟩ (.int .u64 (vs : Int))) w.heap.size (⟨sgn u, k, vw, vt, vp, vc, vb, vq, vv, vu, (vo == 1), ve, vs⟩ : En)) ⟨w.heap.size, 9, none⟩ = some (.int .i64 vu) := hz9.c9
    have q10 : World.cell? (put13 (wn.setCell ⟨X, 12, none⟩ (.int .u64 (vs : Int))) w.heap.size (⟨sgn u, k, vw, vt, vp, vc, vb, vq, vv, vu, (vo == 1), ve, vs⟩ : En)) ⟨w.heap.size, 10, none⟩ = some (.bool (vo == 1)) := hz9.c10
    have q11 : World.cell? (put13 (wn.setCell ⟨X, 12, none⟩ (.int .u64 (vs : Int))) w.heap.size (⟨sgn u, k, vw, vt, vp, vc, vb, vq, vv, vu, (vo == 1), ve, vs⟩ : En)) ⟨w.heap.size, 11, none⟩ = some (.int .i64 ve) := hz9.c11
    have q12 : World.cell? (put13 (wn.setCell ⟨X, 12, none⟩ (.int .u64 (vs : Int))) w.heap.size (⟨sgn u, k, vw, vt, vp, vc, vb, vq, vv, vu, (vo == 1), ve, vs⟩ : En)) ⟨w.heap.size, 12, none⟩ = some (.int .u64 (vs : Int)) := hz9.c12
    have hRd : RdB (put13 (wn.setCell ⟨X, 12, none⟩ (.int .u64 (vs : Int))) w.heap.size (⟨sgn u, k, vw, vt, vp, vc, vb, vq, vv, vu, (vo == 1), ve, vs⟩ : En)) R s12 b12 := Two.of_block hE2.rd ((but_put13 _ _ _).block R (Two.lt hE2.rd) (by simp; omega))
    have hBt : But [R] w (put13 (wn.setCell ⟨X, 12, none⟩ (.int .u64 (vs : Int))) w.heap.size (⟨sgn u, k, vw, vt, vp, vc, vb, vq, vv, vu, (vo == 1), ve, vs⟩ : En)) := hE2.but.trans (but_put13 _ _ _) (fun j hj hj2 => by obtain rfl := List.mem_singleton.1 hj; omega)
    unfold put13 at q0 q1 q2 q3 q4 q5 q6 q7 q8 q9 q10 q11 q12 hRd hBt
    clear hz9 hE2
    go_wp2_with fail
    exact bodyPost_ret (v := (⟨sgn u, k, vw, vt, vp, vc, vb, vq, vv, vu, (vo == 1), ve, vs⟩ : En).val) (by simp [results, Tryd.f33, go_sem, En.val, q0, q1, q2, q3, q4, q5, q6, q7, q8, q9, q10, q11, q12]) rfl ⟨rfl, hRd, hBt⟩
end Go.Proofs.YtengpehiknoheaaDoor
