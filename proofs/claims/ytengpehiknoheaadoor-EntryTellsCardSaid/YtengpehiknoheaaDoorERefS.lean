/-
  What the document's reader.one answers: an entry; where bytes are those of one that may be, just that one.
-/
import Derived.Test.YtengpehiknoheaaDoorERefO
namespace Go.Proofs.YtengpehiknoheaaDoor
open Go.RowKit Go.Shelf Oct

def Suf (s r : List UInt8) : Prop := ∃ d, s = d ++ r
theorem Suf.refl (s : List UInt8) : Suf s s := ⟨[], rfl⟩
theorem Suf.trans {a b c : List UInt8} (h : Suf a b) (k : Suf b c) : Suf a c := by
  obtain ⟨d, rfl⟩ := h
  obtain ⟨e, rfl⟩ := k
  exact ⟨d ++ e, by rw [List.append_assoc]⟩
theorem getR_suf {s : List UInt8} (h : (getR s).2.2 = 0) : Suf s (getR s).2.1 := by
  obtain ⟨u, r, n, hg⟩ : ∃ u r n, getR s = (u, r, n) := ⟨_, _, _, rfl⟩
  rw [hg] at h ⊢
  simp only at h ⊢
  subst h
  exact ⟨_, (getR_back hg).1.symm⟩
theorem numF_suf (s : List UInt8) (b : Bool) : Suf s (numF s b).2.1 := by
  unfold numF
  split
  · rename_i h
    exact getR_suf h.2
  · exact Suf.refl s
theorem smallF_suf (g : Bool) (d : Int) (s : List UInt8) (b : Bool) : Suf s (smallF g d s b).2.1 := by
  unfold smallF
  split
  · split <;> exact numF_suf s b
  · exact Suf.refl s
theorem intF_suf (g : Bool) (s : List UInt8) (b : Bool) : Suf s (intF g s b).2.1 := by
  unfold intF
  split
  · split
    · rename_i h
      exact getR_suf h.2
    · exact Suf.refl s
  · exact Suf.refl s
theorem setF_suf (g : Bool) (s : List UInt8) (b : Bool) : Suf s (setF g s b).2.1 := by
  unfold setF
  split
  · exact numF_suf s b
  · exact Suf.refl s

theorem numF_go {v : Nat} (h : v < 18446744073709551616) (r : List UInt8) : numF (numL v ++ r) true = (v, r, true) := by
  unfold numF
  rw [getR_numL h r]
  simp
theorem smallF_go (g : Bool) (d val : Int) (h : 0 ≤ val ∧ val ≤ 1000) (r : List UInt8) : smallF g d (ifL g (numL (uns val)) ++ r) true = (if g then val - d else 0, r, true) := by
  cases g with
  | false => simp [smallF, ifL]
  | true =>
    have hu : ((uns val : Nat) : Int) = val := by unfold uns; rw [if_pos h.1]; omega
    have hlt : uns val < 18446744073709551616 := by omega
    have hle : uns val ≤ 1000 := by omega
    unfold smallF ifL
    rw [if_pos rfl, if_pos rfl, numF_go hlt, if_pos hle, if_pos rfl, hu]
theorem intF_go (g : Bool) {v : Int} (h : I64b v) (r : List UInt8) : intF g (ifL g (numL (foldN v)) ++ r) true = (if g then v else 0, r, true) := by
  cases g with
  | false => simp [intF, ifL]
  | true =>
    unfold intF ifL
    rw [if_pos rfl, if_pos rfl, getR_numL (foldN_lt h.1 h.2)]
    simp [backI_foldN]
theorem setF_go (g : Bool) {s : Nat} (h : s < 18446744073709551616) (r : List UInt8) : setF g (ifL g (numL s) ++ r) true = (if g then s else 0, r, true) := by
  cases g with
  | false => simp [setF, ifL]
  | true =>
    unfold setF ifL
    rw [if_pos rfl, if_pos rfl, numF_go h, if_pos rfl]
theorem ok_zero {x : En} (h : okB x = true) : (nWorker x.k = false → x.w = 0) ∧ (nTask x.k = false → x.t = 0) ∧ (nPeer x.k = false → x.p = 0) ∧ (nCh x.k = false → x.c = 0) ∧ (nCase x.k = false → x.b = 0) ∧ (nPeerCase x.k = false → x.q = 0) ∧ (nVal x.k = false → x.v = 0) ∧ (nVal2 x.k = false → x.u = 0) ∧ (nOk x.k = false → x.o = false) ∧ (nCode x.k = false → x.e = 0) ∧ (nSet x.k = false → x.s = 0) := by
  obtain ⟨a, k, w, t, p, c, b, q, v, u, o, e, s⟩ := x
  have hk : known k = true := (okB_iff.1 h).1
  rcases known_cases hk with rfl | rfl | rfl | rfl | rfl | rfl | rfl | rfl | rfl | rfl | rfl | rfl | rfl | rfl | rfl | rfl | rfl
  all_goals
    cases o <;> simp [okB, mayAll, known, namesOf, mayStep, mayN, En.get, bareOf, bareStep, En.put, En.only, En.eq, flagI, En.setS] at h <;> simp [nWorker, nTask, nPeer, nCh, nCase, nPeerCase, nVal, nVal2, nOk, nCode, nSet] <;> omega
theorem ifz (g : Bool) (v : Int) (h : g = false → v = 0) : (if g = true then v else 0) = v := by
  cases g with
  | false => rw [h rfl]; rfl
  | true => rfl
theorem ifzn (g : Bool) (v : Nat) (h : g = false → v = 0) : (if g = true then v else 0) = v := by
  cases g with
  | false => rw [h rfl]; rfl
  | true => rfl
def OneP (s : List UInt8) (b : Bool) (x : En) (s' : List UInt8) (b' : Bool) : Prop :=
  x.ok ∧ Suf s s' ∧ (b = true → ∀ (y : En) (r : List UInt8), y.ok → okB y = true → s = enL y ++ r → x = y ∧ s' = r ∧ b' = true)
theorem one_pure {s : List UInt8} {b : Bool} {u : Nat} {s0 : List UInt8} {b0 : Bool} {vk : Int} {k : Nat} {s1 : List UInt8} {b1 : Bool} {vw : Int} {s2 : List UInt8} {b2 : Bool} {vt : Int} {s3 : List UInt8} {b3 : Bool} {vp : Int} {s4 : List UInt8} {b4 : Bool} {vc : Int} {s5 : List UInt8} {b5 : Bool} {vb : Int} {s6 : List UInt8} {b6 : Bool} {vq : Int} {s7 : List UInt8} {b7 : Bool} {vv : Int} {s8 : List UInt8} {b8 : Bool} {vu : Int} {s9 : List UInt8} {b9 : Bool} {vo : Int} {s10 : List UInt8} {b10 : Bool} {ve : Int} {s11 : List UInt8} {b11 : Bool} {vs : Nat} {s12 : List UInt8} {b12 : Bool}
    (H0 : numF s b = (u, s0, b0)) (H1 : smallF true 0 s0 (b0 && atOk u) = (vk, s1, b1)) (hk : k = (vk % 256).toNat)
    (H2 : smallF (nWorker k) 0 s1 b1 = (vw, s2, b2))
    (H3 : smallF (nTask k) 0 s2 b2 = (vt, s3, b3))
    (H4 : smallF (nPeer k) 1 s3 b3 = (vp, s4, b4))
    (H5 : smallF (nCh k) 0 s4 b4 = (vc, s5, b5))
    (H6 : smallF (nCase k) 1 s5 b5 = (vb, s6, b6))
    (H7 : smallF (nPeerCase k) 1 s6 b6 = (vq, s7, b7))
    (H8 : intF (nVal k) s7 b7 = (vv, s8, b8))
    (H9 : intF (nVal2 k) s8 b8 = (vu, s9, b9))
    (H10 : smallF (nOk k) 0 s9 b9 = (vo, s10, b10))
    (H11 : smallF (nCode k) 0 s10 b10 = (ve, s11, b11))
    (H12 : setF (nSet k) s11 b11 = (vs, s12, b12)) : OneP s b (⟨sgn u, k, vw, vt, vp, vc, vb, vq, vv, vu, (vo == 1), ve, vs⟩ : En) s12 b12 := by
  refine ⟨?_, ?_, ?_⟩
  · have l0 := numF_lt s b
    rw [H0] at l0
    have l2 := smallF_b (nWorker k) 0 (by omega) s1 b1
    rw [H2] at l2
    have l3 := smallF_b (nTask k) 0 (by omega) s2 b2
    rw [H3] at l3
    have l4 := smallF_b (nPeer k) 1 (by omega) s3 b3
    rw [H4] at l4
    have l5 := smallF_b (nCh k) 0 (by omega) s4 b4
    rw [H5] at l5
    have l6 := smallF_b (nCase k) 1 (by omega) s5 b5
    rw [H6] at l6
    have l7 := smallF_b (nPeerCase k) 1 (by omega) s6 b6
    rw [H7] at l7
    have l8 := intF_b (nVal k) s7 b7
    rw [H8] at l8
    have l9 := intF_b (nVal2 k) s8 b8
    rw [H9] at l9
    have l10 := smallF_b (nOk k) 0 (by omega) s9 b9
    rw [H10] at l10
    have l11 := smallF_b (nCode k) 0 (by omega) s10 b10
    rw [H11] at l11
    have l12 := setF_lt (nSet k) s11 b11
    rw [H12] at l12
    simp only at l0 l2 l3 l4 l5 l6 l7 l8 l9 l10 l11 l12
    exact ⟨sgn_b u l0, by simp only; omega, ⟨by simp only; omega, by simp only; omega⟩, ⟨by simp only; omega, by simp only; omega⟩, ⟨by simp only; omega, by simp only; omega⟩, ⟨by simp only; omega, by simp only; omega⟩, ⟨by simp only; omega, by simp only; omega⟩, ⟨by simp only; omega, by simp only; omega⟩, l8, l9, ⟨by simp only; omega, by simp only; omega⟩, l12⟩
  · have l0 := numF_suf s b
    rw [H0] at l0
    have l1 := smallF_suf true 0 s0 (b0 && atOk u)
    rw [H1] at l1
    have l2 := smallF_suf (nWorker k) 0 s1 b1
    rw [H2] at l2
    have l3 := smallF_suf (nTask k) 0 s2 b2
    rw [H3] at l3
    have l4 := smallF_suf (nPeer k) 1 s3 b3
    rw [H4] at l4
    have l5 := smallF_suf (nCh k) 0 s4 b4
    rw [H5] at l5
    have l6 := smallF_suf (nCase k) 1 s5 b5
    rw [H6] at l6
    have l7 := smallF_suf (nPeerCase k) 1 s6 b6
    rw [H7] at l7
    have l8 := intF_suf (nVal k) s7 b7
    rw [H8] at l8
    have l9 := intF_suf (nVal2 k) s8 b8
    rw [H9] at l9
    have l10 := smallF_suf (nOk k) 0 s9 b9
    rw [H10] at l10
    have l11 := smallF_suf (nCode k) 0 s10 b10
    rw [H11] at l11
    have l12 := setF_suf (nSet k) s11 b11
    rw [H12] at l12
    exact (((((((((((l0.trans l1).trans l2).trans l3).trans l4).trans l5).trans l6).trans l7).trans l8).trans l9).trans l10).trans l11).trans l12
  · rintro rfl y r hy hok rfl
    have hkn := (okB_iff.1 hok).1
    obtain ⟨⟨p0, q0⟩, ⟨p1, q1⟩, ⟨p2, q2⟩, ⟨p3, q3⟩, ⟨p4, q4⟩, ⟨p5, q5⟩, p6, q6⟩ := ok_bounds hok
    obtain ⟨e0, e1, e2, e3, e4, e5, e6, e7, e8, e9, e10⟩ := ok_zero hok
    have ha : 0 ≤ y.a := (okB_iff.1 hok).2.2.1
    have ha2 := hy.a.2
    have hkl := hy.k
    have hfl : 0 ≤ flagI y.o ∧ flagI y.o ≤ 1000 := by unfold flagI; split <;> omega
    rw [← enL_parts y hy hkn] at H0
    simp only [six, List.flatMap_cons, List.flatMap_nil, pcB, List.append_assoc, List.append_nil] at H0
    rw [numF_go (by omega)] at H0
    simp only [Prod.mk.injEq] at H0
    obtain ⟨rfl, rfl, rfl⟩ := H0
    have hat : atOk y.a.toNat = true := by unfold atOk; rw [decide_eq_true_eq]; omega
    have huk : uns (y.k : Int) = y.k := by unfold uns; rw [if_pos (by omega), Int.toNat_natCast]
    have g1 := fun R => smallF_go true 0 (y.k : Int) (by omega) R
    rw [huk] at g1
    simp only [ifL, if_pos] at g1
    rw [hat, Bool.and_true, g1] at H1
    simp only [Prod.mk.injEq] at H1
    obtain ⟨rfl, rfl, rfl⟩ := H1
    obtain rfl : k = y.k := by omega
    rw [smallF_go _ 0 y.w (by omega)] at H2
    simp only [Prod.mk.injEq] at H2
    obtain ⟨rfl, rfl, rfl⟩ := H2
    rw [smallF_go _ 0 y.t (by omega)] at H3
    simp only [Prod.mk.injEq] at H3
    obtain ⟨rfl, rfl, rfl⟩ := H3
    rw [smallF_go _ 1 (y.p + 1) (by omega)] at H4
    simp only [Prod.mk.injEq] at H4
    obtain ⟨rfl, rfl, rfl⟩ := H4
    rw [smallF_go _ 0 y.c (by omega)] at H5
    simp only [Prod.mk.injEq] at H5
    obtain ⟨rfl, rfl, rfl⟩ := H5
    rw [smallF_go _ 1 (y.b + 1) (by omega)] at H6
    simp only [Prod.mk.injEq] at H6
    obtain ⟨rfl, rfl, rfl⟩ := H6
    rw [smallF_go _ 1 (y.q + 1) (by omega)] at H7
    simp only [Prod.mk.injEq] at H7
    obtain ⟨rfl, rfl, rfl⟩ := H7
    rw [intF_go _ hy.v] at H8
    simp only [Prod.mk.injEq] at H8
    obtain ⟨rfl, rfl, rfl⟩ := H8
    rw [intF_go _ hy.u] at H9
    simp only [Prod.mk.injEq] at H9
    obtain ⟨rfl, rfl, rfl⟩ := H9
    rw [smallF_go _ 0 (flagI y.o) hfl] at H10
    simp only [Prod.mk.injEq] at H10
    obtain ⟨rfl, rfl, rfl⟩ := H10
    rw [smallF_go _ 0 y.e (by omega)] at H11
    simp only [Prod.mk.injEq] at H11
    obtain ⟨rfl, rfl, rfl⟩ := H11
    have hS : setF (nSet y.k) (ifL (nSet y.k) (numL y.s) ++ r) true = _ := setF_go (nSet y.k) hy.s r
    rw [hS] at H12
    simp only [Prod.mk.injEq] at H12
    obtain ⟨rfl, rfl, rfl⟩ := H12
    refine ⟨?_, rfl, rfl⟩
    have sa : sgn y.a.toNat = y.a := by unfold sgn; rw [if_pos (by omega)]; omega
    have f0 : (if nWorker y.k = true then y.w - 0 else 0) = y.w := by rw [Int.sub_zero]; exact ifz _ _ e0
    have f1 : (if nTask y.k = true then y.t - 0 else 0) = y.t := by rw [Int.sub_zero]; exact ifz _ _ e1
    have f2 : (if nPeer y.k = true then y.p + 1 - 1 else 0) = y.p := by rw [Int.add_sub_cancel]; exact ifz _ _ e2
    have f3 : (if nCh y.k = true then y.c - 0 else 0) = y.c := by rw [Int.sub_zero]; exact ifz _ _ e3
    have f4 : (if nCase y.k = true then y.b + 1 - 1 else 0) = y.b := by rw [Int.add_sub_cancel]; exact ifz _ _ e4
    have f5 : (if nPeerCase y.k = true then y.q + 1 - 1 else 0) = y.q := by rw [Int.add_sub_cancel]; exact ifz _ _ e5
    have f6 : (if nVal y.k = true then y.v else 0) = y.v := ifz _ _ e6
    have f7 : (if nVal2 y.k = true then y.u else 0) = y.u := ifz _ _ e7
    have f8 : ((if nOk y.k = true then flagI y.o - 0 else 0) == 1) = y.o := by
      cases hg : nOk y.k with
      | false => rw [e8 hg]; rfl
      | true => cases y.o <;> rfl
    have f9 : (if nCode y.k = true then y.e - 0 else 0) = y.e := by rw [Int.sub_zero]; exact ifz _ _ e9
    have f10 : (if nSet y.k = true then y.s else 0) = y.s := ifzn _ _ e10
    rw [sa, f0, f1, f2, f3, f4, f5, f6, f7, f8, f9, f10]

theorem one_any (R : Nat) (s : List UInt8) (b : Bool) (w : World) (h : RdB w R s b) (hz : s.length ≤ 100000) :
    Calls Tryd.prog 33 #[.pointer (some ⟨R, 0, none⟩)] w fun e w' => ∃ x s' b', e = .returned x.val ∧ RdB w' R s' b' ∧ But [R] w w' ∧ OneP s b x s' b' := by
  obtain ⟨u, s0, b0, H0⟩ : ∃ u s0 b0, numF s b = (u, s0, b0) := ⟨_, _, _, rfl⟩
  obtain ⟨vk, s1, b1, H1⟩ : ∃ vk s1 b1, smallF true 0 s0 (b0 && atOk u) = (vk, s1, b1) := ⟨_, _, _, rfl⟩
  have hvk : 0 ≤ vk := by
    have : 0 ≤ (smallF true 0 s0 (b0 && atOk u)).1 := by
      unfold smallF
      rw [if_pos rfl]
      split
      · simp only; omega
      · simp
    rwa [H1] at this
  obtain ⟨k, hk⟩ : ∃ k, k = (vk % 256).toNat := ⟨_, rfl⟩
  obtain ⟨vw, s2, b2, H2⟩ : ∃ v s b, smallF (nWorker k) 0 s1 b1 = (v, s, b) := ⟨_, _, _, rfl⟩
  obtain ⟨vt, s3, b3, H3⟩ : ∃ v s b, smallF (nTask k) 0 s2 b2 = (v, s, b) := ⟨_, _, _, rfl⟩
  obtain ⟨vp, s4, b4, H4⟩ : ∃ v s b, smallF (nPeer k) 1 s3 b3 = (v, s, b) := ⟨_, _, _, rfl⟩
  obtain ⟨vc, s5, b5, H5⟩ : ∃ v s b, smallF (nCh k) 0 s4 b4 = (v, s, b) := ⟨_, _, _, rfl⟩
  obtain ⟨vb, s6, b6, H6⟩ : ∃ v s b, smallF (nCase k) 1 s5 b5 = (v, s, b) := ⟨_, _, _, rfl⟩
  obtain ⟨vq, s7, b7, H7⟩ : ∃ v s b, smallF (nPeerCase k) 1 s6 b6 = (v, s, b) := ⟨_, _, _, rfl⟩
  obtain ⟨vv, s8, b8, H8⟩ : ∃ v s b, intF (nVal k) s7 b7 = (v, s, b) := ⟨_, _, _, rfl⟩
  obtain ⟨vu, s9, b9, H9⟩ : ∃ v s b, intF (nVal2 k) s8 b8 = (v, s, b) := ⟨_, _, _, rfl⟩
  obtain ⟨vo, s10, b10, H10⟩ : ∃ v s b, smallF (nOk k) 0 s9 b9 = (v, s, b) := ⟨_, _, _, rfl⟩
  obtain ⟨ve, s11, b11, H11⟩ : ∃ v s b, smallF (nCode k) 0 s10 b10 = (v, s, b) := ⟨_, _, _, rfl⟩
  obtain ⟨vs, s12, b12, H12⟩ : ∃ v s b, setF (nSet k) s11 b11 = (v, s, b) := ⟨_, _, _, rfl⟩
  refine (rone_walk R s b w h hz (Lib.hid H0) (Lib.hid H1) (k := k) (Lib.hid (by omega)) hvk (fun W => rof_any k W) (Lib.hid H2) (Lib.hid H3) (Lib.hid H4) (Lib.hid H5) (Lib.hid H6) (Lib.hid H7) (Lib.hid H8) (Lib.hid H9) (Lib.hid H10) (Lib.hid H11) (Lib.hid H12)).mono fun e w' ⟨h1, h2, h3⟩ => ⟨_, _, _, h1, h2, h3, one_pure H0 H1 hk H2 H3 H4 H5 H6 H7 H8 H9 H10 H11 H12⟩
end Go.Proofs.YtengpehiknoheaaDoor
