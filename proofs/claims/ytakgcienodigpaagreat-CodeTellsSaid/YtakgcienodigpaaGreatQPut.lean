/-
  The walk of the document's Put.
-/
import Derived.Test.YtakgcienodigpaaGreatQPutOne
import Derived.Test.YtakgcienodigpaaGreatQMayE
namespace Go.Proofs.YtakgcienodigpaaGreat
open Go.RowKit Oct

theorem tail_fit {T x R P : List UInt8} (h : T ++ (x ++ R) = P) (hp : P.length ≤ 100000) : ¬ 9223372036854775807 < T.length + x.length := by
  have := congrArg List.length h
  simp only [List.length_append] at this
  omega
theorem drop_cons {α : Type} {l : List α} {k : Nat} {x : α} (h : l[k]? = some x) : l.drop k = x :: l.drop (k + 1) := by
  obtain ⟨hk, rfl⟩ := List.getElem?_eq_some_iff.1 h
  exact List.drop_eq_getElem_cons hk
/-- One thing more is put. -/
theorem put_next {α : Type} {f : α → List UInt8} {l : List α} {k : Nat} {x : α} {T R P : List UInt8} (h : T ++ ((l.drop k).flatMap f ++ R) = P) (hx : l[k]? = some x) : T ++ (f x ++ ((l.drop (k + 1)).flatMap f ++ R)) = P := by
  rw [drop_cons hx, List.flatMap_cons, List.append_assoc] at h
  exact h
theorem put_end {α : Type} {f : α → List UInt8} {l : List α} {k : Nat} {T R P : List UInt8} (h : T ++ ((l.drop k).flatMap f ++ R) = P) (hk : l.length ≤ k) : T ++ R = P := by
  rw [List.drop_eq_nil_of_le hk] at h
  exact h
theorem app3 {T a R P : List UInt8} (h : T ++ (a ++ R) = P) : (T ++ a) ++ R = P := by rw [List.append_assoc]; exact h

set_option maxRecDepth 100000 in
set_option maxHeartbeats 6400000 in
theorem refPut_any {lo hi : Nat} {v1 v2 v3 : Value} {p : Prg} (w : World) (h : PrgAt lo hi w v1 v2 v3 p) (hs : Small p) :
    Calls Tryz.prog 7 #[.agg #[v1, v2, v3]] w fun e w' => e = .returned (.tuple #[.string ⟨(putS p).toArray⟩, .int .i64 (putE p)]) ∧ Below w.heap.size w w' := by
  obtain ⟨a1, b1, rfl⟩ := h.caps.slice
  obtain ⟨a2, b2, rfl⟩ := h.codes.slice
  obtain ⟨a3, b3, rfl⟩ := h.sites.slice
  obtain ⟨wf, hwf⟩ : ∃ wf, wf = w.alloc (.cells #[.slice a1 p.caps.length b1, .slice a2 p.codes.length b2, .slice a3 p.sites.length b3] 26) := ⟨_, rfl⟩
  have hb0 : Below w.heap.size w wf := by rw [hwf]; exact (Below.refl _ w).alloc (Nat.le_refl _) _
  have hk : Blk wf w.heap.size 26 #[.slice a1 p.caps.length b1, .slice a2 p.codes.length b2, .slice a3 p.sites.length b3] := by rw [hwf]; exact blk_new w _ _
  have z0 := hk.cell (k := 0) (v := .slice a1 p.caps.length b1) rfl
  have z1 := hk.cell (k := 1) (v := .slice a2 p.codes.length b2) rfl
  have z2 := hk.cell (k := 2) (v := .slice a3 p.sites.length b3) rfl
  have hmy := refMay11_any wf (h.later hb0) hs
  rw [hwf] at z0 z1 z2
  go_enter Tryz.func7, Tryz.ntmps7
  go_wp2_with fail
  rw [← hwf]
  refine hmy.mono ?_
  rintro e w1 ⟨rfl, hb1⟩
  have hB1 := below_next hb0 hb1 (Nat.le_refl _)
  have hP1 := hk.later hb1 hk.lt
  clear hmy hk hb1 z0 z1 z2 hwf hb0
  cases hm : mayP p with
  | false =>
    have HE : Hid (putS p = [] ∧ putE p = 2) := Lib.hid (by unfold putS putE; rw [hm]; exact ⟨rfl, rfl⟩)
    clear hm
    go_wp2_with fail
    go_ret2
    exact ⟨by rw [HE.out.1, HE.out.2]; rfl, hB1⟩
  | true =>
  have hnone := mayP_iff.1 hm
  have hf := h.fits
  have hmay := prg_may hnone hf.codes (R := 7) (by omega)
  have hin := fun c hc x hx => (check_known ((may_codes hnone).2 c hc |>.2 x hx)).1
  have hlen := putS_len hf.caps hf.codes hf.sites hnone
  have HE : Hid (putS p = prgL p ∧ putE p = 0) := Lib.hid (by unfold putS putE; rw [hm]; exact ⟨rfl, rfl⟩)
  obtain ⟨P, hP⟩ : ∃ P, P = prgL p := ⟨_, rfl⟩
  have hpl : P.length ≤ 100000 := by rw [hP]; simp only [prgL, List.length_append]; omega
  have n1 := hs.caps
  have n2 := hs.codes
  have n3 := hs.sites
  have nl := fun (n : Nat) W (hn : n ≤ 1000000) => rnum_any n W (by omega)
  have H0 : Hid (numL p.caps.length ++ ((p.caps.drop 0).flatMap numZ ++ (rowL siteL p.sites ++ rowL codeL p.codes)) = P) := Lib.hid (by rw [hP]; simp [prgL, rowL])
  have hMay := Lib.hid hmay
  have hIn := Lib.hid hin
  clear hnone hlen hmay hin hm
  have z0 := hP1.cell (k := 0) (v := .slice a1 p.caps.length b1) rfl
  go_wp2_with fail
  refine (nl p.caps.length _ n1).mono ?_
  rintro e w2 ⟨rfl, hb2⟩
  have hB2 := below_next hB1 hb2 (Nat.le_refl _)
  have hP2 := hP1.later hb2 hP1.lt
  clear hb2 hB1 hP1 z0
  go_wp2_with fail
  go_loopw [4, 5] (fun sv iv wr => ∃ (k : Nat) (T : List UInt8), k ≤ p.caps.length ∧ iv = .int .i64 (k : Int) ∧ sv = .string ⟨T.toArray⟩ ∧ Below w.heap.size w wr ∧ Blk wr w.heap.size 26 #[.slice a1 p.caps.length b1, .slice a2 p.codes.length b2, .slice a3 p.sites.length b3] ∧
    Hid (T ++ ((p.caps.drop k).flatMap numZ ++ (rowL siteL p.sites ++ rowL codeL p.codes)) = P)) (fun _ iv _ => p.caps.length - (intOf iv).toNat)
  case atStart => exact ⟨0, _, Nat.zero_le _, rfl, rfl, hB2, hP2, H0⟩
  case round =>
    clear H0 hB2 hP2
    obtain ⟨k, T, hk, rfl, rfl, hB, hQ, HT⟩ := hrel
    have z0 := hQ.cell (k := 0) (v := .slice a1 p.caps.length b1) rfl
    by_cases hlt : k < p.caps.length
    · have hlt' : (k : Int) < (p.caps.length : Int) := by omega
      have k0 : (0 : Int) ≤ (k : Int) := by omega
      have hw1 : IntKind.i64.wrap ((k : Int) + 1) = (k : Int) + 1 := by rw [IntKind.wrap_i64]; omega
      obtain ⟨b, off, x, rfl, -, -, hx, hxb, g0⟩ := (h.later hB).caps.at hlt
      have hx0 := (hMay.out.caps.2 x (List.mem_of_getElem? hx)).1
      have HN := put_next HT.out hx
      have hfit := tail_fit HN hpl
      have HN := Lib.hid (app3 HN)
      clear hx
      go_wp2_with fail
      refine (rnumZ_any x _ hx0 hxb).mono ?_
      rintro e w3 ⟨rfl, hb3⟩
      have hB3 := below_next hB hb3 (Nat.le_refl _)
      have hQ3 := hQ.later hb3 hQ.lt
      clear hb3 hB hQ z0 g0
      go_wp2_with fail
      rw [str_app]
      go_roundw
      case rel => exact ⟨k + 1, _, by omega, by go_num, rfl, hB3, hQ3, HN⟩
      case measure => simp [intOf]; omega
    have hlt' : ¬ (k : Int) < (p.caps.length : Int) := by omega
    have z2 := hQ.cell (k := 2) (v := .slice a3 p.sites.length b3) rfl
    have HT1 : T ++ (numL p.sites.length ++ (p.sites.flatMap siteL ++ rowL codeL p.codes)) = P := by
      have := put_end HT.out (by omega)
      rw [← this]; simp [rowL]
    have hfit := tail_fit HT1 hpl
    have H1 : Hid (T ++ numL p.sites.length ++ ((p.sites.drop 0).flatMap siteL ++ rowL codeL p.codes) = P) := Lib.hid (by rw [List.drop_zero]; exact app3 HT1)
    clear HT HT1 hlt
    go_wp2_with fail
    refine (nl p.sites.length _ n3).mono ?_
    rintro e w2 ⟨rfl, hb2⟩
    have hB2 := below_next hB hb2 (Nat.le_refl _)
    have hP2 := hQ.later hb2 hQ.lt
    clear hb2 hB hQ z0 z2 hlt'
    go_wp2_with fail
    rw [str_app]
    clear hfit hk
    go_loopw [4, 6] (fun sv iv wr => ∃ (k : Nat) (T : List UInt8), k ≤ p.sites.length ∧ iv = .int .i64 (k : Int) ∧ sv = .string ⟨T.toArray⟩ ∧ Below w.heap.size w wr ∧ Blk wr w.heap.size 26 #[.slice a1 p.caps.length b1, .slice a2 p.codes.length b2, .slice a3 p.sites.length b3] ∧
      Hid (T ++ ((p.sites.drop k).flatMap siteL ++ rowL codeL p.codes) = P)) (fun _ iv _ => p.sites.length - (intOf iv).toNat)
    case atStart => exact ⟨0, _, Nat.zero_le _, rfl, rfl, hB2, hP2, H1⟩
    case round =>
      clear H1 hB2 hP2
      obtain ⟨k, T, hk, rfl, rfl, hB, hQ, HT⟩ := hrel
      have z2 := hQ.cell (k := 2) (v := .slice a3 p.sites.length b3) rfl
      by_cases hlt : k < p.sites.length
      · have hlt' : (k : Int) < (p.sites.length : Int) := by omega
        have k0 : (0 : Int) ≤ (k : Int) := by omega
        have hw1 : IntKind.i64.wrap ((k : Int) + 1) = (k : Int) + 1 := by rw [IntKind.wrap_i64]; omega
        obtain ⟨b, off, ra, rc, x, rfl, -, hbh, hx, gw0, gw1, hr0⟩ := h.sites.at hlt
        have hkb : b < w.heap.size := Nat.lt_of_lt_of_le hbh h.top
        have g0 := cell_stay gw0 (hB.block b hkb)
        have g1 := cell_stay gw1 (hB.block b hkb)
        have hxl := hs.site x (List.mem_of_getElem? hx)
        have hsm := hMay.out.sites.2 x (List.mem_of_getElem? hx)
        have HN : T ++ (flagL x.d ++ (numL x.cs.length ++ (x.cs.flatMap caseL ++ ((p.sites.drop (k + 1)).flatMap siteL ++ rowL codeL p.codes)))) = P := by
          rw [← put_next HT.out hx]; simp [siteL, rowL]
        have hfit := tail_fit HN hpl
        have HN := app3 HN
        have hfit2 := tail_fit HN hpl
        rw [List.length_append] at hfit2
        have HN : Hid (T ++ flagL x.d ++ numL x.cs.length ++ ((x.cs.drop 0).flatMap caseL ++ ((p.sites.drop (k + 1)).flatMap siteL ++ rowL codeL p.codes)) = P) := Lib.hid (app3 HN)
        clear hx gw0 gw1 HT
        obtain ⟨X, hX⟩ : ∃ X, X = wr.heap.size := ⟨_, rfl⟩
        obtain ⟨wx, hwx⟩ : ∃ wx, wx = wr.alloc (.cells #[.slice ra x.cs.length rc, .bool x.d] 40) := ⟨_, rfl⟩
        have hbx : Below wr.heap.size wr wx := by rw [hwx]; exact (Below.refl _ wr).alloc (Nat.le_refl _) _
        have hS : Blk wx X 40 #[.slice ra x.cs.length rc, .bool x.d] := by rw [hwx, hX]; exact blk_new wr _ _
        have hBx := below_next hB hbx (Nat.le_refl _)
        have hQx := hQ.later hbx hQ.lt
        have hk0 : ∀ W, Below wx.heap.size wx W → W.cell? ⟨X, 0, none⟩ = some (.slice ra x.cs.length rc) := fun W hW => (hS.later hW hS.lt).cell rfl
        have hk1 : ∀ W, Below wx.heap.size wx W → W.cell? ⟨X, 1, none⟩ = some (.bool x.d) := fun W hW => (hS.later hW hS.lt).cell rfl
        have cf : ∀ W, Below wx.heap.size wx W → Calls Tryz.prog 20 #[.bool x.d] W fun e w' => e = .returned (.string ⟨(flagL x.d).toArray⟩) ∧ Below wx.heap.size wx w' := fun W hW => (rflag_any x.d W).mono fun e w' ⟨h1, h2⟩ => ⟨h1, below_next hW h2 (Nat.le_refl _)⟩
        have cn : ∀ W, Below wx.heap.size wx W → Calls Tryz.prog 19 #[.int .i64 (x.cs.length : Int)] W fun e w' => e = .returned (.string ⟨(numL x.cs.length).toArray⟩) ∧ Below wx.heap.size wx w' := fun W hW => (nl x.cs.length W hxl).mono fun e w' ⟨h1, h2⟩ => ⟨h1, below_next hW h2 (Nat.le_refl _)⟩
        have hD0 : Below wx.heap.size wx wx.drew := (Below.refl _ _).drew
        clear hB hQ hbx
        go_wp2_with fail
        rw [← hwx, ← hX]
        clear hwx hX z2 g0 g1
        go_region_held3 (fun w' => w'.cell? ⟨X, 0, none⟩ = some (.slice ra x.cs.length rc) ∧ w'.cell? ⟨X, 1, none⟩ = some (.bool x.d) ∧ Below wx.heap.size wx w')
          (refine ⟨?_, ?_, ?_⟩ <;> first | assumption | exact hk0 _ (by assumption) | exact hk1 _ (by assumption))
          ((first
            | (go_at_call 20; refine (cf _ (by assumption)).mono ?_; rintro e w2 ⟨rfl, hb2⟩)
            | (go_at_call 19; refine (cn _ (by assumption)).mono ?_; rintro e w2 ⟨rfl, hb2⟩)))
        have hB2 := below_next hBx hb2 (Nat.le_refl _)
        have hP2 := hQx.later hb2 hQx.lt
        have hS2 := hS.later hb2 hS.lt
        clear hb2 hBx hQx hS hk0 hk1 cf cn hD0
        go_wp2_with fail
        rw [str_app T (flagL x.d), str_app (T ++ flagL x.d) (numL x.cs.length)]
        obtain ⟨T2, hT2⟩ : ∃ T2, T2 = T ++ flagL x.d ++ numL x.cs.length := ⟨_, rfl⟩
        rw [← hT2] at HN ⊢
        clear hfit hfit2 hlt' hT2
        go_loopw [4, 8] (fun sv iv wr => ∃ (m : Nat) (T : List UInt8), m ≤ x.cs.length ∧ iv = .int .i64 (m : Int) ∧ sv = .string ⟨T.toArray⟩ ∧ Below w.heap.size w wr ∧ Blk wr w.heap.size 26 #[.slice a1 p.caps.length b1, .slice a2 p.codes.length b2, .slice (some ⟨b, off, none⟩) p.sites.length b3] ∧ Blk wr X 40 #[.slice ra x.cs.length rc, .bool x.d] ∧
          Hid (T ++ ((x.cs.drop m).flatMap caseL ++ ((p.sites.drop (k + 1)).flatMap siteL ++ rowL codeL p.codes)) = P)) (fun _ iv _ => x.cs.length - (intOf iv).toNat)
        case atStart => exact ⟨0, _, Nat.zero_le _, rfl, rfl, hB2, hP2, hS2, HN⟩
        case round =>
          clear HN hB2 hP2 hS2
          obtain ⟨m, T, hm, rfl, rfl, hB, hQ, hS, HT⟩ := hrel
          have i0 := hS.cell (k := 0) (v := .slice ra x.cs.length rc) rfl
          by_cases hltm : m < x.cs.length
          rotate_left 1
          · have hltm' : ¬ (m : Int) < (x.cs.length : Int) := by omega
            have HE2 := Lib.hid (put_end HT.out (by omega))
            clear HT
            go_wp2_with fail
            go_roundw
            case rel => exact ⟨k + 1, T, by omega, by go_num, rfl, hB, hQ, HE2⟩
            case measure => simp [intOf]; omega
          have hltm' : (m : Int) < (x.cs.length : Int) := by omega
          have m0 : (0 : Int) ≤ (m : Int) := by omega
          have hw2 : IntKind.i64.wrap ((m : Int) + 1) = (m : Int) + 1 := by rw [IntKind.wrap_i64]; omega
          obtain ⟨b4, off4, y, rfl, -, hb4h, hy, hyok, y0, y1, y2, y3⟩ := (hr0.stay (stay_below' hB h.top)).at hltm
          have hcm := hsm.2 y (List.mem_of_getElem? hy)
          have HN : T ++ (flagL y.s ++ (numZ (y.c + 1) ++ (numZ y.v ++ (numZ y.o ++ ((x.cs.drop (m + 1)).flatMap caseL ++ ((p.sites.drop (k + 1)).flatMap siteL ++ rowL codeL p.codes)))))) = P := by
            rw [← put_next HT.out hy]; simp [caseL]
          have f1 := tail_fit HN hpl
          have HN := app3 HN
          have f2 := tail_fit HN hpl
          have HN := app3 HN
          have f3 := tail_fit HN hpl
          have HN := app3 HN
          have f4 := tail_fit HN hpl
          have HN := Lib.hid (app3 HN)
          simp only [List.length_append] at f1 f2 f3 f4
          clear hy HT
          obtain ⟨Y, hY⟩ : ∃ Y, Y = wr.heap.size := ⟨_, rfl⟩
          obtain ⟨wy, hwy⟩ : ∃ wy, wy = wr.alloc (.cells #[.bool y.s, .int .i64 y.c, .int .i64 y.v, .int .i64 y.o] 52) := ⟨_, rfl⟩
          have hby : Below wr.heap.size wr wy := by rw [hwy]; exact (Below.refl _ wr).alloc (Nat.le_refl _) _
          have hC : Blk wy Y 52 #[.bool y.s, .int .i64 y.c, .int .i64 y.v, .int .i64 y.o] := by rw [hwy, hY]; exact blk_new wr _ _
          have hBy := below_next hB hby (Nat.le_refl _)
          have hQy := hQ.later hby hQ.lt
          have hSy := hS.later hby hS.lt
          have hk0 : ∀ W, Below wy.heap.size wy W → W.cell? ⟨Y, 0, none⟩ = some (.bool y.s) := fun W hW => (hC.later hW hC.lt).cell rfl
          have hk1 : ∀ W, Below wy.heap.size wy W → W.cell? ⟨Y, 1, none⟩ = some (.int .i64 y.c) := fun W hW => (hC.later hW hC.lt).cell rfl
          have hk2 : ∀ W, Below wy.heap.size wy W → W.cell? ⟨Y, 2, none⟩ = some (.int .i64 y.v) := fun W hW => (hC.later hW hC.lt).cell rfl
          have hk3 : ∀ W, Below wy.heap.size wy W → W.cell? ⟨Y, 3, none⟩ = some (.int .i64 y.o) := fun W hW => (hC.later hW hC.lt).cell rfl
          have hwc : IntKind.i64.wrap (y.c + 1) = y.c + 1 := by rw [IntKind.wrap_i64]; have := hcm.c; omega
          have v0 := hcm.v.1
          have vb := hyok.v
          have o0 := hcm.o.1
          have ob := hyok.o
          have cc0 : 0 ≤ y.c + 1 := by have := hcm.c.1; omega
          have ccb : I64b (y.c + 1) := ⟨by omega, by have := hcm.c.2; omega⟩
          have cf : ∀ W, Below wy.heap.size wy W → Calls Tryz.prog 20 #[.bool y.s] W fun e w' => e = .returned (.string ⟨(flagL y.s).toArray⟩) ∧ Below wy.heap.size wy w' := fun W hW => (rflag_any y.s W).mono fun e w' ⟨h1, h2⟩ => ⟨h1, below_next hW h2 (Nat.le_refl _)⟩
          have cn : ∀ v W, 0 ≤ v → I64b v → Below wy.heap.size wy W → Calls Tryz.prog 19 #[.int .i64 v] W fun e w' => e = .returned (.string ⟨(numZ v).toArray⟩) ∧ Below wy.heap.size wy w' := fun v W h0 hv hW => (rnumZ_any v W h0 hv).mono fun e w' ⟨h1, h2⟩ => ⟨h1, below_next hW h2 (Nat.le_refl _)⟩
          have hD0 : Below wy.heap.size wy wy.drew := (Below.refl _ _).drew
          clear hB hQ hS hby hcm hyok
          go_wp2_with fail
          rw [← hwy, ← hY]
          clear hwy hY i0 y0 y1 y2 y3
          go_region_held3 (fun w' => w'.cell? ⟨Y, 0, none⟩ = some (.bool y.s) ∧ w'.cell? ⟨Y, 1, none⟩ = some (.int .i64 y.c) ∧ w'.cell? ⟨Y, 2, none⟩ = some (.int .i64 y.v) ∧ w'.cell? ⟨Y, 3, none⟩ = some (.int .i64 y.o) ∧ Below wy.heap.size wy w')
            (refine ⟨?_, ?_, ?_, ?_, ?_⟩ <;> first | assumption | exact hk0 _ (by assumption) | exact hk1 _ (by assumption) | exact hk2 _ (by assumption) | exact hk3 _ (by assumption))
            ((first
              | (go_at_call 20; refine (cf _ (by assumption)).mono ?_; rintro e w2 ⟨rfl, hb2⟩)
              | (go_at_call 19; refine (cn _ _ (by assumption) (by assumption) (by assumption)).mono ?_; rintro e w2 ⟨rfl, hb2⟩)))
          have hB2 := below_next hBy hb2 (Nat.le_refl _)
          have hP2 := hQy.later hb2 hQy.lt
          have hS2 := hSy.later hb2 hSy.lt
          clear hb2 hBy hQy hSy hk0 hk1 hk2 hk3 cf cn hD0 hC
          go_wp2_with fail
          rw [str_app T (flagL y.s), str_app (T ++ flagL y.s) (numZ (y.c + 1)), str_app (T ++ flagL y.s ++ numZ (y.c + 1)) (numZ y.v), str_app (T ++ flagL y.s ++ numZ (y.c + 1) ++ numZ y.v) (numZ y.o)]
          go_roundw
          case rel => exact ⟨m + 1, _, by omega, by go_num, rfl, hB2, hP2, hS2, HN⟩
          case measure => simp [intOf]; omega
      have hlt' : ¬ (k : Int) < (p.sites.length : Int) := by omega
      have z1 := hQ.cell (k := 1) (v := .slice a2 p.codes.length b2) rfl
      have HT1 : T ++ (numL p.codes.length ++ (p.codes.flatMap codeL ++ [])) = P := by
        have := put_end HT.out (by omega)
        rw [← this]; simp [rowL]
      have hfit := tail_fit HT1 hpl
      have H1 : Hid (T ++ numL p.codes.length ++ ((p.codes.drop 0).flatMap codeL ++ []) = P) := Lib.hid (by rw [List.drop_zero]; exact app3 HT1)
      clear HT HT1 hlt
      go_wp2_with fail
      refine (nl p.codes.length _ n2).mono ?_
      rintro e w2 ⟨rfl, hb2⟩
      have hB2 := below_next hB hb2 (Nat.le_refl _)
      have hP2 := hQ.later hb2 hQ.lt
      clear hb2 hB hQ z2 z1 hlt'
      go_wp2_with fail
      rw [str_app]
      clear hfit hk
      go_loopw [4, 10] (fun sv iv wr => ∃ (k : Nat) (T : List UInt8), k ≤ p.codes.length ∧ iv = .int .i64 (k : Int) ∧ sv = .string ⟨T.toArray⟩ ∧ Below w.heap.size w wr ∧ Blk wr w.heap.size 26 #[.slice a1 p.caps.length b1, .slice a2 p.codes.length b2, .slice a3 p.sites.length b3] ∧
        Hid (T ++ ((p.codes.drop k).flatMap codeL ++ []) = P)) (fun _ iv _ => p.codes.length - (intOf iv).toNat)
      case atStart => exact ⟨0, _, Nat.zero_le _, rfl, rfl, hB2, hP2, H1⟩
      case round =>
        clear H1 hB2 hP2
        obtain ⟨k, T, hk, rfl, rfl, hB, hQ, HT⟩ := hrel
        have z1 := hQ.cell (k := 1) (v := .slice a2 p.codes.length b2) rfl
        by_cases hlt : k < p.codes.length
        rotate_left 1
        · have hlt' : ¬ (k : Int) < (p.codes.length : Int) := by omega
          have HF := put_end HT.out (by omega)
          rw [List.append_nil] at HF
          have HF := Lib.hid HF
          clear HT
          go_wp2_with fail
          go_ret2
          exact ⟨by rw [HE.out.1, HE.out.2, ← hP, ← HF.out]; rfl, hB⟩
        have hlt' : (k : Int) < (p.codes.length : Int) := by omega
        have k0 : (0 : Int) ≤ (k : Int) := by omega
        have hw1 : IntKind.i64.wrap ((k : Int) + 1) = (k : Int) + 1 := by rw [IntKind.wrap_i64]; omega
        obtain ⟨b, off, ra, rc, x, rfl, -, hbh, hx, gw0, hr0⟩ := h.codes.at hlt
        have hkb : b < w.heap.size := Nat.lt_of_lt_of_le hbh h.top
        have g0 := cell_stay gw0 (hB.block b hkb)
        have hxl := hs.code x (List.mem_of_getElem? hx)
        have hcm := hMay.out.codes.2 x (List.mem_of_getElem? hx)
        have hci := hIn.out x (List.mem_of_getElem? hx)
        have HN : T ++ (numL x.length ++ (x.flatMap insL ++ ((p.codes.drop (k + 1)).flatMap codeL ++ []))) = P := by
          rw [← put_next HT.out hx]; simp [codeL, rowL]
        have hfit := tail_fit HN hpl
        have HN : Hid (T ++ numL x.length ++ ((x.drop 0).flatMap insL ++ ((p.codes.drop (k + 1)).flatMap codeL ++ [])) = P) := Lib.hid (app3 HN)
        clear hx HT
        go_wp2_with fail
        refine (nl x.length _ hxl).mono ?_
        rintro e w2 ⟨rfl, hb2⟩
        have hB2 := below_next hB hb2 (Nat.le_refl _)
        have hP2 := hQ.later hb2 hQ.lt
        clear hb2 hB hQ z1 g0
        go_wp2_with fail
        rw [str_app]
        clear hfit
        go_loopw [4, 11] (fun sv iv wr => ∃ (m : Nat) (T : List UInt8), m ≤ x.length ∧ iv = .int .i64 (m : Int) ∧ sv = .string ⟨T.toArray⟩ ∧ Below w.heap.size w wr ∧ Blk wr w.heap.size 26 #[.slice a1 p.caps.length b1, .slice (some ⟨b, off, none⟩) p.codes.length b2, .slice a3 p.sites.length b3] ∧
          Hid (T ++ ((x.drop m).flatMap insL ++ ((p.codes.drop (k + 1)).flatMap codeL ++ [])) = P)) (fun _ iv _ => x.length - (intOf iv).toNat)
        case atStart => exact ⟨0, _, Nat.zero_le _, rfl, rfl, hB2, hP2, HN⟩
        case round =>
          clear HN hB2 hP2
          obtain ⟨m, T, hm, rfl, rfl, hB, hQ, HT⟩ := hrel
          have z1 := hQ.cell (k := 1) (v := .slice (some ⟨b, off, none⟩) p.codes.length b2) rfl
          have g0 := cell_stay gw0 (hB.block b hkb)
          by_cases hltm : m < x.length
          rotate_left 1
          · have hltm' : ¬ (m : Int) < (x.length : Int) := by omega
            have HE2 := Lib.hid (put_end HT.out (by omega))
            clear HT
            go_wp2_with fail
            go_roundw
            case rel => exact ⟨k + 1, T, by omega, by go_num, rfl, hB, hQ, HE2⟩
            case measure => simp [intOf]; omega
          have hltm' : (m : Int) < (x.length : Int) := by omega
          have m0 : (0 : Int) ≤ (m : Int) := by omega
          have hw2 : IntKind.i64.wrap ((m : Int) + 1) = (m : Int) + 1 := by rw [IntKind.wrap_i64]; omega
          obtain ⟨b4, off4, y, rfl, -, hb4h, hy, hyok, y0, y1, y2, y3, y4⟩ := (hr0.stay (stay_below' hB h.top)).at hltm
          have him := hcm.2 y (List.mem_of_getElem? hy)
          have hi1 := hci y (List.mem_of_getElem? hy)
          have HN := put_next HT.out hy
          have hfit := tail_fit HN hpl
          have HN := Lib.hid (app3 HN)
          clear hy HT
          go_wp2_with fail
          refine (one_any y hyok him hi1 _).mono ?_
          rintro e w3 ⟨rfl, hb3⟩
          have hB3 := below_next hB hb3 (Nat.le_refl _)
          have hQ3 := hQ.later hb3 hQ.lt
          clear hb3 hB hQ z1 g0 y0 y1 y2 y3 y4
          go_wp2_with fail
          rw [str_app]
          go_roundw
          case rel => exact ⟨m + 1, _, by omega, by go_num, rfl, hB3, hQ3, HN⟩
          case measure => simp [intOf]; omega
end Go.Proofs.YtakgcienodigpaaGreat
