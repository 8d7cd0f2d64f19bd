/-
  The walks of putCodes and its closures, of Put, Size.
-/
import Derived.Test.YtakgcienodigpaaGreatKPutIns
namespace Go.Proofs.YtakgcienodigpaaGreat
open Go.RowKit Oct

/-- The box of a namer. -/
structure NBox (W : World) (nb kb M : Nat) : Prop where
  box : Blk W nb 59 #[.func (.func 75) #[] #[.pointer (some ⟨kb, 0, none⟩)]]
  nmr : Nmr W kb M
theorem NBox.lt {W : World} {nb kb M : Nat} (h : NBox W nb kb M) : nb < W.heap.size ∧ kb < W.heap.size ∧ M < W.heap.size := ⟨h.box.lt, h.nmr.lt.1, h.nmr.lt.2⟩
theorem NBox.later {W W' : World} {nb kb M n : Nat} (h : NBox W nb kb M) (hb : Below n W W') (h1 : nb < n) (h2 : kb < n) (h3 : M < n) : NBox W' nb kb M := ⟨(hb.block nb h1).trans h.box, h.nmr.later hb h2 h3⟩
theorem NBox.ne {W : World} {nb kb M : Nat} (h : NBox W nb kb M) : nb ≠ M := by
  rintro rfl
  obtain ⟨g, h1, _⟩ := h.nmr.map
  obtain ⟨es, clock, h2⟩ := h1.is
  have := h.box
  unfold Blk at this
  rw [h2] at this
  cases this

set_option maxRecDepth 100000 in
set_option maxHeartbeats 1600000 in
theorem putOne_any (x : In) (hx : x.ok) (hm : InMay 7 x) (h1 : 1 ≤ x.o) (nb kb M : Nat) (w : World) (hN : NBox w nb kb M) :
    Calls Tryz.prog 46 #[.agg #[.int .u8 (x.o : Int), .int .i64 x.a, .int .i64 x.b, .int .i64 x.c, .int .i64 x.k], .pointer (some ⟨nb, 0, none⟩)] w fun e w' => e = .returned (.string ⟨(insL x).toArray⟩) ∧ But [M] w w' ∧ NBox w' nb kb M := by
  obtain ⟨l1, l2, l3⟩ := hN.lt
  obtain ⟨wf, hwf⟩ : ∃ wf, wf = w.alloc (.cells #[.int .u8 (x.o : Int), .int .i64 x.a, .int .i64 x.b, .int .i64 x.c, .int .i64 x.k] 42) := ⟨_, rfl⟩
  have hb0 : Below w.heap.size w wf := by rw [hwf]; exact (Below.refl _ w).alloc (Nat.le_refl _) _
  have hk : Blk wf w.heap.size 42 #[.int .u8 (x.o : Int), .int .i64 x.a, .int .i64 x.b, .int .i64 x.c, .int .i64 x.k] := by rw [hwf]; exact blk_new w _ _
  have hNf := hN.later hb0 l1 l2 l3
  have hne := hN.ne
  have hkk : ∀ W, But [M] wf W → Blk W w.heap.size 42 #[.int .u8 (x.o : Int), .int .i64 x.a, .int .i64 x.b, .int .i64 x.c, .int .i64 x.k] := fun W hW => (hW.block _ hk.lt (by simp; omega)).trans hk
  have hk0 : ∀ W, But [M] wf W → W.cell? ⟨w.heap.size, 0, none⟩ = some (.int .u8 (x.o : Int)) := fun W hW => (hkk W hW).cell rfl
  have hk1 : ∀ W, But [M] wf W → W.cell? ⟨w.heap.size, 1, none⟩ = some (.int .i64 x.a) := fun W hW => (hkk W hW).cell rfl
  have hk2 : ∀ W, But [M] wf W → W.cell? ⟨w.heap.size, 2, none⟩ = some (.int .i64 x.b) := fun W hW => (hkk W hW).cell rfl
  have hk3 : ∀ W, But [M] wf W → W.cell? ⟨w.heap.size, 3, none⟩ = some (.int .i64 x.c) := fun W hW => (hkk W hW).cell rfl
  have hk4 : ∀ W, But [M] wf W → W.cell? ⟨w.heap.size, 4, none⟩ = some (.int .i64 x.k) := fun W hW => (hkk W hW).cell rfl
  have hk5 : ∀ W, But [M] wf W → W.cell? ⟨nb, 0, none⟩ = some (.func (.func 75) #[] #[.pointer (some ⟨kb, 0, none⟩)]) := fun W hW => Blk.cell ((hW.block _ hNf.lt.1 (by simpa using hne)).trans hNf.box) rfl
  have cn : ∀ W, But [M] wf W → NBox W nb kb M → Calls Tryz.prog 75 #[.int .u8 (x.o : Int), .pointer (some ⟨kb, 0, none⟩)] W fun e w' => e = .returned (fldV x.o) ∧ But [M] wf w' ∧ NBox w' nb kb M := fun W hW hNW => (named_op x.o kb M hx.o W hNW.nmr).mono fun e w' ⟨h1, h2, h3⟩ => ⟨h1, hW.trans h2 (fun x hx _ => hx), ⟨(h2.block _ hNW.lt.1 (by simpa using hne)).trans hNW.box, h3⟩⟩
  have cp : ∀ W, But [M] wf W → NBox W nb kb M → Calls Tryz.prog 47 #[.agg #[.int .u8 (x.o : Int), .int .i64 x.a, .int .i64 x.b, .int .i64 x.c, .int .i64 x.k], fldV x.o] W fun e w' => e = .returned (.string ⟨(insL x).toArray⟩) ∧ But [M] wf w' ∧ NBox w' nb kb M := fun W hW hNW => (putIns_any x hx hm h1 W).mono fun e w' ⟨h1, h2⟩ => ⟨h1, hW.trans (But.of_below h2 []) (by simp), hNW.later h2 hNW.lt.1 hNW.lt.2.1 hNW.lt.2.2⟩
  have hD0 : But [M] wf wf.drew := (But.refl _ _).drew
  have hND : NBox wf.drew nb kb M := ⟨hNf.box, hNf.nmr.box, hNf.nmr.map⟩
  go_enter Tryz.func46, Tryz.ntmps46
  go_wp2_with fail
  rw [← hwf]
  clear hwf hk hkk hNf hN
  go_region_held3 (fun w' => w'.cell? ⟨w.heap.size, 0, none⟩ = some (.int .u8 (x.o : Int)) ∧ w'.cell? ⟨w.heap.size, 1, none⟩ = some (.int .i64 x.a) ∧ w'.cell? ⟨w.heap.size, 2, none⟩ = some (.int .i64 x.b) ∧ w'.cell? ⟨w.heap.size, 3, none⟩ = some (.int .i64 x.c) ∧ w'.cell? ⟨w.heap.size, 4, none⟩ = some (.int .i64 x.k) ∧
      w'.cell? ⟨nb, 0, none⟩ = some (.func (.func 75) #[] #[.pointer (some ⟨kb, 0, none⟩)]) ∧ But [M] wf w' ∧ NBox w' nb kb M)
    (refine ⟨?_, ?_, ?_, ?_, ?_, ?_, ?_, ?_⟩ <;> first | assumption | exact hk0 _ (by assumption) | exact hk1 _ (by assumption) | exact hk2 _ (by assumption) | exact hk3 _ (by assumption) | exact hk4 _ (by assumption) | exact hk5 _ (by assumption))
    ((first
      | (go_at_call 75; refine (cn _ (by assumption) (by assumption)).mono ?_; rintro e w2 ⟨rfl, hb2, hN2⟩)
      | (go_at_call 47; refine (cp _ (by assumption) (by assumption)).mono ?_; rintro e w2 ⟨rfl, hb3, hN3⟩)))
  go_wp2_with fail
  go_ret
  exact ⟨rfl, (But.of_below hb0 [M]).trans hb3 (fun x hx _ => hx), hN3⟩

/-- A code, by the closure that has the box of the other one. -/
theorem putCode_any {lo hi : Nat} {ra : Option Addr} {rc : Nat} (xs : List In) (nb kb M ob : Nat) (w : World) (hC : CodeAt lo hi w (.slice ra xs.length rc) xs) (t : hi ≤ w.heap.size) (hm : CodeMay 7 xs) (h1 : ∀ x ∈ xs, 1 ≤ x.o) (hN : NBox w nb kb M) (hM : hi ≤ M)
    (hO : Blk w ob 53 #[.func (.func 46) #[] #[.pointer (some ⟨nb, 0, none⟩)]]) :
    Calls Tryz.prog 49 #[.slice ra xs.length rc, .pointer (some ⟨ob, 0, none⟩)] w fun e w' => e = .returned (.string ⟨(codeL xs).toArray⟩) ∧ But [M] w w' ∧ NBox w' nb kb M := by
  obtain ⟨l1, l2, l3⟩ := hN.lt
  have hc := hO.cell (k := 0) rfl
  have hr := putRowIns_any [M] (fun W => NBox W nb kb M) nb 50 w hC t (by have := hm.1; omega) (by omega) (fun x hx => ins_len (hC.2 x hx) (hm.2 x hx)) (by simp; omega) (fun W W' hW hb => hW.later hb l1 l2 l3) hN (fun W x hx ok hW => putOne_any x ok (hm.2 x hx) (h1 x hx) nb kb M W hW)
  go_enter Tryz.func49, Tryz.ntmps49
  go_wp2_with fail
  refine hr.mono ?_
  rintro e w1 ⟨rfl, hb, hN1⟩
  go_wp2_with fail
  go_ret
  exact ⟨rfl, hb, hN1⟩
theorem code_len {xs : List In} (hok : ∀ x ∈ xs, x.ok) (h : CodeMay 7 xs) : (codeL xs).length ≤ 2010 := by
  have := row_le (f := insL) (M := 50) (fun y hy => ins_len (hok y hy) (h.2 y hy)) (by have := h.1; omega)
  have h1 := h.1
  unfold codeL
  omega
/-- The two boxes of putCodes. -/
structure PCB (W : World) (nb kb M ob : Nat) : Prop where
  n : NBox W nb kb M
  o : Blk W ob 53 #[.func (.func 46) #[] #[.pointer (some ⟨nb, 0, none⟩)]]
theorem PCB.later {W W' : World} {nb kb M ob n : Nat} (h : PCB W nb kb M ob) (hb : Below n W W') (h1 : nb < n) (h2 : kb < n) (h3 : M < n) (h4 : ob < n) : PCB W' nb kb M ob := ⟨h.n.later hb h1 h2 h3, (hb.block ob h4).trans h.o⟩
theorem PCB.ne {W : World} {nb kb M ob : Nat} (h : PCB W nb kb M ob) : ob ≠ M := by
  rintro rfl
  obtain ⟨g, h1, _⟩ := h.n.nmr.map
  obtain ⟨es, clock, h2⟩ := h1.is
  have := h.o
  unfold Blk at this
  rw [h2] at this
  cases this
set_option maxRecDepth 100000 in
theorem putCodes_any {lo hi : Nat} {v : Value} {xs : List (List In)} (w : World) (h : CodesAt lo hi w v xs) (t : hi ≤ w.heap.size) (hn : xs.length ≤ 8) (hok : ∀ c ∈ xs, ∀ x ∈ c, x.ok) (hm : ∀ c ∈ xs, CodeMay 7 c) (h1 : ∀ c ∈ xs, ∀ x ∈ c, 1 ≤ x.o) :
    Calls Tryz.prog 17 #[v] w fun e w' => e = .returned (.string ⟨(rowL codeL xs).toArray⟩) ∧ Below w.heap.size w w' := by
  obtain ⟨a, c, rfl⟩ := h.slice
  have hc0 := namer_any w
  go_enter Tryz.func17, Tryz.ntmps17
  go_wp2_with fail
  refine hc0.mono ?_
  rintro e w1 ⟨rfl, hNm, hb1⟩
  obtain ⟨l1, l2⟩ := hNm.lt
  obtain ⟨w2, hw2⟩ : ∃ w2, w2 = (w1.alloc (.cells #[.func (.func 75) #[] #[.pointer (some ⟨w.heap.size + 1, 0, none⟩)]] 59)).alloc (.cells #[.func (.func 46) #[] #[.pointer (some ⟨w1.heap.size, 0, none⟩)]] 53) := ⟨_, rfl⟩
  have hb2 : Below w1.heap.size w1 w2 := by rw [hw2]; exact below2 w1 _ _
  have hP : PCB w2 w1.heap.size (w.heap.size + 1) w.heap.size (w1.heap.size + 1) := by
    refine ⟨⟨?_, hNm.later hb2 l1 l2⟩, ?_⟩
    · rw [hw2]; exact (blk_new w1 _ _).alloc _
    · rw [hw2]; exact blk_at (World.size_alloc _ _).symm
  have hB2 := below_next hb1 hb2 (Nat.le_refl _)
  have hs2 : w2.heap.size = w1.heap.size + 1 + 1 := by rw [hw2]; simp
  have hwz := hB2.size
  have hC2 := h.stay (stay_below' hB2 t)
  have hr := putRowCode_any [w.heap.size] (fun W => PCB W w1.heap.size (w.heap.size + 1) w.heap.size (w1.heap.size + 1)) (w1.heap.size + 1) 2010 w2 hC2 (by omega) (by omega) (by omega) (fun x hx => code_len (hok x hx) (hm x hx)) (by simp; omega) (fun W W' hW hb => hW.later hb (by omega) (by omega) (by omega) (by omega)) hP
    (fun W x ra rc hx hC t' hW => (putCode_any x w1.heap.size (w.heap.size + 1) w.heap.size (w1.heap.size + 1) W hC t' (hm x hx) (h1 x hx) hW.n t hW.o).mono fun e w' ⟨e1, e2, e3⟩ => ⟨e1, e2, ⟨e3, (e2.block _ hW.o.lt (by simp; omega)).trans hW.o⟩⟩)
  go_wp2_with fail
  rw [← hw2]
  refine hr.mono ?_
  rintro e w3 ⟨rfl, hb3, _⟩
  have hfin : Below w.heap.size w w3 := ((But.of_below hB2 []).own hb3 (by simp)).below (Nat.le_refl _) (by simp)
  go_wp2_with fail
  go_ret
  exact ⟨rfl, hfin⟩

def mayP (p : Prg) : Bool := (checkW p).isNone
def putS (p : Prg) : List UInt8 := if mayP p then prgL p else []
def putE (p : Prg) : Int := if mayP p then 0 else 2
theorem mayP_iff {p : Prg} : mayP p = true ↔ checkW p = none := by unfold mayP; exact Option.isNone_iff_eq_none
theorem putS_len {p : Prg} (hc : ∀ x ∈ p.caps, I64b x) (hk : ∀ c ∈ p.codes, ∀ x ∈ c, x.ok) (hs : ∀ s ∈ p.sites, ∀ x ∈ s.cs, x.ok) (h : checkW p = none) : (rowL numZ p.caps).length ≤ 100 ∧ (rowL siteL p.sites).length ≤ 4000 ∧ (rowL codeL p.codes).length ≤ 20000 := by
  have hm := prg_may h hk (R := 7) (by omega)
  have h1 := row_le (f := numZ) (M := 10) (fun x hx => numZ10 (hm.caps.2 x hx).1 (hc x hx)) (by have := hm.caps.1; omega)
  have h2 := row_le (f := siteL) (M := 300) (fun x hx => site_len (hs x hx) (hm.sites.2 x hx)) (by have := hm.sites.1; omega)
  have h3 := row_le (f := codeL) (M := 2010) (fun x hx => code_len (hk x hx) (hm.codes.2 x hx)) (by have := hm.codes.1; omega)
  have := hm.caps.1
  have := hm.sites.1
  have := hm.codes.1
  omega
/-- What a program's numbers are. -/
structure Fits (p : Prg) : Prop where
  caps : ∀ x ∈ p.caps, I64b x
  codes : ∀ c ∈ p.codes, ∀ x ∈ c, x.ok
  sites : ∀ s ∈ p.sites, ∀ x ∈ s.cs, x.ok
theorem PrgAt.fits {lo hi : Nat} {W : World} {v1 v2 v3 : Value} {p : Prg} (h : PrgAt lo hi W v1 v2 v3 p) : Fits p := by
  refine ⟨h.caps.2, fun c hc => ?_, fun s hs => ?_⟩
  · obtain ⟨vs, h1, h2⟩ := h.codes
    obtain ⟨k, hk, rfl⟩ := List.mem_iff_getElem.1 hc
    exact (h2 k _ _ (List.getElem?_eq_getElem (by have := h1.1; omega)) (List.getElem?_eq_getElem hk)).2
  · obtain ⟨vs, h0, h1, h2⟩ := h.sites
    obtain ⟨k, hk, rfl⟩ := List.mem_iff_getElem.1 hs
    exact (h2 k _ _ (List.getElem?_eq_getElem (by omega)) (List.getElem?_eq_getElem hk)).2

set_option maxRecDepth 100000 in
set_option maxHeartbeats 1600000 in
theorem put_prog {lo hi : Nat} {v1 v2 v3 : Value} {p : Prg} (w : World) (h : PrgAt lo hi w v1 v2 v3 p) (hs : Small p) :
    Calls Tryz.prog 6 #[.agg #[v1, v2, v3]] w fun e w' => e = .returned (.tuple #[.string ⟨(putS p).toArray⟩, .int .i64 (putE p)]) ∧ Below w.heap.size w w' := by
  obtain ⟨a1, c1, rfl⟩ := h.caps.slice
  obtain ⟨a2, c2, rfl⟩ := h.codes.slice
  obtain ⟨a3, c3, rfl⟩ := h.sites.slice
  obtain ⟨wf, hwf⟩ : ∃ wf, wf = w.alloc (.cells #[.slice a1 p.caps.length c1, .slice a2 p.codes.length c2, .slice a3 p.sites.length c3] 26) := ⟨_, rfl⟩
  have hb0 : Below w.heap.size w wf := by rw [hwf]; exact (Below.refl _ w).alloc (Nat.le_refl _) _
  have hk : Blk wf w.heap.size 26 #[.slice a1 p.caps.length c1, .slice a2 p.codes.length c2, .slice a3 p.sites.length c3] := by rw [hwf]; exact blk_new w _ _
  have z0 := hk.cell (k := 0) rfl
  have z1 := hk.cell (k := 1) rfl
  have z2 := hk.cell (k := 2) rfl
  have hP := h.later hb0
  have hck := progCheck_any wf hP hs
  obtain ⟨x, y, z, ht⟩ : ∃ x y z, checkT p = (x, y, z) := ⟨_, _, _, rfl⟩
  have hz : z = 0 ↔ checkW p = none := by rw [← check_zero, ht]
  rw [ht] at hck
  simp only at hck
  clear ht
  go_enter Tryz.func6, Tryz.ntmps6
  go_wp2_with fail
  rw [← hwf]
  refine hck.mono ?_
  rintro e w1 ⟨rfl, hb1⟩
  have hB1 := below_next hb0 hb1 (Nat.le_refl _)
  have hk1 := hk.later hb1 hk.lt
  have hP1 := hP.later hb1
  clear hck hk hP hb1 z0 z1 z2 hwf hb0
  by_cases hz0 : z = 0
  · subst hz0
    have hnone := hz.1 rfl
    have hf := h.fits
    have hm := prg_may hnone hf.codes (R := 7) (by omega)
    have hin := fun c hc x hx => (check_known ((may_codes hnone).2 c hc |>.2 x hx)).1
    have hlen := putS_len hf.caps hf.codes hf.sites hnone
    have HE : Hid (putS p = prgL p ∧ putE p = 0) := Lib.hid (by unfold putS putE; rw [mayP_iff.2 hnone]; exact ⟨rfl, rfl⟩)
    have hkW : ∀ W, Below w1.heap.size w1 W → Blk W w.heap.size 26 #[.slice a1 p.caps.length c1, .slice a2 p.codes.length c2, .slice a3 p.sites.length c3] := fun W hW => hk1.later hW hk1.lt
    have k0 : ∀ W, Below w1.heap.size w1 W → W.cell? ⟨w.heap.size, 0, none⟩ = some (.slice a1 p.caps.length c1) := fun W hW => (hkW W hW).cell rfl
    have k1 : ∀ W, Below w1.heap.size w1 W → W.cell? ⟨w.heap.size, 1, none⟩ = some (.slice a2 p.codes.length c2) := fun W hW => (hkW W hW).cell rfl
    have k2 : ∀ W, Below w1.heap.size w1 W → W.cell? ⟨w.heap.size, 2, none⟩ = some (.slice a3 p.sites.length c3) := fun W hW => (hkW W hW).cell rfl
    have e0 := k0 w1 (Below.refl _ _)
    have e1 := k1 w1 (Below.refl _ _)
    have e2 := k2 w1 (Below.refl _ _)
    have cc : ∀ W, Below w1.heap.size w1 W → Calls Tryz.prog 13 #[.slice a1 p.caps.length c1, .func (.func 14) #[] #[]] W fun e w' => e = .returned (.string ⟨(rowL numZ p.caps).toArray⟩) ∧ Below w1.heap.size w1 w' := fun W hW =>
      (putCaps_any W (hP1.later hW).caps (hP1.later hW).top hm.caps.1 (fun x hx => (hm.caps.2 x hx).1)).mono fun e w' ⟨h1, h2⟩ => ⟨h1, below_next hW h2 (Nat.le_refl _)⟩
    have cs : ∀ W, Below w1.heap.size w1 W → Calls Tryz.prog 15 #[.slice a3 p.sites.length c3, .func (.func 16) #[] #[]] W fun e w' => e = .returned (.string ⟨(rowL siteL p.sites).toArray⟩) ∧ Below w1.heap.size w1 w' := fun W hW =>
      (putSites_any W (hP1.later hW).sites (hP1.later hW).top hm.sites.1 hf.sites hm.sites.2).mono fun e w' ⟨h1, h2⟩ => ⟨h1, below_next hW h2 (Nat.le_refl _)⟩
    have co : ∀ W, Below w1.heap.size w1 W → Calls Tryz.prog 17 #[.slice a2 p.codes.length c2] W fun e w' => e = .returned (.string ⟨(rowL codeL p.codes).toArray⟩) ∧ Below w1.heap.size w1 w' := fun W hW =>
      (putCodes_any W (hP1.later hW).codes (hP1.later hW).top hm.codes.1 hf.codes hm.codes.2 hin).mono fun e w' ⟨h1, h2⟩ => ⟨h1, below_next hW h2 (Nat.le_refl _)⟩
    have g1 : ¬ 9223372036854775807 < (rowL numZ p.caps).length + (rowL siteL p.sites).length := by omega
    have g2 : ¬ 9223372036854775807 < (rowL numZ p.caps).length + (rowL siteL p.sites).length + (rowL codeL p.codes).length := by omega
    have hD0 : Below w1.heap.size w1 w1.drew := (Below.refl _ _).drew
    clear hz hm hin hlen hkW hk1 hP1 hf
    go_wp2_with fail
    go_region_held3 (fun w' => w'.cell? ⟨w.heap.size, 0, none⟩ = some (.slice a1 p.caps.length c1) ∧ w'.cell? ⟨w.heap.size, 1, none⟩ = some (.slice a2 p.codes.length c2) ∧ w'.cell? ⟨w.heap.size, 2, none⟩ = some (.slice a3 p.sites.length c3) ∧ Below w1.heap.size w1 w')
      (refine ⟨?_, ?_, ?_, ?_⟩ <;> first | assumption | exact k0 _ (by assumption) | exact k1 _ (by assumption) | exact k2 _ (by assumption))
      ((first
        | (go_at_call 13; refine (cc _ (by assumption)).mono ?_; rintro e w2 ⟨rfl, hb2⟩)
        | (go_at_call 15; refine (cs _ (by assumption)).mono ?_; rintro e w2 ⟨rfl, hb2⟩)
        | (go_at_call 17; refine (co _ (by assumption)).mono ?_; rintro e w2 ⟨rfl, hb2⟩)))
    go_wp2_with fail
    refine bodyPost_ret (v := .tuple #[.string ⟨(prgL p).toArray⟩, .int .i64 0]) (by simp [results, Tryz.f6, go_sem, str_app, prgL]) rfl ⟨ret_v (by rw [HE.out.1, HE.out.2]), hB1.trans (hb2.mono hB1.size)⟩
  · have hz' : (z == 0) = false := by simpa using hz0
    have hz2 : (z != 0) = true := by simpa using hz0
    have HE : Hid (putS p = [] ∧ putE p = 2) := Lib.hid (by
      have : mayP p = false := by
        cases hm : mayP p
        · rfl
        · exact absurd (hz.2 (mayP_iff.1 hm)) hz0
      unfold putS putE
      rw [this]
      exact ⟨rfl, rfl⟩)
    clear hz hk1 hP1
    go_wp2_with fail
    refine bodyPost_ret (v := .tuple #[.string ⟨#[]⟩, .int .i64 2]) (by simp [results, Tryz.f6, go_sem]) rfl ⟨ret_v (by rw [HE.out.1, HE.out.2]), hB1⟩
theorem putS_size {p : Prg} (hf : Fits p) : (putS p).length ≤ 30000 := by
  unfold putS
  split
  · rename_i h
    have := putS_len hf.caps hf.codes hf.sites (mayP_iff.1 h)
    simp only [prgL, List.length_append]
    omega
  · simp
theorem size_prog {lo hi : Nat} {v1 v2 v3 : Value} {p : Prg} (w : World) (h : PrgAt lo hi w v1 v2 v3 p) (hs : Small p) :
    Calls Tryz.prog 10 #[.agg #[v1, v2, v3]] w fun e w' => e = .returned (.int .i64 ((putS p).length : Int)) ∧ Below w.heap.size w w' := by
  obtain ⟨a1, c1, rfl⟩ := h.caps.slice
  obtain ⟨a2, c2, rfl⟩ := h.codes.slice
  obtain ⟨a3, c3, rfl⟩ := h.sites.slice
  have hb0 : Below w.heap.size w (w.alloc (.cells #[.slice a1 p.caps.length c1, .slice a2 p.codes.length c2, .slice a3 p.sites.length c3] 26)) := (Below.refl _ w).alloc (Nat.le_refl _) _
  have hp := put_prog _ (h.later hb0) hs
  go_enter Tryz.func10, Tryz.ntmps10
  go_wp2_with fail
  refine hp.mono ?_
  rintro e w1 ⟨rfl, hb1⟩
  go_wp2_with fail
  go_ret
  exact ⟨ret_v (by simp), below_next hb0 hb1 (Nat.le_refl _)⟩
end Go.Proofs.YtakgcienodigpaaGreat
