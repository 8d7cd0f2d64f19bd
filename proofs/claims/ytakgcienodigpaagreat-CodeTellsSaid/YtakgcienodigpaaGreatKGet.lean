/-
  The walk of Get.
-/
import Derived.Test.YtakgcienodigpaaGreatKGetZ
namespace Go.Proofs.YtakgcienodigpaaGreat
open Go.RowKit Oct

/-- The program whose bytes these begin with, and what is behind them. -/
def getP (s : List UInt8) : Option (Prg × List UInt8) := (rdPrg 7 s).bind fun q => if mayP q.1 then some q else none

/-! ### What is read fits -/
theorem row_all {α : Type} {f : Rd α} {Q : α → Prop} (h : ∀ s x r, f s = some (x, r) → Q x) (n : Nat) : ∀ s l r, rdRow f n s = some (l, r) → l.length = n ∧ ∀ x ∈ l, Q x := by
  induction n with
  | zero => intro s l r e; cases e; exact ⟨rfl, by simp⟩
  | succ n ih =>
    intro s l r e
    obtain ⟨⟨x, s'⟩, e1, e⟩ := Option.bind_eq_some_iff.1 e
    obtain ⟨⟨l', s''⟩, e2, e⟩ := Option.bind_eq_some_iff.1 e
    cases e
    obtain ⟨h1, h2⟩ := ih _ _ _ e2
    refine ⟨by simp [h1], fun y hy => ?_⟩
    rcases List.mem_cons.1 hy with rfl | hy
    · exact h _ _ _ e1
    · exact h2 y hy
theorem rdL_all {α : Type} {f : Rd α} {Q : α → Prop} {m : Nat} (h : ∀ s x r, f s = some (x, r) → Q x) {s r : List UInt8} {l : List α} (e : rdL m f s = some (l, r)) : l.length ≤ m ∧ ∀ x ∈ l, Q x := by
  obtain ⟨⟨n, s'⟩, e1, e⟩ := Option.bind_eq_some_iff.1 e
  obtain ⟨h1, h2⟩ := row_all h _ _ _ _ e
  have := (rdN_some.1 e1).2
  exact ⟨by simp only at h1; omega, h2⟩
theorem rdN_le {m : Nat} {s : List UInt8} {v : Nat} {r : List UInt8} (h : rdN m s = some (v, r)) : v ≤ m := (rdN_some.1 h).2
theorem rdZ_fits {m : Nat} (hm : m ≤ 1000) (s : List UInt8) (x : Int) (r : List UInt8) (h : rdZ m s = some (x, r)) : I64b x := by
  obtain ⟨⟨v, r'⟩, h1, h2⟩ := map_some' h
  cases h2
  have := rdN_le h1
  exact ⟨by simp only; omega, by simp only; omega⟩
theorem rdC_fits (s : List UInt8) (x : Int) (r : List UInt8) (h : rdC s = some (x, r)) : I64b x := by
  obtain ⟨⟨v, r'⟩, h1, h2⟩ := map_some' h
  cases h2
  have := rdN_le h1
  exact ⟨by simp only; omega, by simp only; omega⟩
theorem rdI_fits (s : List UInt8) (x : Int) (r : List UInt8) (h : rdI s = some (x, r)) : I64b x := by
  obtain ⟨u, h1, rfl⟩ := rdI_some.1 h
  have h2 := getR_lt s
  rw [h1] at h2
  exact backI_bounds h2
theorem opt_fits {b : Bool} {f : Rd Int} (hf : ∀ s x r, f s = some (x, r) → I64b x) (s : List UInt8) (x : Int) (r : List UInt8) (h : rdOpt b f s = some (x, r)) : I64b x := by
  cases b
  · cases h; exact i64_zero
  · exact hf _ _ _ h
theorem rdCase_fits {R : Nat} (hR : R ≤ 1000) (s : List UInt8) (x : Cas) (r : List UInt8) (e : rdCase R s = some (x, r)) : x.ok := by
  obtain ⟨⟨a, s1⟩, e1, e⟩ := Option.bind_eq_some_iff.1 e
  obtain ⟨⟨c, s2⟩, e2, e⟩ := Option.bind_eq_some_iff.1 e
  obtain ⟨⟨v, s3⟩, e3, e⟩ := Option.bind_eq_some_iff.1 e
  obtain ⟨⟨o, s4⟩, e4, e⟩ := Option.bind_eq_some_iff.1 e
  cases e
  exact ⟨rdC_fits _ _ _ e2, rdZ_fits hR _ _ _ e3, rdZ_fits hR _ _ _ e4⟩
theorem rdIns_fits {R : Nat} (hR : R ≤ 1000) (s : List UInt8) (x : In) (r : List UInt8) (e : rdIns R s = some (x, r)) : x.ok := by
  obtain ⟨⟨o, s1⟩, e1, e⟩ := Option.bind_eq_some_iff.1 e
  obtain ⟨⟨a, s2⟩, e2, e⟩ := Option.bind_eq_some_iff.1 e
  obtain ⟨⟨b, s3⟩, e3, e⟩ := Option.bind_eq_some_iff.1 e
  obtain ⟨⟨c, s4⟩, e4, e⟩ := Option.bind_eq_some_iff.1 e
  obtain ⟨⟨k, s5⟩, e5, e⟩ := Option.bind_eq_some_iff.1 e
  cases e
  have := rdN_le e1
  exact ⟨by simp only; omega, opt_fits (rdZ_fits hR) _ _ _ e2, opt_fits (rdZ_fits hR) _ _ _ e3, opt_fits rdC_fits _ _ _ e4, opt_fits rdI_fits _ _ _ e5⟩
theorem rdSite_fits {R : Nat} (hR : R ≤ 1000) (s : List UInt8) (x : Sit) (r : List UInt8) (e : rdSite R s = some (x, r)) : x.cs.length ≤ 6 ∧ ∀ y ∈ x.cs, y.ok := by
  obtain ⟨⟨a, s1⟩, e1, e⟩ := Option.bind_eq_some_iff.1 e
  obtain ⟨⟨c, s2⟩, e2, e⟩ := Option.bind_eq_some_iff.1 e
  cases e
  exact rdL_all (rdCase_fits hR) e2
theorem fits_of {R : Nat} (hR : R ≤ 1000) {s s1 s2 s3 : List UInt8} {a : List Int} {b : List Sit} {c : List (List In)} (e1 : rdL 6 (rdZ 8) s = some (a, s1)) (e2 : rdL 12 (rdSite R) s1 = some (b, s2)) (e3 : rdL 8 (rdCode R) s2 = some (c, s3)) : Fit ⟨a, c, b⟩ ∧ Small ⟨a, c, b⟩ := by
  obtain ⟨a1, a2⟩ := rdL_all (rdZ_fits (by omega)) e1
  obtain ⟨b1, b2⟩ := rdL_all (rdSite_fits hR) e2
  obtain ⟨c1, c2⟩ := rdL_all (Q := fun l : List In => l.length ≤ 40 ∧ ∀ x ∈ l, x.ok) (fun s l r h => rdL_all (rdIns_fits hR) h) e3
  exact ⟨⟨a2, fun x hx => (c2 x hx).2, fun x hx => (b2 x hx).2⟩, ⟨by simp only; omega, by simp only; omega, by simp only; omega, fun x hx => by have := (c2 x hx).1; omega, fun x hx => by have := (b2 x hx).1; omega⟩⟩

def GetEnd (w : World) (o : Option (Prg × List UInt8)) (e : Ending) (w' : World) : Prop :=
  match o with
  | some (p, r) => ∃ v1 v2 v3, e = .returned (.tuple #[.agg #[v1, v2, v3], .string ⟨r.toArray⟩, .int .i64 0]) ∧ PrgAt w.heap.size w'.heap.size w' v1 v2 v3 p ∧ Fit p ∧ Small p ∧ Below w.heap.size w w'
  | none => e = .returned (.tuple #[.agg #[.slice none 0 0, .slice none 0 0, .slice none 0 0], .string ⟨#[]⟩, .int .i64 7]) ∧ Below w.heap.size w w'

theorem get_dies (w w1 : World) (T : Array Value) (o : Option (Prg × List UInt8)) {v1 v2 v3 : Value} {s : List UInt8} {z : Int} (ho : o = none) (h2 : T[2]?.getD undef = .pointer (some ⟨w.heap.size, 0, none⟩)) (h3 : T[3]?.getD undef = .pointer (some ⟨w.heap.size + 1, 0, none⟩)) (h4 : T[4]?.getD undef = .pointer (some ⟨w.heap.size + 1 + 1, 0, none⟩))
    (hB : Below w.heap.size w w1) (hR : Var3 w1 w.heap.size v1 v2 v3 s z) :
    bodyPostD Tryz.prog Tryz.f8 (GetEnd w o) (.panic [{ v := .iface 55 (.agg #[]), recovered := false }]) { tmps := T, defers := [{ target := Target.fn (.func 22) #[.pointer (some ⟨w.heap.size, 0, none⟩), .pointer (some ⟨w.heap.size + 1, 0, none⟩), .pointer (some ⟨w.heap.size + 1 + 1, 0, none⟩)], args := #[] }] } w1 := by
  subst ho
  refine leaves_cons (f := 22) (args := #[.pointer (some ⟨w.heap.size, 0, none⟩), .pointer (some ⟨w.heap.size + 1, 0, none⟩), .pointer (some ⟨w.heap.size + 1 + 1, 0, none⟩)]) (by simp) (by simp [go_sem]) ?_
  refine (gcatch_wrong w.heap.size [] w1 hR).mono ?_
  rintro e' u' w'' ⟨rfl, rfl, hR', hbt⟩
  have q0 := hR'.a.cell (k := 0) (v := .slice none 0 0) rfl
  have q1 := hR'.a.cell (k := 1) (v := .slice none 0 0) rfl
  have q2 := hR'.a.cell (k := 2) (v := .slice none 0 0) rfl
  have q3 := Blk.cell hR'.b (k := 0) (v := .string ⟨#[]⟩) rfl
  have q4 := hR'.c.cell (k := 0) (v := .int .i64 7) rfl
  have hbb : Below w.heap.size w w'' := hB.trans (hbt.below hB.size (by simp; omega))
  simp [Leaves, settle, results, Tryz.f8, go_sem, h2, h3, h4, q0, q1, q2, q3, q4, GetEnd, hbb]
theorem get_ends (w w1 : World) (T : Array Value) (o : Option (Prg × List UInt8)) {v1 v2 v3 : Value} {p : Prg} {r : List UInt8} (ho : o = some (p, r)) (h2 : T[2]?.getD undef = .pointer (some ⟨w.heap.size, 0, none⟩)) (h3 : T[3]?.getD undef = .pointer (some ⟨w.heap.size + 1, 0, none⟩)) (h4 : T[4]?.getD undef = .pointer (some ⟨w.heap.size + 1 + 1, 0, none⟩))
    (hB : Below w.heap.size w w1) (hR : Var3 w1 w.heap.size v1 v2 v3 r 0) (hP : OwnPrg w.heap.size w1 v1 v2 v3 p) (hf : Fit p) (hs : Small p) :
    bodyPostD Tryz.prog Tryz.f8 (GetEnd w o) .ret { tmps := T, defers := [{ target := Target.fn (.func 22) #[.pointer (some ⟨w.heap.size, 0, none⟩), .pointer (some ⟨w.heap.size + 1, 0, none⟩), .pointer (some ⟨w.heap.size + 1 + 1, 0, none⟩)], args := #[] }] } w1 := by
  subst ho
  refine leaves_cons (f := 22) (args := #[.pointer (some ⟨w.heap.size, 0, none⟩), .pointer (some ⟨w.heap.size + 1, 0, none⟩), .pointer (some ⟨w.heap.size + 1 + 1, 0, none⟩)]) (by simp) (by simp [go_sem]) ?_
  refine (gcatch_idle w.heap.size w1).mono ?_
  rintro e' u' w'' ⟨rfl, rfl, hbt⟩
  have hR' := hR.later hbt hR.c.lt
  have q0 := hR'.a.cell (k := 0) (v := v1) rfl
  have q1 := hR'.a.cell (k := 1) (v := v2) rfl
  have q2 := hR'.a.cell (k := 2) (v := v3) rfl
  have q3 := Blk.cell hR'.b (k := 0) (v := .string ⟨r.toArray⟩) rfl
  have q4 := hR'.c.cell (k := 0) (v := .int .i64 0) rfl
  have hbb : Below w.heap.size w w'' := below_next hB hbt (Nat.le_refl _)
  have hPA := (hP.fresh hbt).at hf
  simp [Leaves, settle, results, Tryz.f8, go_sem, h2, h3, h4, q0, q1, q2, q3, q4, GetEnd, hbb, hf, hs]
  exact ⟨v1, v2, v3, ⟨rfl, rfl, rfl⟩, hPA⟩

/-- What Get stands on between its statements. -/
structure GS (w W : World) (pb kb M xb : Nat) (v1 v2 v3 : Value) (s : List UInt8) (z : Int) : Prop where
  R : Rdr W pb (w.heap.size + 1) kb M s
  V : Var3 W w.heap.size v1 v2 v3 s z
  X : Blk W xb 61 #[F1 pb, F2 pb, F3 kb]
  B : Below w.heap.size w W
  m : w.heap.size ≤ M
section
variable {w W W' : World} {pb kb M xb : Nat} {v1 v2 v3 : Value} {s s' : List UInt8} {z : Int}
theorem GS.over (h : GS w W pb kb M xb v1 v2 v3 s z) (hb : RBut (w.heap.size + 1) M W W') (hR : Rdr W' pb (w.heap.size + 1) kb M s') : GS w W' pb kb M xb v1 v2 v3 s' z :=
  ⟨hR, ⟨h.V.a.over h.R (by decide) hb, hR.st, h.V.c.over h.R (by decide) hb⟩, h.X.over h.R (by decide) hb, h.B.trans (hb.below h.B.size (by have := h.m; simp; omega)), h.m⟩
theorem GS.var (h : GS w W pb kb M xb v1 v2 v3 s z) (k : Nat) (u : Value) {y1 y2 y3 : Value} (hy : (#[v1, v2, v3] : Array Value).setIfInBounds k u = #[y1, y2, y3]) : GS w (W.setCell ⟨w.heap.size, k, none⟩ u) pb kb M xb y1 y2 y3 s z := by
  have hcs := But.cellset (W := W) (B := w.heap.size) (k := k) (v := u)
  refine ⟨h.R.beside h.V.a (by decide) hcs, ⟨hy ▸ h.V.a.set k u, Blk.beside h.V.b (p := ⟨w.heap.size, k, none⟩) (by simp) u, h.V.c.beside (p := ⟨w.heap.size, k, none⟩) (by simp; try omega) u⟩, h.X.beside (p := ⟨w.heap.size, k, none⟩) (blk_ne h.X h.V.a (by decide)) u, h.B.trans (hcs.below h.B.size (by simp)), h.m⟩
theorem GS.cells (h : GS w W pb kb M xb v1 v2 v3 s z) :
    (W.cell? ⟨xb, 0, none⟩ = some (F1 pb) ∧ W.cell? ⟨xb, 1, none⟩ = some (F2 pb) ∧ W.cell? ⟨xb, 2, none⟩ = some (F3 kb)) ∧
    (W.cell? ⟨w.heap.size, 0, none⟩ = some v1 ∧ W.cell? ⟨w.heap.size, 1, none⟩ = some v2 ∧ W.cell? ⟨w.heap.size, 2, none⟩ = some v3) ∧
    (W.cell? ⟨w.heap.size + 1, 0, none⟩ = some (.string ⟨s.toArray⟩) ∧ W.cell? ⟨w.heap.size + 1 + 1, 0, none⟩ = some (.int .i64 z)) ∧
    (W.frozen? ⟨w.heap.size, 0, none⟩ = false ∧ W.frozen? ⟨w.heap.size, 1, none⟩ = false ∧ W.frozen? ⟨w.heap.size, 2, none⟩ = false ∧ W.frozen? ⟨w.heap.size + 1, 0, none⟩ = false ∧ W.frozen? ⟨w.heap.size + 1 + 1, 0, none⟩ = false) :=
  ⟨⟨h.X.cell rfl, h.X.cell rfl, h.X.cell rfl⟩, ⟨h.V.a.cell rfl, h.V.a.cell rfl, h.V.a.cell rfl⟩, ⟨Blk.cell h.V.b rfl, h.V.c.cell rfl⟩, h.V.a.frozen 0, h.V.a.frozen 1, h.V.a.frozen 2, Blk.frozen h.V.b 0, h.V.c.frozen 0⟩
end

theorem var3_new (w : World) (s : List UInt8) : ∀ W, W = ((w.alloc (.cells #[.slice none 0 0, .slice none 0 0, .slice none 0 0] 26)).alloc (.cells #[.string ⟨s.toArray⟩] 9)).alloc (.cells #[.int .i64 0] 29) →
    Below w.heap.size w W ∧ Var3 W w.heap.size (.slice none 0 0) (.slice none 0 0) (.slice none 0 0) s 0 := by
  rintro W rfl
  obtain ⟨w1, h1⟩ : ∃ w1, w1 = w.alloc (.cells #[.slice none 0 0, .slice none 0 0, .slice none 0 0] 26) := ⟨_, rfl⟩
  have s1 : w1.heap.size = w.heap.size + 1 := by rw [h1]; exact World.size_alloc _ _
  have b1 : Below w.heap.size w w1 := by rw [h1]; exact (Below.refl _ w).alloc (Nat.le_refl _) _
  have x1 : Blk w1 w.heap.size 26 #[.slice none 0 0, .slice none 0 0, .slice none 0 0] := by rw [h1]; exact blk_new w _ _
  rw [← h1]
  obtain ⟨w2, h2⟩ : ∃ w2, w2 = w1.alloc (.cells #[.string ⟨s.toArray⟩] 9) := ⟨_, rfl⟩
  have s2 : w2.heap.size = w.heap.size + 1 + 1 := by rw [h2, World.size_alloc, s1]
  have b2 : Below w.heap.size w w2 := by rw [h2]; exact b1.alloc (by omega) _
  have x2 : StrB w2 (w.heap.size + 1) s := by rw [h2]; exact blk_at s1.symm
  have y1 : Blk w2 w.heap.size 26 #[.slice none 0 0, .slice none 0 0, .slice none 0 0] := by rw [h2]; exact x1.alloc _
  rw [← h2]
  exact ⟨b2.alloc (by omega) _, y1.alloc _, Blk.alloc x2 _, blk_at s2.symm⟩

theorem getP_none {s : List UInt8} (h : rdPrg 7 s = none) : getP s = none := by simp [getP, h]
theorem own_var {w W : World} {pb kb M xb : Nat} {v1 v2 v3 : Value} {s : List UInt8} {z : Int} (h : GS w W pb kb M xb v1 v2 v3 s z) {base n k sz : Nat} {e : TypeId} {v : Value} {xs : List Value} (hO : W.ownsRow base e sz v n xs) (he : 26 ≠ e) (u : Value) : (W.setCell ⟨w.heap.size, k, none⟩ u).ownsRow base e sz v n xs :=
  owns_beside hO (show W.heap[w.heap.size]? = _ from h.V.a) he u
theorem OwnSites.beside {W : World} {base B k : Nat} {v : Value} {l : List Sit} {cs : Array Value} (h : OwnSites base W v l) (hB : Blk W B 26 cs) (u : Value) : OwnSites base (W.setCell ⟨B, k, none⟩ u) v l := by
  obtain ⟨xs, h1, h2⟩ := h
  exact ⟨xs, owns_beside h1 hB (by decide) u, fun k x hx => by obtain ⟨y, e1, e2, e3⟩ := h2 k x hx; exact ⟨y, e1, e2, owns_beside e3 hB (by decide) u⟩⟩
theorem OwnCodes.beside {W : World} {base B k : Nat} {v : Value} {l : List (List In)} {cs : Array Value} (h : OwnCodes base W v l) (hB : Blk W B 26 cs) (u : Value) : OwnCodes base (W.setCell ⟨B, k, none⟩ u) v l := by
  obtain ⟨us, h1, h2⟩ := h
  exact ⟨us, owns_beside h1 hB (by decide) u, fun k y x hu hx => owns_beside (h2 k y x hu hx) hB (by decide) u⟩
theorem getP_may {s : List UInt8} {a : List Int} {b : List Sit} {c : List (List In)} {s1 s2 s3 : List UInt8} (e1 : rdL 6 (rdZ 8) s = some (a, s1)) (e2 : rdL 12 (rdSite 7) s1 = some (b, s2)) (e3 : rdL 8 (rdCode 7) s2 = some (c, s3)) :
    getP s = if mayP ⟨a, c, b⟩ then some (⟨a, c, b⟩, s3) else none := by
  simp [getP, rdPrg, e1, e2, e3]
theorem GS.err {w W : World} {pb kb M xb : Nat} {v1 v2 v3 : Value} {s : List UInt8} {z : Int} (h : GS w W pb kb M xb v1 v2 v3 s z) (y : Int) : GS w (W.setCell ⟨w.heap.size + 1 + 1, 0, none⟩ (.int .i64 y)) pb kb M xb v1 v2 v3 s y := by
  have hcs := But.cellset (W := W) (B := w.heap.size + 1 + 1) (k := 0) (v := .int .i64 y)
  refine ⟨h.R.beside h.V.c (by decide) hcs, ⟨h.V.a.beside (p := ⟨w.heap.size + 1 + 1, 0, none⟩) (by simp; try omega) _, Blk.beside h.V.b (p := ⟨w.heap.size + 1 + 1, 0, none⟩) (by simp) _, h.V.c.set 0 (.int .i64 y)⟩, h.X.beside (p := ⟨w.heap.size + 1 + 1, 0, none⟩) (blk_ne h.X h.V.c (by decide)) _, h.B.trans (hcs.below h.B.size (by simp; omega)), h.m⟩
theorem OwnPrg.err {W : World} {base B k : Nat} {v1 v2 v3 : Value} {p : Prg} {cs : Array Value} (h : OwnPrg base W v1 v2 v3 p) (hB : Blk W B 29 cs) (u : Value) : OwnPrg base (W.setCell ⟨B, k, none⟩ u) v1 v2 v3 p := by
  refine ⟨owns_beside h.caps hB (by decide) u, ?_, ?_⟩
  · obtain ⟨us, h1, h2⟩ := h.codes
    exact ⟨us, owns_beside h1 hB (by decide) u, fun k y x hu hx => owns_beside (h2 k y x hu hx) hB (by decide) u⟩
  · obtain ⟨xs, h1, h2⟩ := h.sites
    exact ⟨xs, owns_beside h1 hB (by decide) u, fun k x hx => by obtain ⟨y, e1, e2, e3⟩ := h2 k x hx; exact ⟨y, e1, e2, owns_beside e3 hB (by decide) u⟩⟩
/-- The results, stored whole onto themselves. -/
theorem GS.self {w W : World} {pb kb M xb : Nat} {v1 v2 v3 : Value} {s : List UInt8} {z : Int} (h : GS w W pb kb M xb v1 v2 v3 s z) {p : Prg} (hP : OwnPrg w.heap.size W v1 v2 v3 p) :
    ∃ W', W' = (((((W.setCell ⟨w.heap.size, 0, none⟩ v1).setCell ⟨w.heap.size, 1, none⟩ v2).setCell ⟨w.heap.size, 2, none⟩ v3).setCell ⟨w.heap.size + 1, 0, none⟩ (.string ⟨s.toArray⟩)).setCell ⟨w.heap.size + 1 + 1, 0, none⟩ (.int .i64 0)) ∧
      Var3 W' w.heap.size v1 v2 v3 s 0 ∧ Below w.heap.size w W' ∧ OwnPrg w.heap.size W' v1 v2 v3 p := by
  obtain ⟨h1, h2⟩ := var_set h.V v1 v2 v3 s 0
  refine ⟨_, rfl, h1, h.B.trans (h2.below h.B.size (by simp; omega)), ?_⟩
  have key : ∀ (j : Nat) (cs : Array Value) (t : TypeId) (zz : Nat × Nat), t ≠ 26 ∧ t ≠ 9 ∧ t ≠ 29 → W.heap[j]? = some (.cells cs t zz) → (((((W.setCell ⟨w.heap.size, 0, none⟩ v1).setCell ⟨w.heap.size, 1, none⟩ v2).setCell ⟨w.heap.size, 2, none⟩ v3).setCell ⟨w.heap.size + 1, 0, none⟩ (.string ⟨s.toArray⟩)).setCell ⟨w.heap.size + 1 + 1, 0, none⟩ (.int .i64 0)).heap[j]? = W.heap[j]? := by
    intro j cs t zz ht hj
    refine h2.block j (Array.getElem?_eq_some_iff.1 hj).1 ?_
    have na := h.V.a
    have nb := h.V.b
    have nc := h.V.c
    unfold StrB at nb
    unfold Blk at na nb nc
    simp only [List.mem_cons, List.not_mem_nil, or_false, not_or]
    refine ⟨?_, ?_, ?_⟩
    · rintro rfl; rw [hj] at na; simp only [Option.some.injEq, Obj.cells.injEq] at na; exact ht.1 na.2.1
    · rintro rfl; rw [hj] at nb; simp only [Option.some.injEq, Obj.cells.injEq] at nb; exact ht.2.1 nb.2.1
    · rintro rfl; rw [hj] at nc; simp only [Option.some.injEq, Obj.cells.injEq] at nc; exact ht.2.2 nc.2.1
  refine ⟨owns_keep hP.caps fun j cs z _ hj => key j cs _ z (by decide) hj, ?_, ?_⟩
  · obtain ⟨us, h1, h2⟩ := hP.codes
    exact ⟨us, owns_keep h1 fun j cs z _ hj => key j cs _ z (by decide) hj, fun k u x hu hx => owns_keep (h2 k u x hu hx) fun j cs z _ hj => key j cs _ z (by decide) hj⟩
  · obtain ⟨xs, h1, h2⟩ := hP.sites
    exact ⟨xs, owns_keep h1 fun j cs z _ hj => key j cs _ z (by decide) hj, fun k x hx => by obtain ⟨u, e1, e2, e3⟩ := h2 k x hx; exact ⟨u, e1, e2, owns_keep e3 fun j cs z _ hj => key j cs _ z (by decide) hj⟩⟩

set_option maxRecDepth 100000 in
set_option maxHeartbeats 1600000 in
theorem get_prog (s : List UInt8) (w : World) (hs : s.length ≤ maxLen) :
    Calls Tryz.prog 8 #[.string ⟨s.toArray⟩] w (GetEnd w (getP s)) := by
  obtain ⟨wf, hwf⟩ : ∃ wf, wf = ((w.alloc (.cells #[.slice none 0 0, .slice none 0 0, .slice none 0 0] 26)).alloc (.cells #[.string ⟨s.toArray⟩] 9)).alloc (.cells #[.int .i64 0] 29) := ⟨_, rfl⟩
  obtain ⟨hB0, hV0⟩ := var3_new w s wf hwf
  have hmf : ∀ (fn : Fn) (first cap : Array Value) (w : World), (Instr.makeFunc fn first cap).run Tryz.prog w = .ok (.func fn first cap) w := fun _ _ _ _ => rfl
  have hrd := readerOf_any (w.heap.size + 1) s wf hV0.b hs
  go_enter_defers Tryz.func8, Tryz.ntmps8
  go_wp2_with fail
  rw [← hwf]
  clear hwf
  refine hrd.mono ?_
  rintro e w1 ⟨pb, kb, M, rfl, hR1, hM, hb1⟩
  have hsz := hB0.size
  obtain ⟨w2, hw2⟩ : ∃ w2, w2 = w1.alloc (.cells #[F1 pb, F2 pb, F3 kb] 61) := ⟨_, rfl⟩
  have hb2 : Below w1.heap.size w1 w2 := by rw [hw2]; exact (Below.refl _ w1).alloc (Nat.le_refl _) _
  have hX2 : Blk w2 w1.heap.size 61 #[F1 pb, F2 pb, F3 kb] := by rw [hw2]; exact blk_new w1 _ _
  have hV1 := hV0.later hb1 hV0.c.lt
  have hG : GS w w2 pb kb M w1.heap.size (.slice none 0 0) (.slice none 0 0) (.slice none 0 0) s 0 :=
    ⟨hR1.later hb2 (Nat.le_refl _), hV1.later hb2 hV1.c.lt, hX2, below_next (below_next hB0 hb1 (Nat.le_refl _)) hb2 (Nat.le_refl _), by omega⟩
  have hg := getRowInt_any pb (w.heap.size + 1) kb M s w2 hG.R
  obtain ⟨⟨c0, c1, c2⟩, ⟨c3, c4, c5⟩, ⟨c6, c7⟩, c8, c9, c10, c11, c12⟩ := hG.cells
  rw [hw2] at c0 c1 c2
  clear hrd hR1 hM hb1 hb2 hX2 hV0 hV1 hB0
  cases e1 : rdL 6 (rdZ 8) s with
  | none =>
    have hc := get_bad hg e1
    have HO := Lib.hid (getP_none (s := s) (by simp [rdPrg, e1]))
    clear e1 hg
    go_wp2_with fail
    rw [← hw2]
    refine hc.mono ?_
    rintro e w3 ⟨rfl, hb, s', hS⟩
    exact get_dies w w3 _ _ HO.out rfl rfl rfl (hG.B.trans (hb.below hG.B.size (by have := hG.m; simp; omega))) ⟨hG.V.a.over hG.R (by decide) hb, hS, hG.V.c.over hG.R (by decide) hb⟩
  | some q =>
    obtain ⟨a, s1⟩ := q
    have hc := get_ok hg e1
    have E1 := Lib.hid e1
    clear e1 hg
    go_wp2_with fail
    rw [← hw2]
    clear hw2
    refine hc.mono ?_
    rintro e w3 ⟨v1, rfl, hO1, hb, hR⟩
    have hO1 := owns_base hO1 hG.B.size
    obtain ⟨a1, b1, rfl⟩ := owns_slice hO1
    have hG3 := hG.over hb hR
    obtain ⟨⟨c0, c1, c2⟩, ⟨c3, c4, c5⟩, ⟨c6, c7⟩, c8, c9, c10, c11, c12⟩ := hG3.cells
    have hG4 := hG3.var 0 (.slice a1 a.length b1) rfl
    have hO1 := own_var (k := 0) hG3 hO1 (by decide) (.slice a1 a.length b1)
    obtain ⟨⟨d0, d1, d2⟩, ⟨d3, d4, d5⟩, ⟨d6, d7⟩, d8, d9, d10, d11, d12⟩ := hG4.cells
    have hg := getRowSite_any pb (w.heap.size + 1) kb M s1 _ hG4.R
    clear hc hb hR hG hG3
    cases e1 : rdL 12 (rdSite 7) s1 with
    | none =>
      have hc := get_bad hg e1
      have HO := Lib.hid (getP_none (s := s) (by simp [rdPrg, E1.out, e1]))
      clear e1 hg
      go_wp2_with fail
      refine hc.mono ?_
      rintro e w5 ⟨rfl, hb, s', hS⟩
      exact get_dies w w5 _ _ HO.out rfl rfl rfl (hG4.B.trans (hb.below hG4.B.size (by have := hG4.m; simp; omega))) ⟨hG4.V.a.over hG4.R (by decide) hb, hS, hG4.V.c.over hG4.R (by decide) hb⟩
    | some q =>
      obtain ⟨b, s2⟩ := q
      have hc := get_ok hg e1
      have E2 := Lib.hid e1
      clear e1 hg
      go_wp2_with fail
      refine hc.mono ?_
      rintro e w5 ⟨v3, rfl, hO3, hb, hR⟩
      have hO1 := owns_over hO1 hG4.R (by decide) hb
      have hO3 := hO3.lower hG4.B.size
      obtain ⟨a3, b3, rfl⟩ := hO3.slice
      have hG5 := hG4.over hb hR
      clear c0 c1 c2 c3 c4 c5 c6 c7 c8 c9 c10 c11 c12 d0 d1 d2 d3 d4 d5 d6 d7 d8 d9 d10 d11 d12
      obtain ⟨⟨c0, c1, c2⟩, ⟨c3, c4, c5⟩, ⟨c6, c7⟩, c8, c9, c10, c11, c12⟩ := hG5.cells
      have hG6 := hG5.var 2 (.slice a3 b.length b3) rfl
      have hO1 := own_var (k := 2) hG5 hO1 (by decide) (.slice a3 b.length b3)
      have hO3 := hO3.beside (k := 2) hG5.V.a (.slice a3 b.length b3)
      obtain ⟨⟨d0, d1, d2⟩, ⟨d3, d4, d5⟩, ⟨d6, d7⟩, d8, d9, d10, d11, d12⟩ := hG6.cells
      have hg := getRowCode_any pb (w.heap.size + 1) kb M s2 _ hG6.R
      clear hc hb hR hG4 hG5
      cases e1 : rdL 8 (rdCode 7) s2 with
      | none =>
        have hc := get_bad hg e1
        have HO := Lib.hid (getP_none (s := s) (by simp [rdPrg, E1.out, E2.out, e1]))
        clear e1 hg
        go_wp2_with fail
        refine hc.mono ?_
        rintro e w7 ⟨rfl, hb, s', hS⟩
        exact get_dies w w7 _ _ HO.out rfl rfl rfl (hG6.B.trans (hb.below hG6.B.size (by have := hG6.m; simp; omega))) ⟨hG6.V.a.over hG6.R (by decide) hb, hS, hG6.V.c.over hG6.R (by decide) hb⟩
      | some q =>
        obtain ⟨c, s3⟩ := q
        have hc := get_ok hg e1
        have HG := Lib.hid (getP_may E1.out E2.out e1)
        have hfit := fits_of (R := 7) (by omega) E1.out E2.out e1
        clear e1 hg
        go_wp2_with fail
        refine hc.mono ?_
        rintro e w7 ⟨v2, rfl, hO2, hb, hR⟩
        have hO1 := owns_over hO1 hG6.R (by decide) hb
        have hO3 := hO3.over hG6.R hb
        have hO2 := hO2.lower hG6.B.size
        obtain ⟨a2, b2, rfl⟩ := hO2.slice
        have hG7 := hG6.over hb hR
        clear c0 c1 c2 c3 c4 c5 c6 c7 c8 c9 c10 c11 c12 d0 d1 d2 d3 d4 d5 d6 d7 d8 d9 d10 d11 d12
        obtain ⟨⟨c0, c1, c2⟩, ⟨c3, c4, c5⟩, ⟨c6, c7⟩, c8, c9, c10, c11, c12⟩ := hG7.cells
        have hG8 := hG7.var 1 (.slice a2 c.length b2) rfl
        have hO1 := own_var (k := 1) hG7 hO1 (by decide) (.slice a2 c.length b2)
        have hO3 := hO3.beside (k := 1) hG7.V.a (.slice a2 c.length b2)
        have hO2 := hO2.beside (k := 1) hG7.V.a (.slice a2 c.length b2)
        obtain ⟨⟨d0, d1, d2⟩, ⟨d3, d4, d5⟩, ⟨d6, d7⟩, d8, d9, d10, d11, d12⟩ := hG8.cells
        have hP : OwnPrg w.heap.size (w7.setCell ⟨w.heap.size, 1, none⟩ (.slice a2 c.length b2)) (.slice a1 a.length b1) (.slice a2 c.length b2) (.slice a3 b.length b3) ⟨a, c, b⟩ := ⟨hO1, hO2, hO3⟩
        have hck := progCheck_any _ (hP.at hfit.1) hfit.2
        obtain ⟨x, y, z, ht⟩ : ∃ x y z, checkT ⟨a, c, b⟩ = (x, y, z) := ⟨_, _, _, rfl⟩
        have hz : z = 0 ↔ checkW ⟨a, c, b⟩ = none := by rw [← check_zero, ht]
        rw [ht] at hck
        simp only at hck
        clear ht hc hb hR hG6 hG7 hO1 hO2 hO3
        go_wp2_with fail
        refine hck.mono ?_
        rintro e w9 ⟨rfl, hb9⟩
        have hG9 := hG8.over (But.of_below hb9 _) (hG8.R.later hb9 (Nat.le_refl _))
        have hP9 := hP.fresh hb9
        clear c0 c1 c2 c3 c4 c5 c6 c7 c8 c9 c10 c11 c12 d0 d1 d2 d3 d4 d5 d6 d7 d8 d9 d10 d11 d12 hck hb9 hG8 hP
        obtain ⟨⟨c0, c1, c2⟩, ⟨c3, c4, c5⟩, ⟨c6, c7⟩, c8, c9, c10, c11, c12⟩ := hG9.cells
        have hG10 := hG9.err z
        have hP10 := hP9.err (k := 0) hG9.V.c (.int .i64 z)
        obtain ⟨⟨d0, d1, d2⟩, ⟨d3, d4, d5⟩, ⟨d6, d7⟩, d8, d9, d10, d11, d12⟩ := hG10.cells
        clear hG9 hP9
        by_cases hz0 : z = 0
        · have hmay := mayP_iff.2 (hz.1 hz0)
          have HO : Hid (getP s = some (⟨a, c, b⟩, s3)) := Lib.hid (by rw [HG.out, if_pos hmay])
          subst hz0
          obtain ⟨W', hW', hV', hB', hP'⟩ := hG10.self hP10
          have hnt := fun W => cneed_true W
          clear hz hmay HG
          go_wp2_with (go_at_call 30; refine (hnt _).mono ?_; rintro e w2 ⟨rfl, rfl⟩)
          clear hG10 hP10
          go_region
          rw [← hW']
          clear hW'
          go_wp2_with fail
          exact get_ends w _ _ _ HO.out rfl rfl rfl hB'.drew ⟨hV'.a, hV'.b, hV'.c⟩ (hP'.fresh (Below.refl _ _).drew) hfit.1 hfit.2
        · have hmay : mayP ⟨a, c, b⟩ = false := by
            cases hm : mayP ⟨a, c, b⟩
            · rfl
            · exact absurd (hz.2 (mayP_iff.1 hm)) hz0
          have HO : Hid (getP s = none) := Lib.hid (by rw [HG.out, hmay]; rfl)
          have hz' : (z == 0) = false := by simpa using hz0
          have hnt := fun W => cneed_false W
          clear hz hmay HG
          go_wp2_with (go_at_call 30; refine (hnt _).mono ?_; rintro e w2 ⟨rfl, rfl⟩)
          exact get_dies w _ _ _ HO.out rfl rfl rfl hG10.B hG10.V

theorem get_some {s r : List UInt8} {p : Prg} (w : World) (hs : s.length ≤ maxLen) (h : getP s = some (p, r)) :
    Calls Tryz.prog 8 #[.string ⟨s.toArray⟩] w fun e w' => ∃ v1 v2 v3, e = .returned (.tuple #[.agg #[v1, v2, v3], .string ⟨r.toArray⟩, .int .i64 0]) ∧ PrgAt w.heap.size w'.heap.size w' v1 v2 v3 p ∧ Fit p ∧ Small p ∧ Below w.heap.size w w' := by
  have := get_prog s w hs
  rw [h] at this
  exact this
theorem get_none {s : List UInt8} (w : World) (hs : s.length ≤ maxLen) (h : getP s = none) :
    Calls Tryz.prog 8 #[.string ⟨s.toArray⟩] w fun e w' => e = .returned (.tuple #[.agg #[.slice none 0 0, .slice none 0 0, .slice none 0 0], .string ⟨#[]⟩, .int .i64 7]) ∧ Below w.heap.size w w' := by
  have := get_prog s w hs
  rw [h] at this
  exact this
/-- What was put is got. -/
theorem getP_put {p : Prg} (h : mayP p = true) (hk : ∀ c ∈ p.codes, ∀ x ∈ c, x.ok) (s : List UInt8) : getP (putS p ++ s) = some (p, s) := by
  unfold getP putS
  rw [if_pos h, prg_back (mayP_iff.1 h) hk (by omega) (by omega)]
  simp [h]
/-- What is got is put as it stood, and may be. -/
theorem getP_back {s r : List UInt8} {p : Prg} (h : getP s = some (p, r)) : mayP p = true ∧ putS p ++ r = s := by
  unfold getP at h
  obtain ⟨⟨q, r'⟩, h1, h2⟩ := Option.bind_eq_some_iff.1 h
  simp only at h2
  split at h2
  · rename_i hm
    cases h2
    refine ⟨hm, ?_⟩
    unfold putS
    rw [if_pos hm]
    exact rdPrg_sound 7 _ _ _ h1
  · cases h2
end Go.Proofs.YtakgcienodigpaaGreat
