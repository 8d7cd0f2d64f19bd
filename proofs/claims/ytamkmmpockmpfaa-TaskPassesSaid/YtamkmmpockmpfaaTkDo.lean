/-
  The walks of task.askOrder, Pick, Took, Use.
-/
import Derived.Test.YtamkmmpockmpfaaTkAsk
namespace Go.Proofs.Ytamkmmpockmpfaa
open Go.RowKit

section
variable {W W' : World} {a : Ta} {k : Tk}
theorem blk_ne {x y : Nat} {cs cs' : Array Value} {t t' : TypeId} {z z' : Nat × Nat} (hx : W.heap[x]? = some (.cells cs t z)) (hy : W.heap[y]? = some (.cells cs' t' z')) (h : t ≠ t') : x ≠ y := fun e => by
  subst e
  rw [hx] at hy
  simp only [Option.some.injEq, Obj.cells.injEq] at hy
  exact h hy.2.1
theorem map_ne {x y : Nat} {cs : Array Value} {t : TypeId} {z : Nat × Nat} {es : Array MapEntry} {c : Nat} (hx : W.heap[x]? = some (.cells cs t z)) (hy : W.heap[y]? = some (.map es c)) : x ≠ y := fun e => by
  subst e
  rw [hx] at hy
  cases hy
/-- The blocks of one task are apart. -/
theorem TkAt.sep (h : TkAt W a k) : a.B ≠ a.M ∧ (∀ o ∈ a.O, o ≠ a.B ∧ o ≠ a.M) ∧ ∀ g, a.S.ownBlock = some g → g ≠ a.B ∧ g ≠ a.M ∧ g ∉ a.O := by
  obtain ⟨es, c, hM⟩ := h.map.obj
  have hO : ∀ o ∈ a.O, ∃ cs, W.heap[o]? = some (.cells cs 110 (0, 0)) := fun o ho => by
    obtain ⟨j, hj⟩ := List.getElem?_of_mem ho
    have hl : j < k.os.length := by rw [← h.len]; exact (List.getElem?_eq_some_iff.1 hj).1
    obtain ⟨vs, h1, _⟩ := (h.ords j o _ hj (List.getElem?_eq_getElem hl)).raw
    exact ⟨_, h1.2⟩
  refine ⟨map_ne h.blk hM, fun o ho => ?_, fun g hg => ?_⟩
  · obtain ⟨cs, hc⟩ := hO o ho
    exact ⟨blk_ne hc h.blk (by decide), map_ne hc hM⟩
  · obtain ⟨cur, hc⟩ := owns_lt h.slots hg
    refine ⟨blk_ne hc h.blk (by decide), map_ne hc hM, fun ho => ?_⟩
    obtain ⟨cs, hc'⟩ := hO g ho
    exact blk_ne hc hc' (by decide) rfl
/-- The task's own cells are turned. -/
theorem TkAt.own (h : TkAt W a k) (hb : But [a.B] W W') {st : Nat} {f : Fra} {u : Int} (hB : Blk W' a.B 67 (tkA st f u a.S a.M)) : TkAt W' a { k with st := st, f := f, used := u } := by
  obtain ⟨h1, h2, h3⟩ := h.sep
  exact ⟨hB, hb.row h.slots (fun g hg => by simpa using (h3 g hg).1), h.map.but hb (by simpa using Ne.symm h1), h.len, fun j o l hj hl => (h.ords j o l hj hl).but (toOd hb) (by simpa using (h2 o (List.mem_of_getElem? hj)).1), h.nd⟩
/-- One order is turned. -/
theorem TkAt.order (h : TkAt W a k) {j o : Nat} {l l' : List Int} (ho : a.O[j]? = some o) (hl : k.os[j]? = some l) (hb : But [o] W W') (hO : Od.Ord W' o l'.length l') : TkAt W' a { k with os := k.os.set j l' } := by
  obtain ⟨h1, h2, h3⟩ := h.sep
  have hm := List.mem_of_getElem? ho
  have hjl : j < k.os.length := (List.getElem?_eq_some_iff.1 hl).1
  refine ⟨(hb.block _ h.blk.lt (by simpa using Ne.symm (h2 o hm).1)).trans h.blk, hb.row h.slots (fun g hg => by simp only [List.mem_singleton]; rintro rfl; exact (h3 g hg).2.2 hm), h.map.but hb (by simpa using Ne.symm (h2 o hm).2), by simp [h.len], fun i q m hi hq => ?_, h.nd⟩
  by_cases e : i = j
  · subst e
    rw [ho] at hi
    obtain rfl := Option.some.inj hi
    simp only [List.getElem?_set_self hjl, Option.some.injEq] at hq
    subst hq
    exact hO
  · simp only [List.getElem?_set_ne (fun x => e (Eq.symm x))] at hq
    refine (h.ords i q m hi hq).but (toOd hb) (by
      simp only [List.mem_singleton]
      rintro rfl
      have := (List.getElem?_inj (List.getElem?_eq_some_iff.1 hi).1 h.nd).1 (hi.trans ho.symm)
      exact e this)
end

theorem but_new {n : Nat} {S : List Nat} {w w' : World} (h : But (n :: S) w w') (hn : w.heap.size ≤ n) : But S w w' :=
  ⟨h.os, h.tape, h.output, h.size, fun k hk hS => h.block k hk (by simp only [List.mem_cons, not_or]; exact ⟨by omega, hS⟩)⟩

set_option maxHeartbeats 800000 in
/-- An order that is there is asked. -/
theorem askOrder_in {A : Ad} {s : Tb} {i j o : Nat} {a : Ta} {k : Tk} (K : Nat) (lb : List Value) (x : Int) (Q : World → Prop) (w : World) (h : Tab w A s) (ha : A.ks[i]? = some a) (hk : s.ts[i]? = some k) (ho : a.O[j]? = some o) (hj : I64b (j : Int))
    (he : ∀ args W, (callFunc K args).run Try.prog W = .ok (.enter K args) W)
    (hcall : ∀ W, But [] w W → Calls Try.prog K ((.pointer (some ⟨o, 0, none⟩) :: lb).toArray) W fun e w' => e = .returned (.int .i64 x) ∧ Q w') :
    Calls Try.prog 19 #[.pointer (some ⟨A.T, 0, none⟩), .int .i64 (i : Int), .int .i64 (j : Int), .func (.func K) #[] lb.toArray] w fun e w' => e = .returned (.int .i64 x) ∧ Q w' := by
  have b0 := Boxed.new w 3 (.int .i64 (j : Int))
  have g0 : But [] w (w.alloc (.cells #[.int .i64 (j : Int)] 3)) := (But.refl _ _).alloc _
  have b1 := Boxed.new (w.alloc (.cells #[.int .i64 (j : Int)] 3)) 71 (.func (.func K) #[] lb.toArray)
  rw [World.size_alloc] at b1
  have g1 : But [] (w.alloc (.cells #[.int .i64 (j : Int)] 3)) ((w.alloc (.cells #[.int .i64 (j : Int)] 3)).alloc (.cells #[.func (.func K) #[] lb.toArray] 71)) := (But.refl _ _).alloc _
  have bx := g1.boxed b0 (by simp)
  have g := g0.next g1
  have hq := ask_in 41 [.pointer (some ⟨w.heap.size, 0, none⟩), .pointer (some ⟨w.heap.size + 1, 0, none⟩)] x Q _ (h.fresh g) ha (enters_of Try.func41 (by kernel_rfl) rfl)
    (site_in K lb x Q _ ((h.fresh g).each i a k ha hk) ho hj bx b1 he (fun m => hcall _ (g.drewN m)))
  clear h hcall b0 g0 b1 g1 bx
  go_enter Try.func19, Try.ntmps19
  go_wp2_with fail
  refine hq.mono ?_
  rintro e w2 ⟨rfl, hQ⟩
  clear hq
  go_wp2_with fail
  go_ret
  exact ⟨rfl, hQ⟩

/-! ### Took -/
theorem took1_any {o x : Nat} {l : List Int} (c : Int) (w : World) (hO : Od.Ord w o l.length l) (hx : Boxed w x 3 (.int .i64 c)) :
    Calls Try.prog 23 #[.pointer (some ⟨o, 0, none⟩), .pointer (some ⟨x, 0, none⟩)] w fun e w' => e = .returned (.int .i64 (Od.tookE l c)) ∧ Od.Ord w' o l.length (Od.tookX l c) ∧ But [o] w w' := by
  have hc := hx.cell
  have ht := Od.took_any c w hO
  clear hx
  go_enter Try.func23, Try.ntmps23
  go_wp2_with fail
  refine ht.mono ?_
  rintro e w1 ⟨rfl, hO1, hb⟩
  clear ht
  go_wp2_with fail
  go_ret
  exact ⟨rfl, hO1, odBut hb⟩
theorem took_of (t : Value) (i j c x : Int) (R : World → Prop) (w : World)
    (hq : Calls Try.prog 19 #[t, .int .i64 i, .int .i64 j, .func (.func 23) #[] #[.pointer (some ⟨w.heap.size, 0, none⟩)]] (w.alloc (.cells #[.int .i64 c] 3)) fun e w' => e = .returned (.int .i64 x) ∧ R w') :
    Calls Try.prog 10 #[t, .int .i64 i, .int .i64 j, .int .i64 c] w fun e w' => e = .returned (.int .i64 x) ∧ R w' := by
  go_enter Try.func10, Try.ntmps10
  go_wp2_with fail
  refine hq.mono ?_
  rintro e w1 ⟨rfl, hR⟩
  clear hq
  go_wp2_with fail
  go_ret
  exact ⟨rfl, hR⟩
theorem took_in {A : Ad} {s : Tb} {i j o : Nat} {a : Ta} {k : Tk} {l : List Int} (c : Int) (w : World) (h : Tab w A s) (ha : A.ks[i]? = some a) (hk : s.ts[i]? = some k) (ho : a.O[j]? = some o) (hl : k.os[j]? = some l) (hj : I64b (j : Int)) :
    Calls Try.prog 10 #[.pointer (some ⟨A.T, 0, none⟩), .int .i64 (i : Int), .int .i64 (j : Int), .int .i64 c] w fun e w' => e = .returned (.int .i64 (Od.tookE l c)) ∧ Tab w' A { s with ts := s.ts.set i { k with os := k.os.set j (Od.tookX l c) } } ∧ Turn w w' A A := by
  have b0 := Boxed.new w 3 (.int .i64 c)
  have g : But [] w (w.alloc (.cells #[.int .i64 c] 3)) := (But.refl _ _).alloc _
  have h0 := h.fresh g
  have hK := h0.each i a k ha hk
  refine took_of _ _ _ _ _ _ w (askOrder_in 23 [.pointer (some ⟨w.heap.size, 0, none⟩)] _ _ _ h0 ha hk ho hj (enters_of Try.func23 (by kernel_rfl) rfl) (fun W hW => ?_))
  have hKW := hK.but hW (by simp)
  refine (took1_any c W (hKW.ords j o l ho hl) (hW.boxed b0 (by simp))).mono ?_
  rintro e w' ⟨rfl, hO, hb⟩
  have hlen : (Od.tookX l c).length = l.length := hO.len
  have hT := ((h0.fresh hW)).turn ha hk hb (fun x hx => by rw [List.mem_singleton.1 hx]; exact Ta.foot_O ho) (hKW.order ho hl hb (by rw [hlen]; exact hO)) rfl (fun x hx => .inl hx)
  rw [show ({ A with ks := A.ks.set i a } : Ad) = A by rw [set_same ha]] at hT
  exact ⟨rfl, hT.1, (Turn.refl (g.next hW)).trans hT.2⟩

/-! ### Pick -/
theorem pick1_any {o r x y rd : Nat} {l : List Int} (w : World) (hO : Od.Ord w o l.length l) (hrd : rd < 18446744073709551616) (hr : Boxed w r 45 (.int .u64 (rd : Int))) (hx : Boxed w x 3 (.int .i64 0)) (hy : Boxed w y 4 (.bool false)) (hxy : x ≠ y) :
    Calls Try.prog 20 #[.pointer (some ⟨o, 0, none⟩), .pointer (some ⟨r, 0, none⟩), .pointer (some ⟨x, 0, none⟩), .pointer (some ⟨y, 0, none⟩)] w fun e w' => e = .returned (.int .i64 0) ∧ Boxed w' x 3 (.int .i64 (Od.pickV rd l)) ∧ Boxed w' y 4 (.bool (Od.pickB rd l)) ∧ But [x, y] w w' := by
  have hc := hr.cell
  have hp := Od.pick_any w hrd hO
  clear hr
  go_enter Try.func20, Try.ntmps20
  go_wp2_with fail
  refine hp.mono ?_
  rintro e w1 ⟨rfl, hb⟩
  have hb1 : But [] w w1 := But.of_below hb []
  have hx1 := hb1.boxed hx (by simp)
  have hy1 := hb1.boxed hy (by simp)
  have cx := hx1.cell
  have fx := hx1.frozen
  have cy := hy1.cell
  have fy := hy1.frozen
  have hyx : y ≠ x := Ne.symm hxy
  clear hp hc hb
  go_wp2_with fail
  go_ret
  refine ⟨rfl, ?_, ?_, ((hb1.mono (by simp)).set (.inl (by simp)) _).set (.inl (by simp)) _⟩
  · exact ((But.refl [y] _).set (p := ⟨y, 0, none⟩) (.inl (by simp)) _).boxed (hx1.set _) (by simpa using hxy)
  · exact (((But.refl [x] _).set (p := ⟨x, 0, none⟩) (.inl (by simp)) _).boxed hy1 (by simpa using hyx)).set _
theorem pick_of (t : Value) (i j : Int) (rd : Nat) (x : Int) (b : Bool) (z : Int) (R : World → Prop) (w : World)
    (hq : Calls Try.prog 19 #[t, .int .i64 i, .int .i64 j, .func (.func 20) #[] #[.pointer (some ⟨w.heap.size, 0, none⟩), .pointer (some ⟨w.heap.size + 1, 0, none⟩), .pointer (some ⟨w.heap.size + 1 + 1, 0, none⟩)]]
      (((w.alloc (.cells #[.int .u64 (rd : Int)] 45)).alloc (.cells #[.int .i64 0] 3)).alloc (.cells #[.bool false] 4)) fun e w' => e = .returned (.int .i64 z) ∧ Boxed w' (w.heap.size + 1) 3 (.int .i64 x) ∧ Boxed w' (w.heap.size + 1 + 1) 4 (.bool b) ∧ R w') :
    Calls Try.prog 8 #[t, .int .i64 i, .int .i64 j, .int .u64 (rd : Int)] w fun e w' => e = .returned (.tuple #[.int .i64 x, .bool b]) ∧ ∃ w1, R w1 ∧ But [w.heap.size + 1, w.heap.size + 1 + 1] w1 w' := by
  go_enter Try.func8, Try.ntmps8
  go_wp2_with fail
  refine hq.mono ?_
  rintro e w1 ⟨rfl, hx, hy, hR⟩
  have cx := hx.cell
  have fx := hx.frozen
  have cy := hy.cell
  have fy := hy.frozen
  have hyx : w.heap.size + 1 + 1 ≠ w.heap.size + 1 := by omega
  have hxy : w.heap.size + 1 ≠ w.heap.size + 1 + 1 := by omega
  clear hq
  go_wp2_with fail
  go_region
  all_goals go_wp2_with fail
  have hb2 : But [w.heap.size + 1, w.heap.size + 1 + 1] w1 ((w1.setCell ⟨w.heap.size + 1, 0, none⟩ (.int .i64 x)).setCell ⟨w.heap.size + 1 + 1, 0, none⟩ (.bool b)).drew := (((But.refl _ w1).set (p := ⟨w.heap.size + 1, 0, none⟩) (.inl (by simp)) _).set (p := ⟨w.heap.size + 1 + 1, 0, none⟩) (.inl (by simp)) _).drew
  have hx2 : Boxed ((w1.setCell ⟨w.heap.size + 1, 0, none⟩ (.int .i64 x)).setCell ⟨w.heap.size + 1 + 1, 0, none⟩ (.bool b)).drew (w.heap.size + 1) 3 (.int .i64 x) := (((But.refl [w.heap.size + 1 + 1] _).set (p := ⟨w.heap.size + 1 + 1, 0, none⟩) (.inl (by simp)) _).drew).boxed (hx.set _) (by simp)
  have hy2 : Boxed ((w1.setCell ⟨w.heap.size + 1, 0, none⟩ (.int .i64 x)).setCell ⟨w.heap.size + 1 + 1, 0, none⟩ (.bool b)).drew (w.heap.size + 1 + 1) 4 (.bool b) := (((But.refl [w.heap.size + 1] w1).set (p := ⟨w.heap.size + 1, 0, none⟩) (.inl (by simp)) _).boxed hy (by simp)).set (.bool b)
  generalize ((w1.setCell ⟨w.heap.size + 1, 0, none⟩ (.int .i64 x)).setCell ⟨w.heap.size + 1 + 1, 0, none⟩ (.bool b)).drew = w2 at hb2 hx2 hy2 ⊢
  have zx := hx2.cell
  have zy := hy2.cell
  refine bodyPost_ret (v := .tuple #[.int .i64 x, .bool b]) (by simp [results, Try.f8, go_sem, zx, zy]) rfl ⟨rfl, w1, hR, hb2⟩
theorem pick_in {A : Ad} {s : Tb} {i j o : Nat} {a : Ta} {k : Tk} {l : List Int} (rd : Nat) (w : World) (h : Tab w A s) (ha : A.ks[i]? = some a) (hk : s.ts[i]? = some k) (ho : a.O[j]? = some o) (hl : k.os[j]? = some l) (hj : I64b (j : Int)) (hrd : rd < 18446744073709551616) :
    Calls Try.prog 8 #[.pointer (some ⟨A.T, 0, none⟩), .int .i64 (i : Int), .int .i64 (j : Int), .int .u64 (rd : Int)] w fun e w' => e = .returned (.tuple #[.int .i64 (Od.pickV rd l), .bool (Od.pickB rd l)]) ∧ But [] w w' := by
  have b0 := Boxed.new w 45 (.int .u64 (rd : Int))
  have g0 : But [] w (w.alloc (.cells #[.int .u64 (rd : Int)] 45)) := (But.refl _ _).alloc _
  obtain ⟨wa, hwa⟩ : ∃ wa, wa = w.alloc (.cells #[.int .u64 (rd : Int)] 45) := ⟨_, rfl⟩
  have sa : wa.heap.size = w.heap.size + 1 := by rw [hwa]; exact World.size_alloc _ _
  rw [← hwa] at b0 g0
  have b1 := Boxed.new wa 3 (.int .i64 0)
  have g1 : But [] wa (wa.alloc (.cells #[.int .i64 0] 3)) := (But.refl _ _).alloc _
  obtain ⟨wb, hwb⟩ : ∃ wb, wb = wa.alloc (.cells #[.int .i64 0] 3) := ⟨_, rfl⟩
  have sb : wb.heap.size = w.heap.size + 1 + 1 := by rw [hwb, World.size_alloc, sa]
  rw [← hwb] at b1 g1
  have b2 := Boxed.new wb 4 (.bool false)
  have g2 : But [] wb (wb.alloc (.cells #[.bool false] 4)) := (But.refl _ _).alloc _
  rw [sa] at b1
  rw [sb] at b2
  have g := (g0.next g1).next g2
  have x0 := (g1.next g2).boxed b0 (by simp)
  have x1 := g2.boxed b1 (by simp)
  have h0 := h.fresh g
  have hK := h0.each i a k ha hk
  refine (pick_of _ _ _ rd (Od.pickV rd l) (Od.pickB rd l) 0 (fun w1 => But [w.heap.size + 1, w.heap.size + 1 + 1] w w1) w ?_).mono ?_
  · rw [← hwa, ← hwb]
    refine askOrder_in 20 [.pointer (some ⟨w.heap.size, 0, none⟩), .pointer (some ⟨w.heap.size + 1, 0, none⟩), .pointer (some ⟨w.heap.size + 1 + 1, 0, none⟩)] _ _ _ h0 ha hk ho hj (enters_of Try.func20 (by kernel_rfl) rfl) (fun W hW => ?_)
    refine (pick1_any W ((hK.but hW (by simp)).ords j o l ho hl) hrd (hW.boxed x0 (by simp)) (hW.boxed x1 (by simp)) (hW.boxed b2 (by simp)) (by omega)).mono ?_
    rintro e w' ⟨rfl, q1, q2, q3⟩
    exact ⟨rfl, q1, q2, ((g.next hW).mono (by simp)).next q3⟩
  · rintro e w' ⟨rfl, w1, h1, h2⟩
    exact ⟨rfl, but_new (but_new (n := w.heap.size + 1) (h1.next h2) (by omega)) (by omega)⟩

/-! ### Use -/
theorem use1_any {a : Ta} {k : Tk} {x : Nat} (w : World) (h : TkAt w a k) (hx : Boxed w x 3 (.int .i64 0)) (hxF : x ∉ a.foot) :
    Calls Try.prog 26 #[.pointer (some ⟨a.B, 0, none⟩), .pointer (some ⟨x, 0, none⟩)] w fun e w' => e = .returned (.int .i64 0) ∧ TkAt w' a { k with used := IntKind.i64.wrap (k.used + 1) } ∧ Boxed w' x 3 (.int .i64 (IntKind.i64.wrap (k.used + 1))) ∧ But [a.B, x] w w' := by
  obtain ⟨-, c11, -, -⟩ := tk_cells h.blk
  have f11 := h.blk.frozen 11
  have hB2 := h.blk.set 11 (.int .i64 (IntKind.i64.wrap (k.used + 1)))
  have hT := h.own ((But.refl [a.B] w).set (p := ⟨a.B, 11, none⟩) (.inl (by simp)) (.int .i64 (IntKind.i64.wrap (k.used + 1)))) (st := k.st) (f := k.f) (u := IntKind.i64.wrap (k.used + 1)) hB2
  have cx := hx.cell
  have fx := hx.frozen
  have hBx : a.B ≠ x := fun e => hxF (e ▸ a.foot_B)
  have hxB : x ≠ a.B := Ne.symm hBx
  have HT := Lib.hid hT
  have HX := Lib.hid hx
  have HF := Lib.hid hxF
  obtain ⟨u, hu⟩ : ∃ u, u = IntKind.i64.wrap (k.used + 1) := ⟨_, rfl⟩
  rw [← hu] at HT ⊢
  have hu' := hu.symm
  clear h hT hB2 hx hu hxF
  go_enter Try.func26, Try.ntmps26
  go_wp2_with fail
  go_ret
  refine ⟨rfl, HT.out.but ((But.refl [x] _).set (p := ⟨x, 0, none⟩) (.inl (by simp)) _) (fun y hy => by simp only [List.mem_singleton]; rintro rfl; exact HF.out hy), ?_, ((But.refl [a.B, x] w).set (p := ⟨a.B, 11, none⟩) (.inl (by simp)) _).set (p := ⟨x, 0, none⟩) (.inl (by simp)) _⟩
  exact (((But.refl [a.B] w).set (p := ⟨a.B, 11, none⟩) (.inl (by simp)) _).boxed HX.out (by simpa using hxB)).set _
theorem use_of (t : Value) (i x z : Int) (R : World → Prop) (w : World)
    (hq : Calls Try.prog 25 #[t, .int .i64 i, .func (.func 26) #[] #[.pointer (some ⟨w.heap.size, 0, none⟩)]] (w.alloc (.cells #[.int .i64 0] 3)) fun e w' => e = .returned (.int .i64 z) ∧ Boxed w' w.heap.size 3 (.int .i64 x) ∧ R w') :
    Calls Try.prog 12 #[t, .int .i64 i] w fun e w' => e = .returned (.tuple #[.int .i64 x, .int .i64 z]) ∧ ∃ w1, R w1 ∧ But [w.heap.size] w1 w' := by
  go_enter Try.func12, Try.ntmps12
  go_wp2_with fail
  refine hq.mono ?_
  rintro e w1 ⟨rfl, hx, hR⟩
  have cx := hx.cell
  have fx := hx.frozen
  clear hq
  go_wp2_with fail
  have hb2 : But [w.heap.size] w1 (w1.setCell ⟨w.heap.size, 0, none⟩ (.int .i64 x)) := (But.refl _ w1).set (p := ⟨w.heap.size, 0, none⟩) (.inl (by simp)) _
  have hx2 := hx.set (.int .i64 x)
  generalize w1.setCell ⟨w.heap.size, 0, none⟩ (.int .i64 x) = w2 at hb2 hx2 ⊢
  have zx := hx2.cell
  refine bodyPost_ret (v := .tuple #[.int .i64 x, .int .i64 z]) (by simp [results, Try.f12, go_sem, zx]) rfl ⟨rfl, w1, hR, hb2⟩
theorem use_in {A : Ad} {s : Tb} {i : Nat} {a : Ta} {k : Tk} (w : World) (h : Tab w A s) (ha : A.ks[i]? = some a) (hk : s.ts[i]? = some k) :
    Calls Try.prog 12 #[.pointer (some ⟨A.T, 0, none⟩), .int .i64 (i : Int)] w fun e w' => e = .returned (.tuple #[.int .i64 (IntKind.i64.wrap (k.used + 1)), .int .i64 0]) ∧ Tab w' A { s with ts := s.ts.set i { k with used := IntKind.i64.wrap (k.used + 1) } } ∧ Turn w w' A A := by
  have b0 := Boxed.new w 3 (.int .i64 0)
  have g : But [] w (w.alloc (.cells #[.int .i64 0] 3)) := (But.refl _ _).alloc _
  have hK := h.each i a k ha hk
  have hF : w.heap.size ∉ a.foot := fun hx => by have := hK.lt hx; omega
  refine (use_of _ _ (IntKind.i64.wrap (k.used + 1)) 0 (fun w1 => TkAt w1 a { k with used := IntKind.i64.wrap (k.used + 1) } ∧ But [w.heap.size, a.B] w w1) w ?_).mono ?_
  · refine ask_in 26 [.pointer (some ⟨w.heap.size, 0, none⟩)] _ _ _ (h.fresh g) ha (enters_of Try.func26 (by kernel_rfl) rfl) ?_
    refine (use1_any _ (hK.but g (by simp)) b0 hF).mono ?_
    rintro e w' ⟨rfl, q1, q2, q3⟩
    exact ⟨rfl, q2, q1, (g.mono (by simp)).next (q3.mono (fun y hy => by simp only [List.mem_cons, List.not_mem_nil, or_false] at hy ⊢; exact hy.symm))⟩
  · rintro e w' ⟨rfl, w1, ⟨h1, h2⟩, h3⟩
    have hb : But [a.B] w w' := but_new (h2.next (h3.mono (by simp))) (Nat.le_refl _)
    have hT := h.turn ha hk hb (fun x hx => by rw [List.mem_singleton.1 hx]; exact a.foot_B) (h1.but h3 (fun y hy => by simp only [List.mem_singleton]; rintro rfl; exact hF hy)) rfl (fun x hx => .inl hx)
    rw [show ({ A with ks := A.ks.set i a } : Ad) = A by rw [set_same ha]] at hT
    exact ⟨rfl, hT⟩
end Go.Proofs.Ytamkmmpockmpfaa
