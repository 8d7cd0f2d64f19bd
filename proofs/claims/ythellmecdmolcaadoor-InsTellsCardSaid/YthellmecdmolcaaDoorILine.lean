/-
  The walk of Line: the kind, and a loop over what an instruction names that appends to a row of bytes.
-/
import Derived.Laws.IdiomStrings
import Derived.Test.YthellmecdmolcaaDoorIApp
namespace Go.Proofs.YthellmecdmolcaaDoor
open Go.RowKit Go.Shelf

attribute [local go_sem] Oper.semAt_some

/-- '[]byte(s)'. -/
theorem conv_to (W : World) (base : Nat) (hb : base ≤ W.heap.size) (l : List UInt8) : ∃ v W', (convert 9 41 (.string ⟨l.toArray⟩)).run Tryd.prog W = .ok v W' ∧ BRow W' base v l ∧ But [] W W' := by
  refine ⟨_, _, run_bytes_of_string W 9 41 5 ⟨l.toArray⟩ Tryd.underlying9 Tryd.underlying41 Tryd.underlying5, ?_, (But.refl [] W).drew.alloc _⟩
  have hge := grownCap_ge W l.length 0 5
  have hs : (bytesRow ⟨l.toArray⟩ (grownCap W (⟨l.toArray⟩ : ByteArray).size 0 5)).size = grownCap W l.length 0 5 := by
    simp [bytesRow, size_l]
    omega
  refine ⟨W.heap.size, _, _, _, _, rfl, hb, World.alloc_heap_new W.drew _, .inl ?_, hge, ?_, fun j u hj => ?_⟩
  · rw [hs]; exact Nat.le_refl _
  · rw [hs]; exact Nat.le_refl _
  · have hjl : j < l.length := by have := (List.getElem?_eq_some_iff.1 hj).1; rwa [bc_len] at this
    rw [bytesRow, Array.getElem?_append_left (by simpa using hjl)]
    simpa [Lib.byteCells] using hj
/-- 'string(b)'. -/
theorem conv_back (W : World) {base : Nat} {v : Value} {l : List UInt8} (h : BRow W base v l) : (convert 41 9 v).run Tryd.prog W = .ok (.string ⟨l.toArray⟩) W := by
  obtain ⟨g, cap, rfl, hc⟩ := h.cells
  refine run_convert_bytes_back W 41 9 5 ⟨g, 0, none⟩ cap l Tryd.underlying41 Tryd.underlying5 Tryd.underlying9 fun j hj => ?_
  rw [Lib.add_plain, Nat.zero_add]
  exact hc j _ (by simp [Lib.byteCells, hj])

section
variable {F : Fence} {n : Nat} {P : Program} (w : World) {ops : Array Oper} {rest : List Oper} {o : Oper} {a : Act} {Q : Exit → Act → World → Prop}
/-- append, at the operation, by its run, in a round. -/
theorem wpListIn_app (hg : o.guard = none) (s x : Operand) (t tx : TypeId) (hop : o.op = Op.call { callee := Callee.builtin Builtin.append, args := #[s, x], argTypes := #[t, tx] }) (v y v' : Value) (w' : World) (hs : a.eval s = v) (hx : a.eval x = y)
    (hrun : ∀ ty, (Builtin.append_ #[t, tx] ty #[v, y]).run P w = .ok v' w') (hK : wpListIn F n P ops Q rest (a.put o.dst v') w') :
    wpListIn F n P ops Q (o :: rest) a w := by
  refine wpListIn_plain hg fun K hK' => ?_
  unfold Oper.wpIn
  refine ⟨?_, ?_⟩
  · simp [Oper.about, hop, resolve, Target.leads, Sem.run_pure]
  · rw [Oper.semAt_plain F _ _ (by rw [hop]; intro c hc'; cases hc')]
    simp [execOp, hop, resolve, invoke, builtin, hs, hx, hrun o.type, Result.andThen]
    exact hK' _ _ hK
end

theorem Bys.keepK {W W' : World} {base n : Nat} {wd : ByteArray} {sl : Value} {x : In} (h : Bys base W W') (hN : Nmd W n wd sl x) : KeepK n W W' :=
  ⟨h.same hN.kind (by decide), h.same hN.ins (by decide), h.same hN.tell (by decide), fun _ _ _ hk => h.same hk (by decide)⟩
theorem Bys.keepsFrom {W W' : World} {base B : Nat} (h : Bys base W W') : KeepsFrom B W W' :=
  ⟨h.size, fun k o _ hk ho => (h.keep k (Array.getElem?_eq_some_iff.1 hk).1 (.inr fun cs z e => by
    rw [hk] at e
    obtain rfl := Option.some.inj e
    cases ho)).trans hk⟩
theorem line_abides {β : Type} (L base : Nat) (f : β → List UInt8) (m : Nat) : OwnFrom m (fun (s : β) W => ∃ v, Boxed W L 41 v ∧ BRow W base v (f s)) :=
  Own.from (I := fun (s : β) (W : World) => ∃ v, Boxed W L 41 v ∧ BRow W base v (f s)) (fun _ _ _ _ ⟨v, h1, h2⟩ hg hr => ⟨v, (cells_kept hg hr h1).trans h1, h2.keep fun _ _ _ hk => cells_kept hg hr hk⟩) m

theorem line_end (w W : World) (D : Nat) (T : Array Value) (x : In) (s : ByteArray) (hs : s = ⟨(lineV x).toArray⟩) (h2 : T[2]?.getD undef = .string s) (h3 : T[3]?.getD undef = .int .i64 (lineE x)) (hB : Below w.heap.size w W) (hw : w.heap.size ≤ D) (hK : W.heap[D]? = some (.deferred (some []))) :
    bodyPostM Fence.wide 4 Tryd.prog Tryd.f7 (fun e w' => e = .returned (.tuple #[.string ⟨(lineV x).toArray⟩, .int .i64 (lineE x)]) ∧ Below w.heap.size w w') .ret
      { tmps := T, defers := [{ target := Target.collected D, args := #[] }] } W := by
  refine ⟨by simp, .inl ⟨_, _, rfl, run_takeDeferred hK, ?_⟩⟩
  refine ⟨.tuple #[.string s, .int .i64 (lineE x)], ?_, by rw [hs], hB.trans (belowK_b (w := w) (Nat.le_refl _) _ D _ _ hw hK rfl rfl)⟩
  simp [results, Tryd.f7, go_sem, h2, h3]

set_option maxRecDepth 100000 in
set_option maxHeartbeats 1600000 in
theorem line_any (x : In) (hx : x.ok) (w : World) (hv : Vars w) :
    Calls Tryd.prog 7 #[x.val] w fun e w' => e = .returned (.tuple #[.string ⟨(lineV x).toArray⟩, .int .i64 (lineE x)]) ∧ Below w.heap.size w w' := by
  have hbox := inAt_new w x
  have hb0 : Below w.heap.size w (w.alloc (.cells #[.int .u8 (x.o : Int), .int .i64 x.a, .int .i64 x.b, .int .i64 x.c, .int .i64 x.k] 23)) := (Below.refl _ w).alloc (Nat.le_refl _) _
  have hk := kindOf_any x hx (w.alloc (.cells #[.int .u8 (x.o : Int), .int .i64 x.a, .int .i64 x.b, .int .i64 x.c, .int .i64 x.k] 23))
  unfold In.val at hk ⊢
  refine (callsIn_wide (n := 4)).1 ?_
  refine callsIn_of_wp_marks Tryd.func7 rfl trivial ?_ rfl
  simp only [Tryd.ntmps7, List.size_toArray, List.length_cons, List.length_nil, Nat.reduceAdd, Nat.reduceSub, Array.replicate_succ, Array.replicate_zero, List.push_toArray, List.append_toArray, List.nil_append, List.cons_append]
  refine wpIn_wide.2 ?_
  go_wp2_with fail
  refine hk.mono ?_
  rintro e wk ⟨kv, rfl, ⟨sl, rfl, hrow⟩, hbk⟩
  have hbox1 := hbox.of_block (hbk.block _ hbox.lt)
  have hbwk := below_next hb0 hbk (Nat.le_refl _)
  clear hb0 hbk hk hbox
  have hsl : ∃ a n c, sl = .slice a n c := by
    rcases hrow with ⟨_, rfl⟩ | ⟨b, rfl, _⟩ <;> exact ⟨_, _, _, rfl⟩
  obtain ⟨ka, kn, kc, rfl⟩ := hsl
  cases hok : okI x with
  | false =>
    have HV : Hid (lineV x = [] ∧ lineE x = 2) := Lib.hid ⟨by unfold lineV; rw [hok]; rfl, by unfold lineE; rw [hok]; rfl⟩
    have hend : ∀ o, Below w.heap.size w (wk.alloc o) := fun o => hbwk.alloc hbwk.size o
    clear hok
    go_wp2_with fail
    refine ⟨.tuple #[.string ⟨#[]⟩, .int .i64 2], ?_, by rw [HV.out.1, HV.out.2], hend _⟩
    simp [results, Tryd.f7, go_sem]
  | true =>
    have HV : Hid (lineV x = lineL x ∧ lineE x = 0) := Lib.hid ⟨by unfold lineV; rw [hok]; rfl, by unfold lineE; rw [hok]; rfl⟩
    clear hok
    obtain ⟨W2, hW2⟩ : ∃ W2, W2 = wk.alloc (.cells #[.string ⟨(wordL x.o).toArray⟩, .slice ka kn kc] 38) := ⟨_, rfl⟩
    have hb2 : But [] wk W2 := by rw [hW2]; exact (But.refl [] wk).alloc _
    obtain ⟨v3, W3, hcv, hrow3, hb3⟩ := conv_to W2 w.heap.size (by have := hb2.size; have := hbwk.size; omega) (wordL x.o)
    have hkd := two_new wk 38 (.string ⟨(wordL x.o).toArray⟩) (.slice ka kn kc)
    rw [← hW2] at hkd
    obtain ⟨W4, hW4⟩ : ∃ W4, W4 = W3.alloc (.cells #[v3] 41) := ⟨_, rfl⟩
    have hb4 : But [] W3 W4 := by rw [hW4]; exact (But.refl [] W3).alloc _
    have hln : Boxed W4 W3.heap.size 41 v3 := by rw [hW4]; exact Boxed.new W3 _ _
    have hrow4 := hrow3.fresh hb4
    have hbk4 : But [] wk W4 := (hb2.next hb3).next hb4
    have hkd4 := hkd.of_block ((hb3.next hb4).block _ hkd.lt (by simp))
    have hbox4 := hbox1.of_block (hbk4.block _ hbox1.lt (by simp))
    have hnm := named_any ⟨(wordL x.o).toArray⟩ ka kn kc x W4 (hrow.fresh hbk4)
    have hB4 := below_next hbwk (hbk4.below (Nat.le_refl _) (by simp)) (Nat.le_refl _)
    have hL4 : W3.heap.size < W4.heap.size := hln.lt
    have hLw : w.heap.size ≤ W3.heap.size := by have := hb3.size; have := hb2.size; have := hbwk.size; omega
    unfold In.val at hnm
    have k0 := hkd4.c0
    have k1 := hkd4.c1
    have x0 := hbox4.c0
    have x1 := hbox4.c1
    have x2 := hbox4.c2
    have x3 := hbox4.c3
    have x4 := hbox4.c4
    obtain ⟨va, vn, hv3⟩ : ∃ a c, v3 = .slice a (wordL x.o).length c := hrow3.slice
    rw [hW2] at hcv
    rw [hW4] at k0 k1 x0 x1 x2 x3 x4 hnm
    subst hv3
    go_wp2_with fail
    refine hnm.mono ?_
    rw [← hW4]
    rintro e Wn ⟨rfl, hN, hszn, hbn⟩
    have hln5 := (hbn.block _ hL4 (by simp)).trans hln
    have hrow5 := hrow4.fresh hbn
    have hB5 := hB4.trans (hbn.below hB4.size (by simp))
    have hn3 := hN.lt
    have H4 := Lib.hid hW4
    have HZ := Lib.hid hszn
    have hwn : w.heap.size ≤ Wn.heap.size := by omega
    obtain ⟨L, hL⟩ : ∃ L, L = W3.heap.size := ⟨_, rfl⟩
    rw [← hL] at hln5 hLw hL4
    have HL := Lib.hid hL
    clear hL hW4 hszn hW2 hb2 hb3 hb4 hbk4 hkd4 hbox4 hcv k0 k1 x0 x1 x2 x3 x4 hnm hrow4 hrow3 hln hkd hbox1 hbwk hB4 hbn hrow
    go_wp2_with fail
    rw [← HL.out]
    refine (wpIn_wide (n := 4)).1 ?_
    refine wpIn_rangeFunc_ownG rfl (by omega) (gf := 35) (lb := #[.pointer (some ⟨W4.heap.size, 0, none⟩), .pointer (some ⟨W4.heap.size + 3, 0, none⟩)]) rfl trivial (enters_of Tryd.func35 (by kernel_rfl) rfl)
      (iter_named hx hN) (fun h k => KeepK.trans h k) (fun W l o o' hl ho hc _ => keepK_putObj W l o o' hn3 hl ho hc) (Below.refl _ _) (fun _ => rfl)
      (fun pre W => (∃ v, Boxed W L 41 v ∧ BRow W w.heap.size v ((pre.map (·.1)).foldl lineStep (wordL x.o))) ∧ Below w.heap.size w W ∧ Nmd W W4.heap.size ⟨(wordL x.o).toArray⟩ (.slice ka kn kc) x)
      (fun _ _ _ => False)
      (OwnFrom.and (line_abides L w.heap.size (fun pre : List Nv => (pre.map (·.1)).foldl lineStep (wordL x.o)) _) (OwnFrom.and (ownFrom_below (Nat.le_refl _) hwn) (nmd_abides _ _ _ _ _)))
      (fun _ _ _ _ _ hs _ _ => hs)
      ⟨⟨_, hln5, hrow5⟩, hB5, hN⟩ ?a1 ?assign ?body ?done ?stop
    case assign =>
      intro l p W K hK
      gi_wp2
      exact hK
    case body =>
      rintro l pre p W ⟨⟨v, hl, hr⟩, hB, hN⟩ hlt
      obtain ⟨s, hs⟩ : ∃ s, s = (pre.map (·.1)).foldl lineStep (wordL x.o) := ⟨_, rfl⟩
      have hsl : s.length ≤ 72 := by
        have h1 := line_len (s := wordL x.o) (ps := pre.map (·.1)) (fun q hq => by obtain ⟨y, _, rfl⟩ := List.mem_map.1 hq; exact y.2.2)
        have h2 := wordL_len x.o
        rw [List.length_map] at h1
        rw [hs]; omega
      have HY : Hid (((pre ++ [p]).map (·.1)).foldl lineStep (wordL x.o) = (s ++ [32]) ++ Lib.itoa p.1.2) := Lib.hid (by rw [hs]; simp [lineStep])
      rw [← hs] at hr
      clear hs
      have hWs : w.heap.size ≤ W.heap.size := hB.size
      have ha := hr.fresh ((But.refl [] W).alloc (.cells #[.int .u8 32] 5))
      obtain ⟨v1, w1, hrun, hrow1, hby⟩ := bapp ha (by simp; omega) 41 (.slice (some ⟨W.heap.size, 0, none⟩) 1 1) [32] (Src.ofSlice _ Tryd.underlying41 ⟨W.heap.size, 0, none⟩ 1 1 _ rfl (by intro j u' hj; match j, hj with | 0, hj => simp [Lib.byteCells] at hj; subst hj; simp [Addr.add]) (bc_one _)) (by simp; omega)
      have hby1 := (Bys.of_but (base := w.heap.size) ((But.refl [] W).alloc (.cells #[.int .u8 32] 5))).trans hby
      have hcall := appInt_any p.2.2 w1 hrow1 (by have := hby1.size; omega) (by simp; omega) (hv.tabBelow (hB.trans (hby1.below hWs)))
      obtain ⟨va0, vc0, rfl⟩ := hr.slice
      obtain ⟨va1, vc1, rfl⟩ := hrow1.slice
      obtain ⟨n1, hn1⟩ : ∃ n1, n1 = (s ++ [32]).length := ⟨_, rfl⟩
      rw [← hn1] at hcall hrun
      obtain ⟨m2, hm2⟩ : ∃ m2, m2 = (s ++ [32]) ++ Lib.itoa p.1.2 := ⟨_, rfl⟩
      rw [← hm2] at hcall HY
      obtain ⟨n2, hn2⟩ : ∃ n2, n2 = m2.length := ⟨_, rfl⟩
      have hcall : Calls Tryd.prog 17 #[.slice va1 n1 vc1, .int .i64 p.1.2, .int .i64 10] w1 fun e w' => ∃ a c, e = .returned (.slice a n2 c) ∧ BRow w' w.heap.size (.slice a n2 c) m2 ∧ Bys w.heap.size w1 w' :=
        hcall.mono fun e w' ⟨v', h1, h2, h3⟩ => by
          obtain ⟨a, c, rfl⟩ := h2.slice
          rw [← hn2] at h1 h2
          exact ⟨a, c, h1, h2, h3⟩
      clear hm2 hn2
      have hc := hl.cell
      clear hn1 ha hby hrow1
      gi_wp2_with (first
        | (gi_at_builtin; refine wpListIn_app _ rfl _ _ _ _ rfl _ _ _ w1 rfl rfl hrun ?_; go_frame)
        | (refine ⟨trivial, ?_⟩; gi_at_call 17; refine (callsIn_wide.2 hcall).mono ?_; rintro e w2 ⟨va2, vc2, rfl, hrow2, hby2⟩; have hl2 := (hby2.same ((hby1.same hl (by decide)).trans hl) (by decide)).trans ((hby1.same hl (by decide)).trans hl); have hc2 := Boxed.cell hl2; have hf2 := Boxed.frozen hl2))
      have hb3 : But [L] w2 (w2.setCell ⟨L, 0, none⟩ (.slice va2 n2 vc2)) := (But.refl [L] w2).set (p := ⟨L, 0, none⟩) (.inl (by simp)) _
      have hby3 := hby1.trans hby2
      have hk3 := hby3.keepK hN
      have hN3 := hN.keep hk3
      have hnm := not_in_type hl2 (by decide)
      have hrow3 := hrow2.keep (W' := w2.setCell ⟨L, 0, none⟩ (.slice va2 n2 vc2)) (fun k cs z hk => hb3.block k (Array.getElem?_eq_some_iff.1 hk).1 (by
        simp only [List.mem_singleton]
        rintro rfl
        rw [hl2] at hk
        simp only [Option.some.injEq, Obj.cells.injEq] at hk
        exact absurd hk.2.1 (by decide)))
      refine ⟨hby3.keepsFrom.trans (keepsFrom_but hb3 (by simp; omega)), hk3.trans (hN3.keeps hb3 (by simp; omega) (by simp; omega) (by simp; omega) hnm), ⟨_, Boxed.set _ hl2, by rw [HY.out]; exact hrow3⟩, (hB.trans (hby3.below hWs)).trans (hb3.below (by have := hby3.size; omega) (by simp; omega)), hN3.but hb3 (by simp; omega) (by simp; omega) (by simp; omega) hnm⟩
    case done =>
      rintro D xs W hD hxs ⟨⟨v, hl, hr⟩, hB, hN⟩ hK
      have HX : Hid ((xs.map (·.1)).foldl lineStep (wordL x.o) = lineL x) := Lib.hid (by rw [show xs = _ from hxs, nvs_map]; rfl)
      rw [HX.out] at hr
      clear hxs
      have hc := hl.cell
      have hcb := conv_back W hr
      obtain ⟨va0, vc0, rfl⟩ := hr.slice
      obtain ⟨s, hs⟩ : ∃ s : ByteArray, s = ⟨(lineL x).toArray⟩ := ⟨_, rfl⟩
      rw [← hs] at hcb
      have HS := Lib.hid hs
      clear hs
      go_wp2_with fail
      exact line_end w W D _ x s (by rw [HS.out, HV.out.1]) rfl (by rw [HV.out.2]; rfl) hB (by omega) hK
    case stop =>
      rintro D c pre W _ _ h _
      exact h.elim
end Go.Proofs.YthellmecdmolcaaDoor
