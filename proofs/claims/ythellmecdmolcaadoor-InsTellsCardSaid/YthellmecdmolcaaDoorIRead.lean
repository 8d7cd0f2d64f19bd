/-
  The walk of Read: the kind of a word, and a loop over what it names that reads a number of each.
-/
import Derived.Test.YthellmecdmolcaaDoorILine
namespace Go.Proofs.YthellmecdmolcaaDoor
open Go.RowKit Go.Shelf

attribute [local go_sem] Oper.semAt_some

/-- The state of the loop: what is left of the line, some word, and the instruction as far as it was read. -/
structure Rdg (w W : World) (st : Rd) (T R X : Nat) : Prop where
  res : InAt W w.heap.size In.zero
  word : ∃ u : ByteArray, Boxed W T 9 (.string u)
  rest : Boxed W R 9 (.string ⟨st.1.toArray⟩)
  ins : InAt W X st.2
  below : Below w.heap.size w W
theorem rdg_abides {β : Type} (w : World) (f : β → Rd) (T R X m : Nat) (hm : w.heap.size ≤ m) : OwnFrom m (fun (s : β) W => Rdg w W (f s) T R X) := fun s A W' row hs hg hr => by
  have hk : ∀ {k : Nat} {cs : Array Value} {t : TypeId} {z : Nat × Nat}, A.heap[k]? = some (.cells cs t z) → W'.heap[k]? = A.heap[k]? := fun h => cells_kept hg (fun r e => (hr r e).2) h
  obtain ⟨u, hu⟩ := hs.word
  exact ⟨hs.res.of_block (hk hs.res), ⟨u, (hk hu).trans hu⟩, (hk hs.rest).trans hs.rest, hs.ins.of_block (hk hs.ins), ownFrom_below (β := Unit) (Nat.le_refl _) hm () A W' row hs.below hg hr⟩

section
variable {w W W' : World} {r : List UInt8} {y : In} {T X : Nat}
theorem Rdg.fresh {st : Rd} {R : Nat} (h : Rdg w W st T R X) (hb : But [] W W') : Rdg w W' st T R X := by
  obtain ⟨u, hu⟩ := h.word
  exact ⟨h.res.of_block (hb.block _ h.res.lt (by simp)), ⟨u, (hb.block _ (Boxed.lt hu) (by simp)).trans hu⟩, (hb.block _ (Boxed.lt h.rest) (by simp)).trans h.rest, h.ins.of_block (hb.block _ h.ins.lt (by simp)), h.below.trans (hb.below h.below.size (by simp))⟩
theorem Rdg.cut (h : Rdg w W (r, y) T (T + 1) X) (h1 : w.heap.size < T) (h2 : T + 1 < X) (u : ByteArray) (r' : List UInt8) :
    Rdg w ((W.setCell ⟨T, 0, none⟩ (.string u)).setCell ⟨T + 1, 0, none⟩ (.string ⟨r'.toArray⟩)) (r', y) T (T + 1) X ∧ Boxed ((W.setCell ⟨T, 0, none⟩ (.string u)).setCell ⟨T + 1, 0, none⟩ (.string ⟨r'.toArray⟩)) T 9 (.string u) ∧
    But [T, T + 1] W ((W.setCell ⟨T, 0, none⟩ (.string u)).setCell ⟨T + 1, 0, none⟩ (.string ⟨r'.toArray⟩)) := by
  obtain ⟨u0, hu⟩ := h.word
  have b1 : But [T] W (W.setCell ⟨T, 0, none⟩ (.string u)) := (But.refl [T] W).set (p := ⟨T, 0, none⟩) (.inl (by simp)) _
  have b2 : But [T + 1] (W.setCell ⟨T, 0, none⟩ (.string u)) ((W.setCell ⟨T, 0, none⟩ (.string u)).setCell ⟨T + 1, 0, none⟩ (.string ⟨r'.toArray⟩)) := (But.refl [T + 1] _).set (p := ⟨T + 1, 0, none⟩) (.inl (by simp)) _
  have b : But [T, T + 1] W ((W.setCell ⟨T, 0, none⟩ (.string u)).setCell ⟨T + 1, 0, none⟩ (.string ⟨r'.toArray⟩)) := (b1.mono (by simp)).next (b2.mono (by simp))
  have hT : Boxed ((W.setCell ⟨T, 0, none⟩ (.string u)).setCell ⟨T + 1, 0, none⟩ (.string ⟨r'.toArray⟩)) T 9 (.string u) := (b2.block _ (Boxed.lt (hu.set _)) (by simp)).trans (Boxed.set (.string u) hu)
  have hR : Boxed ((W.setCell ⟨T, 0, none⟩ (.string u)).setCell ⟨T + 1, 0, none⟩ (.string ⟨r'.toArray⟩)) (T + 1) 9 (.string ⟨r'.toArray⟩) := Boxed.set _ ((b1.block _ (Boxed.lt h.rest) (by simp)).trans h.rest)
  exact ⟨⟨h.res.of_block (b.block _ h.res.lt (by simp; omega)), ⟨_, hT⟩, hR, h.ins.of_block (b.block _ h.ins.lt (by simp; omega)), h.below.trans (b.below h.below.size (by simp; omega))⟩, hT, b⟩
theorem Rdg.put (h : Rdg w W (r, y) T (T + 1) X) (h1 : w.heap.size < T) (h2 : T + 1 < X) (z : In) : Rdg w (put5 W X z) (r, z) T (T + 1) X := by
  obtain ⟨u0, hu⟩ := h.word
  have b := but_put5 W X z
  exact ⟨h.res.of_block (b.block _ h.res.lt (by simp; omega)), ⟨u0, (b.block _ (Boxed.lt hu) (by simp; omega)).trans hu⟩, (b.block _ (Boxed.lt h.rest) (by simp; omega)).trans h.rest, h.ins.put5 z, h.below.trans (b.below h.below.size (by simp; omega))⟩
end

theorem read_end (w W : World) (D : Nat) (T : Array Value) (s : List UInt8) (y : In) (e : Int) (hy : y = readV s) (he : e = readE s) (h2 : T[2]?.getD undef = .pointer (some ⟨w.heap.size, 0, none⟩)) (h3 : T[3]?.getD undef = .int .i64 e) (hI : InAt W w.heap.size y) (hB : Below w.heap.size w W) (hw : w.heap.size ≤ D) (hK : W.heap[D]? = some (.deferred (some []))) :
    bodyPostM Fence.wide 4 Tryd.prog Tryd.f9 (fun e w' => e = .returned (.tuple #[(readV s).val, .int .i64 (readE s)]) ∧ Below w.heap.size w w') .ret
      { tmps := T, defers := [{ target := Target.collected D, args := #[] }] } W := by
  refine ⟨by simp, .inl ⟨_, _, rfl, run_takeDeferred hK, ?_⟩⟩
  have hk := fun {p : Addr} {v : Value} (h : W.cell? p = some v) => cell_kept h (grownBy_putObj' _ D (.deferred none)) (fun r e => by cases e; exact ⟨_, hK, rfl⟩)
  have c0 := hk hI.c0
  have c1 := hk hI.c1
  have c2 := hk hI.c2
  have c3 := hk hI.c3
  have c4 := hk hI.c4
  refine ⟨.tuple #[y.val, .int .i64 e], ?_, by rw [hy, he], hB.trans (belowK_b (w := w) (Nat.le_refl _) _ D _ _ hw hK rfl rfl)⟩
  simp [results, Tryd.f9, go_sem, h2, h3, c0, c1, c2, c3, c4, In.val]

theorem cut_b (l : List UInt8) (hl : l.length ≤ 4096) (w : World) :
    Calls Tryd.prog 23 #[.string ⟨l.toArray⟩, .string ⟨#[32]⟩] w fun e w' => e = .returned (.tuple #[.string ⟨(cut1 l).toArray⟩, .string ⟨(cut2 l).toArray⟩, .bool (cutF l)]) ∧ But [] w w' :=
  (cut_any l hl w).mono fun _ _ ⟨h1, q, h2⟩ => ⟨h1, by rw [h2]; exact (But.refl [] w).drewN q⟩
set_option maxRecDepth 100000 in
set_option maxHeartbeats 1600000 in
theorem read_any (s : List UInt8) (hs : s.length ≤ 4096) (w : World) (hv : Vars w) :
    Calls Tryd.prog 9 #[.string ⟨s.toArray⟩] w fun e w' => e = .returned (.tuple #[(readV s).val, .int .i64 (readE s)]) ∧ Below w.heap.size w w' := by
  obtain ⟨W0, hW0⟩ : ∃ W0, W0 = w.alloc (.cells #[.int .u8 0, .int .i64 0, .int .i64 0, .int .i64 0, .int .i64 0] 23) := ⟨_, rfl⟩
  have hres0 : InAt W0 w.heap.size In.zero := by rw [hW0]; exact inAt_new w In.zero
  have hb0 : But [] w W0 := by rw [hW0]; exact (But.refl [] w).alloc _
  have hcut := cut_b s hs W0
  obtain ⟨op, hop⟩ : ∃ op, op = opOf (cut1 s) := ⟨_, rfl⟩
  have hop10 : op ≤ 10 := by rw [hop]; exact opOf_lt _
  refine (callsIn_wide (n := 4)).1 ?_
  refine callsIn_of_wp_marks Tryd.func9 rfl trivial ?_ rfl
  simp only [Tryd.ntmps9, List.size_toArray, List.length_cons, List.length_nil, Nat.reduceAdd, Nat.reduceSub, Array.replicate_succ, Array.replicate_zero, List.push_toArray, List.append_toArray, List.nil_append, List.cons_append]
  refine wpIn_wide.2 ?_
  rw [hW0] at hcut
  go_wp2_with fail
  refine hcut.mono ?_
  rw [← hW0]
  rintro e w1 ⟨rfl, hb1⟩
  obtain ⟨W1, hW1⟩ : ∃ W1, W1 = (w1.alloc (.cells #[.string ⟨(cut1 s).toArray⟩] 9)).alloc (.cells #[.string ⟨(cut2 s).toArray⟩] 9) := ⟨_, rfl⟩
  have hb2 : But [] w1 W1 := by rw [hW1]; exact ((But.refl [] w1).alloc _).alloc _
  have hT1 : Boxed W1 w1.heap.size 9 (.string ⟨(cut1 s).toArray⟩) := by rw [hW1]; exact (Boxed.new w1 _ _).alloc _
  have hR1 : Boxed W1 (w1.heap.size + 1) 9 (.string ⟨(cut2 s).toArray⟩) := by
    rw [hW1]
    have := Boxed.new (w1.alloc (.cells #[.string ⟨(cut1 s).toArray⟩] 9)) 9 (.string ⟨(cut2 s).toArray⟩)
    rwa [World.size_alloc] at this
  have hsp := spelt_any (cut1 s) W1
  rw [← hop] at hsp
  have HOP := Lib.hid hop
  clear hcut hop
  have t1 := hT1.cell
  rw [hW1] at t1 hsp
  have H0 := Lib.hid hW0
  clear hW0
  go_wp2_with fail
  refine hsp.mono ?_
  rw [← hW1]
  rintro e ws ⟨kv, rfl, ⟨sl, rfl, hrow⟩, hbs⟩
  have hsl : ∃ a n c, sl = .slice a n c := by
    rcases hrow with ⟨_, rfl⟩ | ⟨b, rfl, _⟩ <;> exact ⟨_, _, _, rfl⟩
  obtain ⟨ka, kn, kc, rfl⟩ := hsl
  obtain ⟨W4, hW4⟩ : ∃ W4, W4 = (ws.alloc (.cells #[.string ⟨(wordL op).toArray⟩, .slice ka kn kc] 38)).alloc (.cells #[.int .u8 (op : Int), .int .i64 0, .int .i64 0, .int .i64 0, .int .i64 0] 23) := ⟨_, rfl⟩
  have hb4 : But [] ws W4 := by rw [hW4]; exact ((But.refl [] ws).alloc _).alloc _
  have hkd : Two W4 ws.heap.size 38 (.string ⟨(wordL op).toArray⟩) (.slice ka kn kc) := by rw [hW4]; exact (two_new ws _ _ _).alloc _
  have hX4 : InAt W4 (ws.heap.size + 1) (In.only op) := by
    rw [hW4]
    have := inAt_new (ws.alloc (.cells #[.string ⟨(wordL op).toArray⟩, .slice ka kn kc] 38)) (In.only op)
    rwa [World.size_alloc] at this
  have hb14 : But [] W1 W4 := (But.of_below hbs []).next hb4
  have hb04 : But [] W0 W4 := (hb1.next hb2).next hb14
  have hT4 := (hb14.block _ hT1.lt (by simp)).trans hT1
  have hR4 := (hb14.block _ hR1.lt (by simp)).trans hR1
  have hres4 := hres0.of_block (hb04.block _ hres0.lt (by simp))
  have hBw4 := (hb0.next hb04).below (Nat.le_refl _) (by simp)
  have hok : (In.only op).ok := In.ok_only (by omega)
  have hnm := named_any ⟨(wordL op).toArray⟩ ka kn kc (In.only op) W4 (hrow.fresh hb4)
  have hz4 : ws.heap.size + 1 < W4.heap.size := hX4.lt
  have hz1 : w1.heap.size + 1 < ws.heap.size := by have := hR1.lt; have := hbs.size; omega
  have hz0 : w.heap.size < w1.heap.size := by have := hres0.lt; have := hb1.size; omega
  have k0 := hkd.c0
  have k1 := hkd.c1
  have x0 := hX4.c0
  have x1 := hX4.c1
  have x2 := hX4.c2
  have x3 := hX4.c3
  have x4 := hX4.c4
  unfold In.val at hnm
  rw [hW4] at k0 k1 x0 x1 x2 x3 x4 hnm
  simp only [In.only] at x0 x1 x2 x3 x4 hnm
  go_wp2_with fail
  refine hnm.mono ?_
  rw [← hW4]
  rintro e Wn ⟨rfl, hN, hszn, hbn⟩
  have hRd : Rdg w Wn (cut2 s, In.only op) w1.heap.size (w1.heap.size + 1) (ws.heap.size + 1) :=
    ⟨hres4.of_block (hbn.block _ hres4.lt (by simp)), ⟨_, (hbn.block _ (Boxed.lt hT4) (by simp)).trans hT4⟩, (hbn.block _ (Boxed.lt hR4) (by simp)).trans hR4, hX4.of_block (hbn.block _ hX4.lt (by simp)), hBw4.trans (hbn.below hBw4.size (by simp))⟩
  have hn3 := hN.lt
  have hwn : w.heap.size ≤ Wn.heap.size := hRd.below.size
  have HZ := Lib.hid hszn
  clear hszn hW4 hb4 hkd hX4 hb14 hb04 hT4 hR4 hres4 hBw4 hnm k0 k1 x0 x1 x2 x3 x4 hbn hrow hbs hT1 hR1 hb2 hW1 hb1 t1 hres0 hb0 hsp
  obtain ⟨T, hT⟩ : ∃ T, T = w1.heap.size := ⟨_, rfl⟩
  obtain ⟨X, hX⟩ : ∃ X, X = ws.heap.size + 1 := ⟨_, rfl⟩
  rw [← hT] at hRd hz0
  rw [← hX] at hRd hz4
  have hTX : T + 1 < X := by omega
  go_wp2_with fail
  rw [← hT, ← hX]
  clear hT hX hz1
  refine (wpIn_wide (n := 4)).1 ?_
  refine wpIn_rangeFunc_ownG rfl (by omega) (gf := 35) (lb := #[.pointer (some ⟨W4.heap.size, 0, none⟩), .pointer (some ⟨W4.heap.size + 3, 0, none⟩)]) rfl trivial (enters_of Tryd.func35 (by kernel_rfl) rfl)
    (iter_named hok hN) (fun h k => KeepK.trans h k) (fun W l o o' hl ho hc _ => keepK_putObj W l o o' hn3 hl ho hc) (Below.refl _ _) (fun _ => rfl)
    (fun pre W => Rdg w W ((pre.map (·.1)).foldl readStep (cut2 s, In.only op)) T (T + 1) X ∧ Nmd W W4.heap.size ⟨(wordL op).toArray⟩ (.slice ka kn kc) (In.only op))
    (fun _ _ _ => False)
    (OwnFrom.and (rdg_abides w (fun pre : List Nv => (pre.map (·.1)).foldl readStep (cut2 s, In.only op)) _ _ _ _ hwn) (nmd_abides _ _ _ _ _))
    (fun _ _ _ _ _ hs _ _ => hs)
    ⟨hRd, hN⟩ ?a1 ?assign ?body ?done ?stop
  case assign =>
    intro l p W K hK
    gi_wp2
    exact hK
  case body =>
    rintro l pre p W ⟨hR, hN⟩ hlt
    obtain ⟨st, hst⟩ : ∃ st, st = (pre.map (·.1)).foldl readStep (cut2 s, In.only op) := ⟨_, rfl⟩
    have hrl : st.1.length ≤ 4096 := by
      have h1 := read_len (st := (cut2 s, In.only op)) (pre.map (·.1))
      have h2 := cut2_len s
      rw [hst]
      simp only at h1
      omega
    obtain ⟨r, y⟩ := st
    obtain ⟨z, hz⟩ : ∃ z, z = y.put p.1.1 (parseV (cut1 r)) := ⟨_, rfl⟩
    have HY : Hid (((pre ++ [p]).map (·.1)).foldl readStep (cut2 s, In.only op) = (cut2 r, z)) := Lib.hid (by rw [List.map_append, List.foldl_append, ← hst, hz]; rfl)
    rw [← hst] at hR
    have hW1 := fun W' => with_any y p.1.1 (parseV (cut1 r)) W'
    rw [← hz] at hW1
    clear hst hz
    unfold In.val at hW1
    have hcut := cut_b r hrl W
    have hc0 := hR.rest.cell
    have hl1 := cut1_len r
    have hrl1 : (cut1 r).length ≤ 4096 := by
      simp only at hrl
      omega
    generalize hpv : parseV (cut1 r) = pv at hW1
    simp only at hcut hc0
    gi_wp2_with (first
      | (refine ⟨trivial, ?_⟩; gi_at_call 23; refine (callsIn_wide.2 hcut).mono ?_; rintro e wa ⟨rfl, hba⟩; have ha := hR.fresh hba; have hNa := hN.fresh hba; obtain ⟨ua, hua⟩ := ha.word; have a0 := Boxed.cell hua; have a1 := Boxed.frozen hua; have a2 := Boxed.cell ha.rest; have a3 := Boxed.frozen ha.rest; obtain ⟨hb, hbT, hbb⟩ := ha.cut hz0 hTX ⟨(cut1 r).toArray⟩ (cut2 r); have b0 := Boxed.cell hbT; have hpar := parse_any (cut1 r) hrl1 _ (hv.below hb.below); rw [hpv] at hpar)
      | (refine ⟨trivial, ?_⟩; gi_at_call 25; refine (callsIn_wide.2 hpar).mono ?_; rintro e wc ⟨er, rfl, hbc⟩; have hc := hb.fresh (But.of_below hbc []); have x0 := hc.ins.c0; have x1 := hc.ins.c1; have x2 := hc.ins.c2; have x3 := hc.ins.c3; have x4 := hc.ins.c4)
      | (refine ⟨trivial, ?_⟩; gi_at_call 26; refine (callsIn_wide.2 (hW1 _)).mono ?_; rintro e wd ⟨rfl, hbd⟩; have hd := hc.fresh (But.of_below hbd []); have d0 := hd.ins.c0; have d1 := hd.ins.c1; have d2 := hd.ins.c2; have d3 := hd.ins.c3; have d4 := hd.ins.c4; have f0 := hd.ins.frozen 0; have f1 := hd.ins.frozen 1; have f2 := hd.ins.frozen 2; have f3 := hd.ins.frozen 3; have f4 := hd.ins.frozen 4))
    have hbt : But [T, T + 1, X] W (put5 wd X z) := (((((hba.mono (by simp)).next (hbb.mono (by simp))).next (But.of_below hbc _)).next (But.of_below hbd _)).next ((but_put5 wd X z).mono (by simp)))
    have hnm : ∀ k ∈ [T, T + 1, X], ∀ cs z, W.heap[k]? ≠ some (.cells cs 44 z) := by
      obtain ⟨u0, hu0⟩ := hR.word
      intro k hk cs z' e
      simp only [List.mem_cons, List.not_mem_nil, or_false] at hk
      rcases hk with rfl | rfl | rfl
      · exact not_in_type hu0 (by decide) _ (by simp) cs z' e
      · exact not_in_type hR.rest (by decide) _ (by simp) cs z' e
      · exact not_in_type hR.ins (by decide) _ (by simp) cs z' e
    refine ⟨keepsFrom_but hbt (by simp; omega), hN.keeps hbt (by simp; omega) (by simp; omega) (by simp; omega) hnm, ?_, hN.but hbt (by simp; omega) (by simp; omega) (by simp; omega) hnm⟩
    rw [HY.out]
    exact hd.put hz0 hTX z
  case done =>
    rintro D xs W hD hxs ⟨hR, hN⟩ hK
    obtain ⟨y, hy⟩ : ∃ y, y = readX s := ⟨_, rfl⟩
    have HX : Hid ((xs.map (·.1)).foldl readStep (cut2 s, In.only op) = (((xs.map (·.1)).foldl readStep (cut2 s, In.only op)).1, y)) := Lib.hid (by rw [hy, show xs = _ from hxs, nvs_map, HOP.out]; rfl)
    obtain ⟨r, hr⟩ : ∃ r, r = ((xs.map (·.1)).foldl readStep (cut2 s, In.only op)).1 := ⟨_, rfl⟩
    rw [HX.out, ← hr] at hR
    have hyo : y.ok := by rw [hy]; exact readX_ok s
    have HV : Hid (readB s = (okI y && lineL y == s)) := Lib.hid (by rw [hy]; rfl)
    have HYX := Lib.hid hy
    clear hr hxs hy HX
    have hln := line_any y hyo W (hv.below hR.below)
    unfold In.val at hln
    have x0 := hR.ins.c0
    have x1 := hR.ins.c1
    have x2 := hR.ins.c2
    have x3 := hR.ins.c3
    have x4 := hR.ins.c4
    cases hok2 : okI y with
    | false =>
      have HB : Hid (readB s = false) := Lib.hid (by rw [HV.out, hok2]; rfl)
      have e1 : lineV y = [] := by unfold lineV; rw [hok2]; rfl
      have e2 : lineE y = 2 := by unfold lineE; rw [hok2]; rfl
      rw [e1, e2] at hln
      clear e1 e2 hok2 HV
      go_wp2_with fail
      refine hln.mono ?_
      rintro e wl ⟨rfl, hbl⟩
      have hR2 := hR.fresh (But.of_below hbl [])
      have hK2 : wl.heap[D]? = some (.deferred (some [])) := (hbl.block _ (Array.getElem?_eq_some_iff.1 hK).1).trans hK
      have y0 := hR2.ins.c0
      have y1 := hR2.ins.c1
      have y2 := hR2.ins.c2
      have y3 := hR2.ins.c3
      have y4 := hR2.ins.c4
      have r0 : wl.cell? ⟨w.heap.size, 0, none⟩ = some (.int .u8 0) := hR2.res.c0
      have r1 : wl.cell? ⟨w.heap.size, 1, none⟩ = some (.int .i64 0) := hR2.res.c1
      have r2 : wl.cell? ⟨w.heap.size, 2, none⟩ = some (.int .i64 0) := hR2.res.c2
      have r3 : wl.cell? ⟨w.heap.size, 3, none⟩ = some (.int .i64 0) := hR2.res.c3
      have r4 : wl.cell? ⟨w.heap.size, 4, none⟩ = some (.int .i64 0) := hR2.res.c4
      have f0 := hR2.res.frozen 0
      have f1 := hR2.res.frozen 1
      have f2 := hR2.res.frozen 2
      have f3 := hR2.res.frozen 3
      have f4 := hR2.res.frozen 4
      have hbp := but_put5 wl w.heap.size In.zero
      have hKp := (hbp.block D (Array.getElem?_eq_some_iff.1 hK2).1 (by simp; omega)).trans hK2
      have hBp := hR2.below.trans (hbp.below hR2.below.size (by simp))
      have hIp := hR2.res.put5 In.zero
      clear hbp hln hK hR
      go_wp2_with fail
      exact read_end w _ D _ s In.zero _ (by rw [readV, HB.out]; rfl) (by rw [readE, HB.out]; rfl) rfl rfl hIp hBp (by omega) hKp
    | true =>
      have e1 : lineV y = lineL y := by unfold lineV; rw [hok2]; rfl
      have e2 : lineE y = 0 := by unfold lineE; rw [hok2]; rfl
      rw [e1, e2] at hln
      by_cases he : lineL y = s
      · have HB : Hid (readB s = true) := Lib.hid (by rw [HV.out, hok2, he]; simp)
        rw [he] at hln
        clear e1 e2 hok2 HV he
        go_wp2_with fail
        refine hln.mono ?_
        rintro e wl ⟨rfl, hbl⟩
        have hR2 := hR.fresh (But.of_below hbl [])
        have hK2 : wl.heap[D]? = some (.deferred (some [])) := (hbl.block _ (Array.getElem?_eq_some_iff.1 hK).1).trans hK
        have y0 := hR2.ins.c0
        have y1 := hR2.ins.c1
        have y2 := hR2.ins.c2
        have y3 := hR2.ins.c3
        have y4 := hR2.ins.c4
        have r0 : wl.cell? ⟨w.heap.size, 0, none⟩ = some (.int .u8 0) := hR2.res.c0
        have r1 : wl.cell? ⟨w.heap.size, 1, none⟩ = some (.int .i64 0) := hR2.res.c1
        have r2 : wl.cell? ⟨w.heap.size, 2, none⟩ = some (.int .i64 0) := hR2.res.c2
        have r3 : wl.cell? ⟨w.heap.size, 3, none⟩ = some (.int .i64 0) := hR2.res.c3
        have r4 : wl.cell? ⟨w.heap.size, 4, none⟩ = some (.int .i64 0) := hR2.res.c4
        have f0 := hR2.res.frozen 0
        have f1 := hR2.res.frozen 1
        have f2 := hR2.res.frozen 2
        have f3 := hR2.res.frozen 3
        have f4 := hR2.res.frozen 4
        have hbp := but_put5 wl w.heap.size y
        have hKp := (hbp.block D (Array.getElem?_eq_some_iff.1 hK2).1 (by simp; omega)).trans hK2
        have hBp := hR2.below.trans (hbp.below hR2.below.size (by simp))
        have hIp := hR2.res.put5 y
        clear hbp hln hK hR
        go_wp2_with fail
        exact read_end w _ D _ s y _ (by rw [readV, HB.out, HYX.out]; rfl) (by rw [readE, HB.out]; rfl) rfl rfl hIp hBp (by omega) hKp

      · have hbe : (lineL y == s) = false := by simpa using he
        have HB : Hid (readB s = false) := Lib.hid (by rw [HV.out, hok2, hbe]; rfl)
        clear e1 e2 hok2 HV he
        go_wp2_with fail
        refine hln.mono ?_
        rintro e wl ⟨rfl, hbl⟩
        have hR2 := hR.fresh (But.of_below hbl [])
        have hK2 : wl.heap[D]? = some (.deferred (some [])) := (hbl.block _ (Array.getElem?_eq_some_iff.1 hK).1).trans hK
        have y0 := hR2.ins.c0
        have y1 := hR2.ins.c1
        have y2 := hR2.ins.c2
        have y3 := hR2.ins.c3
        have y4 := hR2.ins.c4
        have r0 : wl.cell? ⟨w.heap.size, 0, none⟩ = some (.int .u8 0) := hR2.res.c0
        have r1 : wl.cell? ⟨w.heap.size, 1, none⟩ = some (.int .i64 0) := hR2.res.c1
        have r2 : wl.cell? ⟨w.heap.size, 2, none⟩ = some (.int .i64 0) := hR2.res.c2
        have r3 : wl.cell? ⟨w.heap.size, 3, none⟩ = some (.int .i64 0) := hR2.res.c3
        have r4 : wl.cell? ⟨w.heap.size, 4, none⟩ = some (.int .i64 0) := hR2.res.c4
        have f0 := hR2.res.frozen 0
        have f1 := hR2.res.frozen 1
        have f2 := hR2.res.frozen 2
        have f3 := hR2.res.frozen 3
        have f4 := hR2.res.frozen 4
        have hbp := but_put5 wl w.heap.size In.zero
        have hKp := (hbp.block D (Array.getElem?_eq_some_iff.1 hK2).1 (by simp; omega)).trans hK2
        have hBp := hR2.below.trans (hbp.below hR2.below.size (by simp))
        have hIp := hR2.res.put5 In.zero
        clear hbp hln hK hR
        go_wp2_with fail
        exact read_end w _ D _ s In.zero _ (by rw [readV, HB.out]; rfl) (by rw [readE, HB.out]; rfl) rfl rfl hIp hBp (by omega) hKp
  case stop =>
    rintro D c pre W _ _ h _
    exact h.elim
end Go.Proofs.YthellmecdmolcaaDoor
