/-
  The walk of Put: entries, one behind the other.
-/
import Derived.Deep.Cut
import Derived.Deep.CutRange
import Derived.Deep.RegionHeld3
import Derived.Test.YtengpehiknoheaaDoorERow
namespace Go.Proofs.YtengpehiknoheaaDoor
open Go.RowKit Go.Shelf Oct

attribute [local go_sem] Oper.semAt_some

def putS (l : List En) : List UInt8 := if l.all okB = true then l.flatMap enL else []
def putE (l : List En) : Int := if l.all okB = true then 0 else 2

/-! ### Bytes: how many -/
theorem numL_le {u : Nat} (h : u < 18446744073709551616) : (numL u).length ≤ 10 := numL_len10 h
theorem putN_len {n : Nat} {v : Int} (hn : n < 13) (hv : I64b v) (hm : mayN n v = true) : (putN n v).length ≤ 10 := by
  have hf := numL_le (foldN_lt hv.1 hv.2)
  have hu := numL_le (uns_lt v hv)
  rcases fld_cases hn with h | h | h
  · rcases h with rfl | rfl <;> exact hf
  · have hs := may_small hn hm (by omega) (by omega) (by omega)
    have hp := numL_le (uns_lt (v + 1) (by unfold I64b; omega))
    rcases h with rfl | rfl | rfl | rfl | rfl <;> exact hp
  · rcases h with rfl | rfl | rfl | rfl | rfl | rfl <;> exact hu
theorem body_len {ps : List (Nat × Int)} (h : ∀ p ∈ ps, p.1 < 13 ∧ I64b p.2 ∧ mayN p.1 p.2 = true) : (bodyL ps).length ≤ 10 * ps.length := by
  induction ps with
  | nil => simp [bodyL]
  | cons p ps ih =>
    have h1 := ih fun q hq => h q (List.mem_cons_of_mem _ hq)
    obtain ⟨a, b, c⟩ := h p (List.mem_cons_self ..)
    have h2 := putN_len a b c
    simp only [bodyL, List.flatMap_cons, List.length_append, List.length_cons] at h1 ⊢
    omega
theorem pairs_may {x : En} (hx : x.ok) (h : okB x = true) : ∀ p ∈ pairsOf x (namesOf x.k), p.1 < 13 ∧ I64b p.2 ∧ mayN p.1 p.2 = true := by
  intro p hp
  obtain ⟨n, hn, rfl⟩ := List.mem_map.1 hp
  exact ⟨namesOf_lt hn, hx.get n, (okB_iff.1 h).2.1 n hn⟩
theorem head_len {x : En} (hx : x.ok) : (numL x.a.toNat ++ numL x.k).length ≤ 20 := by
  have h1 := numL_le (u := x.a.toNat) (by have := hx.a; unfold I64b at this; omega)
  have h2 := numL_le (u := x.k) (by have := hx.k; omega)
  rw [List.length_append]; omega
theorem enL_len {x : En} (hx : x.ok) (h : okB x = true) : (enL x).length ≤ 100 := by
  have h1 := head_len hx
  have h2 := body_len (pairs_may hx h)
  have h3 : (pairsOf x (namesOf x.k)).length ≤ 7 := by unfold pairsOf; rw [List.length_map]; exact namesOf_len _
  unfold enL
  rw [List.length_append]; omega
theorem all_len {l : List En} (hx : ∀ x ∈ l, x.ok) (h : l.all okB = true) : (l.flatMap enL).length ≤ 100 * l.length := by
  induction l with
  | nil => simp
  | cons x l ih =>
    simp only [List.all_cons, Bool.and_eq_true] at h
    have h1 := ih (fun y hy => hx y (List.mem_cons_of_mem _ hy)) h.2
    have h2 := enL_len (hx x (List.mem_cons_self ..)) h.1
    simp only [List.flatMap_cons, List.length_append, List.length_cons]
    omega

/-! ### What is left to be done when the function is left: the marks of the loops -/
def Coll (base : Nat) (W : World) : List Deferred → Prop
  | [] => True
  | d :: ds => ∃ D, d = { target := .collected D, args := #[] } ∧ base ≤ D ∧ W.heap[D]? = some (.deferred (some [])) ∧ (∀ d' ∈ ds, d'.target ≠ .collected D) ∧ Coll base W ds
theorem Coll.keep' {base : Nat} {W W' : World} : ∀ {ds : List Deferred}, (∀ d ∈ ds, ∀ D, d.target = .collected D → W.heap[D]? = some (.deferred (some [])) → W'.heap[D]? = W.heap[D]?) → Coll base W ds → Coll base W' ds
  | [], _, _ => trivial
  | d :: _, hk, ⟨D, h1, h2, h3, h4, h5⟩ => ⟨D, h1, h2, (hk d (List.mem_cons_self ..) D (by rw [h1]) h3).trans h3, h4, Coll.keep' (fun d hd => hk d (List.mem_cons_of_mem _ hd)) h5⟩
theorem Coll.keep {base : Nat} {W W' : World} (hk : ∀ (D : Nat), base ≤ D → W.heap[D]? = some (.deferred (some [])) → W'.heap[D]? = W.heap[D]?) : ∀ {ds : List Deferred}, Coll base W ds → Coll base W' ds
  | [], _ => trivial
  | _ :: _, ⟨D, h1, h2, h3, h4, h5⟩ => ⟨D, h1, h2, (hk D h2 h3).trans h3, h4, Coll.keep hk h5⟩
theorem Coll.lt {base : Nat} {W : World} : ∀ {ds : List Deferred}, Coll base W ds → ∀ d ∈ ds, ∀ D, d.target = .collected D → D < W.heap.size
  | _ :: _, ⟨D, h1, _, h3, _, h5⟩, d, hm, D', hD => by
    rcases List.mem_cons.1 hm with rfl | hm
    · rw [h1] at hD
      simp only [Target.collected.injEq] at hD
      subst hD
      exact (Array.getElem?_eq_some_iff.1 h3).1
    · exact Coll.lt h5 d hm D' hD
theorem Coll.take {base D : Nat} {W : World} {o : Obj} : ∀ {ds : List Deferred}, Coll base W ds → (∀ d' ∈ ds, d'.target ≠ .collected D) → Coll base (W.putObj D o) ds
  | [], _, _ => trivial
  | d :: ds, ⟨D', h1, h2, h3, h4, h5⟩, hn => by
    have hne : D' ≠ D := fun e => hn d (List.mem_cons_self ..) (by rw [h1, e])
    exact ⟨D', h1, h2, ((grownBy_putObj' W D o).block D' (Array.getElem?_eq_some_iff.1 h3).1 (fun e => hne (Option.some.inj e))).trans h3, h4, Coll.take h5 fun d' hd => hn d' (List.mem_cons_of_mem _ hd)⟩
theorem leaves_coll {base : Nat} {fn : Func} {tmps : Array Value} {R : Ending → World → Prop} {v : Value} (hres : ∀ W, (results fn tmps).run Tryd.prog W = .ok v W) : ∀ (ds : List Deferred) (W : World), Coll base W ds → base ≤ W.heap.size → (∀ W', Below base W W' → R (.returned v) W') →
    LeavesInM Fence.wide 4 Tryd.prog fn tmps R ds .returning W
  | [], W, _, _, hR => ⟨v, hres W, hR W (Below.refl _ _)⟩
  | _ :: ds, W, ⟨D, h1, h2, h3, h4, h5⟩, hb, hR => by
    subst h1
    refine ⟨by simp, .inl ⟨D, _, rfl, run_takeDeferred h3, ?_⟩⟩
    have hbl : Below base W (W.putObj D (.deferred none)) := (Below.refl base W).grown (grownBy_putObj' W D _) hb (fun k e => by cases e; exact h2)
    exact leaves_coll hres ds _ (h5.take h4) (by have := hbl.size; omega) fun W' hW' => hR W' (hbl.trans hW')

/-- A row of bytes of the call's own, or none. -/
def BR (W : World) (base : Nat) (v : Value) (l : List UInt8) : Prop := (l = [] ∧ v = .slice none 0 0) ∨ BRow W base v l
theorem BR.slice {W : World} {base : Nat} {v : Value} {l : List UInt8} (h : BR W base v l) : ∃ a c, v = .slice a l.length c := by
  rcases h with ⟨rfl, rfl⟩ | h
  · exact ⟨none, 0, rfl⟩
  · exact h.slice
theorem BR.keep {W W' : World} {base : Nat} {v : Value} {l : List UInt8} (h : BR W base v l) (hk : ∀ (k : Nat) (cs : Array Value) (z : Nat × Nat), W.heap[k]? = some (.cells cs 5 z) → W'.heap[k]? = W.heap[k]?) : BR W' base v l := h.imp id fun h => h.keep hk
theorem BR.fresh {W W' : World} {base : Nat} {v : Value} {l : List UInt8} (h : BR W base v l) (hb : But [] W W') : BR W' base v l := h.imp id fun h => h.fresh hb
/-- append of a text, onto a row of bytes, or none. -/
theorem bapps {W : World} {base : Nat} {v : Value} {l : List UInt8} (h : BR W base v l) (hb : base ≤ W.heap.size) (m : List UInt8) (hm : 0 < m.length) (hl : l.length + m.length ≤ 100000) :
    ∃ v' W', (∀ ty, (Builtin.append_ #[49, 9] ty #[v, .string ⟨m.toArray⟩]).run Tryd.prog W = .ok v' W') ∧ BRow W' base v' (l ++ m) ∧ Bys base W W' := by
  have hs : Src Tryd.prog 1 9 (.string ⟨m.toArray⟩) m.length (Lib.byteCells m) W := Src.ofString W Tryd.underlying9 ⟨m.toArray⟩
  rcases h with ⟨rfl, rfl⟩ | h
  · obtain ⟨i, hi, hz, hsz, hby⟩ := info_parts infoU8
    have hs' : Src Tryd.prog i.size 9 (.string ⟨m.toArray⟩) m.length (Lib.byteCells m) W := by rw [hsz]; exact hs
    have hold : (Builtin.firstCells i.size 0 (.slice none 0 0)).run Tryd.prog W.drew = .ok #[] W.drew := by simp [go_sem]
    have hge := grownCap_ge W m.length 0 5
    simp only [List.length_nil, Nat.zero_add] at hl
    have hrun : ∀ ty, _ := fun ty => run_append_grow_src W 49 9 ty 5 i (.int .u8 0) Tryd.underlying49 hi hz none 0 0 [] hold _ m.length _ hs' (by omega) (by omega) (growslice_fits (by omega) (by rw [hby]; omega))
    simp only [Nat.zero_add, List.nil_append] at hrun
    refine ⟨_, _, hrun, ?_, Bys.of_but ((But.refl [] W).drew.alloc _)⟩
    rw [List.nil_append]
    refine ⟨W.heap.size, _, _, 0, 0, rfl, hb, World.alloc_heap_new W.drew _, .inr rfl, hge, ?_, fun j u hj => ?_⟩
    · simp only [Array.size_append, List.size_toArray, size_zeroCells, bc_len]
      have : (Value.int IntKind.u8 0).cells.size = 1 := rfl
      rw [this]
      omega
    · have hjl := (List.getElem?_eq_some_iff.1 hj).1
      rw [Array.getElem?_append_left (by simpa using hjl)]
      simpa using hj
  · exact bapp h hb 9 _ m hs hl

/-- append as one step of a region that draws, by its run. -/
theorem bstep_app {P : Program} {ops : Array Oper} {E : Prop} {w : World} {o : Oper} {a : Act} {K : Act → World → Prop} {Q : Exit → Act → World → Prop} (d : Option Tmp) (s x : Operand) (t tx : TypeId)
    (hg : o.guard = none) (hd : o.dst = d) (ho : o.op = .call { callee := .builtin .append, args := #[s, x], argTypes := #[t, tx] })
    {v y v' : Value} {w' : World} (hs : a.eval s = v) (hx : a.eval x = y) (hrun : ∀ ty, (Builtin.append_ #[t, tx] ty #[v, y]).run P w = .ok v' w') (h : K (a.put d v') w') :
    if Region.wanted o (yielded ops a.tmps) = true then Oper.wp P o a w K Q else E := by
  have hw : Region.wanted o (yielded ops a.tmps) = true := by simp [Region.wanted, hg]
  rw [if_pos hw]
  subst hd
  unfold Oper.wp
  simp [execOp, ho, resolve, invoke, builtin, hs, hx, hrun o.type, Result.andThen]
  exact h

theorem Bys.block {W W' : World} {base k : Nat} {o : Obj} (h : Bys base W W') (hk : W.heap[k]? = some o) (ho : ∀ cs z, o ≠ .cells cs 5 z) : W'.heap[k]? = W.heap[k]? :=
  h.keep k (Array.getElem?_eq_some_iff.1 hk).1 (.inr fun cs z e => by
    rw [hk] at e
    exact ho cs z (Option.some.inj e))
/-- What stands in memory where an entry is put: the box of the bytes, the entry, its kind, the kinds, the marks. -/
structure PSt (w W : World) (B K : Nat) (x : En) (wd : ByteArray) (m : Nat) (ds : List Deferred) (bv : Value) : Prop where
  box : Boxed W w.heap.size 49 bv
  x : EnAt W B x
  k : KdAt W K wd m
  map : KMap W (w.heap.size + 1) kindsL
  coll : Coll w.heap.size W ds
  below : Below w.heap.size w W
  lt : w.heap.size + 1 < B
  ltk : w.heap.size + 1 < K
section
variable {w W W' : World} {B K : Nat} {x : En} {wd : ByteArray} {m : Nat} {ds : List Deferred} {bv : Value}
theorem PSt.fresh (h : PSt w W B K x wd m ds bv) (hb : But [] W W') : PSt w W' B K x wd m ds bv :=
  ⟨(hb.block _ (Boxed.lt h.box) (by simp)).trans h.box, h.x.but hb (by simp), h.k.but hb (by simp), h.map.fresh hb, h.coll.keep fun D _ hD => hb.block D (Array.getElem?_eq_some_iff.1 hD).1 (by simp), h.below.trans (hb.below h.below.size (by simp)), h.lt, h.ltk⟩
theorem PSt.bys (h : PSt w W B K x wd m ds bv) (hb : Bys w.heap.size W W') : PSt w W' B K x wd m ds bv :=
  ⟨(hb.same h.box (by decide)).trans h.box, h.x.of_block (hb.same h.x (by decide)), Two.of_block h.k (hb.same h.k (by decide)), h.map.of_block (by obtain ⟨es, c, hm⟩ := h.map.is; exact hb.block hm (fun _ _ e => by cases e)),
    h.coll.keep fun D _ hD => hb.block hD (fun _ _ e => by cases e), h.below.trans (hb.below h.below.size), h.lt, h.ltk⟩
theorem PSt.set (h : PSt w W B K x wd m ds bv) (v : Value) : PSt w (W.setCell ⟨w.heap.size, 0, none⟩ v) B K x wd m ds v := by
  have hb := (But.refl [w.heap.size] W).set (p := ⟨w.heap.size, 0, none⟩) (.inl (by simp)) v
  have l1 := h.lt
  have l2 := h.ltk
  refine ⟨Boxed.set _ h.box, h.x.but hb (by simp; omega), h.k.but hb (by simp; omega), h.map.but hb (by simp), h.coll.keep fun D _ hD => hb.block D (Array.getElem?_eq_some_iff.1 hD).1 (fun hm => ?_), h.below.trans (hb.below h.below.size (by simp)), h.lt, h.ltk⟩
  obtain rfl := List.mem_singleton.1 hm
  rw [show W.heap[w.heap.size]? = _ from h.box] at hD
  cases hD
theorem pst_abides {β : Type} (w : World) (B K N : Nat) (x : En) (wd : ByteArray) (m : Nat) (ds : List Deferred) (f : β → List UInt8) (b : Nat) (hM : w.heap.size + 1 < b) (hds : ∀ d ∈ ds, ∀ D, d.target = .collected D → D < b) :
    OwnFrom b (fun (s : β) W => (∃ v, PSt w W B K x wd m ds v ∧ BRow W w.heap.size v (f s)) ∧ KdAt W N wd m) := fun s A W' row hs hg hr => by
  obtain ⟨⟨v, h, hrow⟩, hN⟩ := hs
  have hk : ∀ {k : Nat} {cs : Array Value} {t : TypeId} {z : Nat × Nat}, A.heap[k]? = some (.cells cs t z) → W'.heap[k]? = A.heap[k]? := fun h => cells_kept hg (fun r e => (hr r e).2) h
  refine ⟨⟨v, ⟨(hk h.box).trans h.box, h.x.of_block (hk h.x), Two.of_block h.k (hk h.k), h.map.of_block (hg.block _ h.map.lt (fun e => by have := (hr _ e.symm).1; omega)), h.coll.keep' fun d hd D hD hb => hg.block D (Array.getElem?_eq_some_iff.1 hb).1 (fun e => ?_), ownFrom_below (β := Unit) (Nat.le_refl _) (by omega) () A W' row h.below hg hr, h.lt, h.ltk⟩, hrow.keep fun _ _ _ hb => hk hb⟩, Two.of_block hN (hk hN)⟩
  have := (hr _ e.symm).1
  have := hds d hd D hD
  omega
end
theorem body_eq {x : En} : ∀ {ns : List Nat}, (∀ n ∈ ns, n < 13 ∧ mayN n (x.get n) = true) → ns.flatMap (fun n => putG n (x.get n)) = bodyL (pairsOf x ns)
  | [], _ => rfl
  | n :: ns, h => by
    rw [List.flatMap_cons, body_eq fun m hm => h m (List.mem_cons_of_mem _ hm), putG_eq (h n (List.mem_cons_self ..)).1 (h n (List.mem_cons_self ..)).2]
    rfl
theorem putG_all_len {x : En} (hx : x.ok) : ∀ (ps : List (Fin 13)), ((ps.map (·.val)).flatMap fun n => putG n (x.get n)).length ≤ 10 * ps.length
  | [] => by simp
  | p :: ps => by
    have h1 := putG_all_len hx ps
    have h2 := (putG_len p.isLt (hx.get p.val)).2
    simp only [List.map_cons, List.flatMap_cons, List.length_append, List.length_cons]
    omega

/-- append as one step of a region that draws, in a round, by its run. -/
theorem bstepIn_app {F : Fence} {n : Nat} {P : Program} {ops : Array Oper} {E : Prop} {w : World} {o : Oper} {a : Act} {K : Act → World → Prop} {Q : Exit → Act → World → Prop} (d : Option Tmp) (s x : Operand) (t tx : TypeId)
    (hg : o.guard = none) (hd : o.dst = d) (ho : o.op = .call { callee := .builtin .append, args := #[s, x], argTypes := #[t, tx] })
    {v y v' : Value} {w' : World} (hs : a.eval s = v) (hx : a.eval x = y) (hrun : ∀ ty, (Builtin.append_ #[t, tx] ty #[v, y]).run P w = .ok v' w') (h : K (a.put d v') w') :
    if Region.wanted o (yielded ops a.tmps) = true then Oper.wpIn F n P o a w K Q else E := by
  have hw : Region.wanted o (yielded ops a.tmps) = true := by simp [Region.wanted, hg]
  rw [if_pos hw]
  subst hd
  unfold Oper.wpIn
  refine ⟨?_, ?_⟩
  · simp [Oper.about, ho, resolve, Target.leads, Sem.run_pure]
  · rw [Oper.semAt_plain F _ _ (by rw [ho]; intro c hc'; cases hc')]
    simp [execOp, ho, resolve, invoke, builtin, hs, hx, hrun o.type, Result.andThen]
    exact h
theorem wpAnyIn_cut {F : Fence} {n : Nat} {P : Program} {md : Region.Mode} {ops : Array Oper} {Q : Exit → Act → World → Prop} {f f' : Nat} {l l' : Array Bool} {a0 : Act} {w0 : World} (Rel : Act → World → Prop)
    (h1 : ∀ a w, Rel a w → wpAnyIn F n P md ops Q f' l' a w) (h2 : (∀ a w, Rel a w → wpAnyIn F n P md ops Q f' l' a w) → wpAnyIn F n P md ops Q f l a0 w0) : wpAnyIn F n P md ops Q f l a0 w0 := h2 h1

def ldB : Op := Op.load 49 (Operand.tmp 4)
attribute [local go_sem] ldB

set_option maxRecDepth 100000 in
set_option maxHeartbeats 3200000 in
theorem eputsN_any (v : Value) (l : List En) (w : World) (hr : EnRow w v l) (hok : ∀ x ∈ l, x.ok) (hl0 : l.length ≤ 100000) (hl1 : ∀ k, (l.take k).all okB = true → ((l.take k).flatMap enL).length ≤ 10000) :
    Calls Tryd.prog 9 #[v] w fun e w' => e = .returned (.tuple #[.string ⟨(putS l).toArray⟩, .int .i64 (putE l)]) ∧ Below w.heap.size w w' := by
  have HLL := Lib.hid hl1
  clear hl1
  obtain ⟨pa, pc, rfl⟩ := hr.slice
  obtain ⟨vs, hvs⟩ : ∃ vs, vs = Value.slice pa l.length pc := ⟨_, rfl⟩
  refine (callsIn_wide (n := 4)).1 ?_
  refine callsIn_of_wp_marks Tryd.func9 rfl trivial ?_ rfl
  simp only [Tryd.ntmps9, List.size_toArray, List.length_cons, List.length_nil, Nat.reduceAdd, Nat.reduceSub, Array.replicate_succ, Array.replicate_zero, List.push_toArray, List.append_toArray, List.nil_append, List.cons_append]
  refine wpIn_wide.2 ?_
  go_wp2_with fail
  refine (kinds_any _).mono ?_
  rintro e w2 ⟨rfl, hM, hb2⟩
  have hbox : Boxed w2 w.heap.size 49 (.slice none 0 0) := (hb2.block _ (lt_al w _)).trans (Boxed.new w _ _)
  have hB2 : Below w.heap.size w w2 := below_nx (below1 w _) hb2 (Nat.le_refl _)
  simp only [World.size_alloc] at hM
  clear hb2
  go_wp2_with fail
  refine wp_loop (fun A W => ∃ (k : Nat) (ds : List Deferred) (bv : Value) (u1 u2 u3 u6 u7 u8 u9 u10 u11 u15 u16 u17 u18 u19 u20 u21 u22 u23 u24 u25 u26 u27 u28 u29 u30 u31 u32 u33 u34 u35 u36 u37 u38 u39 u40 u41 u42 u43 u44 u45 u46 u47 u48 : Value), A = { tmps := #[.slice pa l.length pc, u1, u2, u3, .pointer (some ⟨w.heap.size, 0, none⟩), .map (some (w.heap.size + 1)), u6, u7, u8, u9, u10, u11, .slice pa l.length pc, .int .i64 (l.length : Int), .int .i64 (k : Int), u15, u16, u17, u18, u19, u20, u21, u22, u23, u24, u25, u26, u27, u28, u29, u30, u31, u32, u33, u34, u35, u36, u37, u38, u39, u40, u41, u42, u43, u44, u45, u46, u47, u48], defers := ds } ∧ k ≤ l.length ∧ Coll w.heap.size W ds ∧ Boxed W w.heap.size 49 bv ∧ BR W w.heap.size bv ((l.take k).flatMap enL) ∧ KMap W (w.heap.size + 1) kindsL ∧ Below w.heap.size w W ∧ Hid ((l.take k).all okB = true)) (fun A _ => l.length - (intOf (A.tmps.getD 14 undef)).toNat) ⟨0, [], _, _, _, _, _, _, _, _, _, _, _, _, _, _, _, _, _, _, _, _, _, _, _, _, _, _, _, _, _, _, _, _, _, _, _, _, _, _, _, _, _, _, _, _, rfl, Nat.zero_le _, trivial, hbox, .inl ⟨rfl, rfl⟩, hM, hB2, Lib.hid rfl⟩ ?_
  clear hbox hM hB2 hvs
  rintro A wr ⟨k, ds, bv, u1, u2, u3, u6, u7, u8, u9, u10, u11, u15, u16, u17, u18, u19, u20, u21, u22, u23, u24, u25, u26, u27, u28, u29, u30, u31, u32, u33, u34, u35, u36, u37, u38, u39, u40, u41, u42, u43, u44, u45, u46, u47, u48, rfl, hk, hC, hbx, hbr, hMr, hBr, HA⟩
  by_cases hlt : k < l.length
  · have hlt' : (k : Int) < (l.length : Int) := by omega
    have q0 : (0 : Int) ≤ (k : Int) := by omega
    obtain ⟨x, hx⟩ : ∃ x, l[k]? = some x := ⟨_, List.getElem?_eq_getElem hlt⟩
    have hxok := hok x (List.mem_of_getElem? hx)
    obtain ⟨b, off, rfl, hbl, x0, x1, x2, x3, x4, x5, x6, x7, x8, x9, x10, x11, x12⟩ := (hr.below hBr).at hx
    have HX := Lib.hid hx
    clear hx
    obtain ⟨wx, hwx⟩ : ∃ wx, wx = wr.alloc (.cells #[.int .i64 x.a, .int .u8 (x.k : Int), .int .i64 x.w, .int .i64 x.t, .int .i64 x.p, .int .i64 x.c, .int .i64 x.b, .int .i64 x.q, .int .i64 x.v, .int .i64 x.u, .bool x.o, .int .i64 x.e, .int .u64 (x.s : Int)] 26) := ⟨_, rfl⟩
    have hbwx : But [] wr wx := by rw [hwx]; exact (But.refl [] wr).alloc _
    have hX : EnAt wx wr.heap.size x := by rw [hwx]; exact enAt_new wr x
    have hko := kindOf_any (w.heap.size + 1) x hxok wx (hMr.fresh hbwx)
    obtain ⟨wd, hwd⟩ : ∃ wd : ByteArray, wd = ⟨(wordL x.k).toArray⟩ := ⟨_, rfl⟩
    obtain ⟨m, hm⟩ : ∃ m, m = maskN x.k := ⟨_, rfl⟩
    have hkv : kinV x.k = .agg #[.string wd, .int .u64 (m : Int)] := by rw [hwd, hm]; rfl
    have hm64 : m < 18446744073709551616 := by have := maskN_lt x.k; omega
    have HN : Hid ((nsTo 13 m).map (·.val) = namesOf x.k) := Lib.hid (by rw [hm]; exact nsOf_map x.k)
    rw [hkv] at hko
    clear hkv hwd hm
    unfold En.val at hko
    go_wp2_with fail
    rw [← hwx]
    refine hko.mono ?_
    clear hko x0 x1 x2 x3 x4 x5 x6 x7 x8 x9 x10 x11 x12
    rintro e w3 ⟨rfl, hb3⟩
    have hbr3 : But [] wr w3 := hbwx.next (But.of_below hb3 [])
    have hB3 := hBr.trans (hbr3.below hBr.size (by simp))
    have hC3 : Coll w.heap.size w3 ds := hC.keep fun D _ h => hbr3.block D (Array.getElem?_eq_some_iff.1 h).1 (by simp)
    have hX3 := hX.of_block (hb3.block _ hX.lt)
    have hbx3 : Boxed w3 w.heap.size 49 bv := (hbr3.block _ (Boxed.lt hbx) (by simp)).trans hbx
    have hrow3 := hbr.fresh hbr3
    have hM3 := hMr.fresh hbr3
    have hszr : w.heap.size + 1 < wr.heap.size := hMr.lt
    have hxl3 : wr.heap.size < w3.heap.size := hX3.lt
    clear hwx hbwx hX hb3 hbr3 hBr hC hbx hbr hMr
    cases hokx : okB x with
    | false =>
      have HP : Hid (putS l = [] ∧ putE l = 2) := Lib.hid (by
        have : l.all okB = false := by
          cases e : l.all okB with
          | false => rfl
          | true => rw [(List.all_eq_true.1 e) x (List.mem_of_getElem? HX.out)] at hokx; cases hokx
        unfold putS putE
        rw [this]
        exact ⟨rfl, rfl⟩)
      have hal : ∀ o, But [] w3 (w3.alloc o) := fun o => (But.refl [] w3).alloc o
      clear hokx
      go_wp2_with fail
      refine leaves_coll (base := w.heap.size) (v := .tuple #[.string ⟨#[]⟩, .int .i64 2]) (fun W => by simp [results, Tryd.f9, go_sem]) ds _ (hC3.keep fun D _ h => (hal _).block D (Array.getElem?_eq_some_iff.1 h).1 (by simp)) (Nat.le_trans hB3.size (hal _).size) fun W' hW' => ⟨by rw [HP.out.1, HP.out.2], (hB3.trans ((hal _).below hB3.size (by simp))).trans hW'⟩
    | true =>
      have ha0 := (okB_iff.1 hokx).2.2.1
      obtain ⟨za, hza⟩ := Int.eq_ofNat_of_zero_le ha0
      have hza64 : za < 18446744073709551616 := by have := hxok.a; unfold I64b at this; omega
      have hk256 := hxok.k
      have q1 : IntKind.u64.wrap x.a = (za : Int) := by rw [IntKind.wrap_u64, hza]; omega
      have q2 : IntKind.u64.wrap (x.k : Int) = (x.k : Int) := by rw [IntKind.wrap_u64]; omega
      have HOK := Lib.hid hokx
      have HZA : Hid (x.a.toNat = za) := Lib.hid (by omega)
      obtain ⟨w4, hw4⟩ : ∃ w4, w4 = w3.alloc (.cells #[.string wd, .int .u64 (m : Int)] 44) := ⟨_, rfl⟩
      have hb4 : But [] w3 w4 := by rw [hw4]; exact (But.refl [] w3).alloc _
      have hK4 : KdAt w4 w3.heap.size wd m := by rw [hw4]; exact two_new w3 _ _ _
      have hG4 : PSt w w4 wr.heap.size w3.heap.size x wd m ds bv := ⟨(hb4.block _ (Boxed.lt hbx3) (by simp)).trans hbx3, hX3.but hb4 (by simp), hK4, hM3.fresh hb4, hC3.keep fun D _ h => hb4.block D (Array.getElem?_eq_some_iff.1 h).1 (by simp), hB3.trans (hb4.below hB3.size (by simp)), hszr, by omega⟩
      have hrow4 := hrow3.fresh hb4
      clear hokx hza ha0 hB3 hC3 hX3 hbx3 hrow3 hM3 hb4 hK4
      go_wp2_with fail
      rw [← hw4]
      clear hw4
      obtain ⟨pre, hpre⟩ : ∃ pre, pre = (l.take k).flatMap enL := ⟨_, rfl⟩
      rw [← hpre] at hrow4
      have hprel : pre.length ≤ 10000 := by
        rw [hpre]
        exact HLL.out k HA.out
      have HPRE := Lib.hid hpre
      clear hpre
      obtain ⟨hd, hhd⟩ : ∃ hd, hd = numL za ++ numL x.k := ⟨_, rfl⟩
      have hdl : 0 < hd.length ∧ hd.length ≤ 20 := by
        have h1 := numL_le hza64
        have h2 := numL_le (u := x.k) (by omega)
        have h3 := numL_pos za
        rw [hhd, List.length_append]; omega
      have crow : Calls Tryd.prog 29 #[.slice (some ⟨w4.heap.size, 0, none⟩) 2 2] (w4.alloc (.cells #[.int .u64 (za : Int), .int .u64 (x.k : Int)] 23)).drew fun e w' => e = .returned (.string ⟨hd.toArray⟩) ∧ But [] w4 w' := by
        have h1 : Row64 (w4.alloc (.cells #[.int .u64 (za : Int), .int .u64 (x.k : Int)] 23)).drew (.slice (some ⟨w4.heap.size, 0, none⟩) 2 2) [za, x.k] :=
          Row64.of_owns (base := 0) (World.ownsRow_lit (size := 1) w4 #[.int .u64 (za : Int), .int .u64 (x.k : Int)] 2 (Nat.zero_le _) (by unfold maxLen; omega) rfl)
        refine (row_any _ _ _ h1 (by intro y hy; simp at hy; omega) (by simp)).mono fun e w' ⟨h2, h3⟩ => ⟨by rw [h2, hhd]; simp [rowL], ((But.refl [] w4).alloc _).drew.next (But.of_below h3 [])⟩
      have HHD := Lib.hid hhd
      clear hhd
      have hkS : ∀ W, EnAt W wr.heap.size x → W.cell? ⟨wr.heap.size, 0, none⟩ = some (.int .i64 x.a) ∧ W.cell? ⟨wr.heap.size, 1, none⟩ = some (.int .u8 (x.k : Int)) := fun W h => ⟨h.c0, h.c1⟩
      have hX4d : EnAt w4.drew wr.heap.size x := hG4.x
      have hX4a : ∀ o, EnAt (w4.alloc o).drew wr.heap.size x := fun o => hG4.x.alloc o
      have b4 := Boxed.cell hG4.box
      have b4a := fun o => ((But.refl [] w4).alloc o).cell b4 (by simp)
      obtain ⟨va, vc, rfl⟩ := hrow4.slice
      obtain ⟨n0, hn0⟩ : ∃ n0, n0 = pre.length := ⟨_, rfl⟩
      rw [← hn0] at hrow4 hG4 b4 b4a
      have HN0 := Lib.hid hn0
      clear hn0
      obtain ⟨hs, hhs⟩ : ∃ hs : ByteArray, hs = ⟨hd.toArray⟩ := ⟨_, rfl⟩
      have happ : ∀ w5, But [] w4 w5 → ∃ (p : Option Addr) (q : Nat) (w6 : World), (∀ ty, (Builtin.append_ #[49, 9] ty #[.slice va n0 vc, .string hs]).run Tryd.prog w5 = .ok (.slice p (n0 + hd.length) q) w6) ∧ BRow w6 w.heap.size (.slice p (n0 + hd.length) q) (pre ++ hd) ∧ Bys w.heap.size w5 w6 := fun w5 hb5 => by
        obtain ⟨v', w6, h1, h2, h3⟩ := bapps (hrow4.fresh hb5) (by have := hb5.size; have := hG4.below.size; omega) hd hdl.1 (by omega)
        obtain ⟨p, q, rfl⟩ := h2.slice
        rw [List.length_append, ← HN0.out] at h1 h2
        exact ⟨p, q, w6, by rw [hhs]; exact h1, h2, h3⟩
      rw [← hhs] at crow
      have HHS := Lib.hid hhs
      clear hhs
      obtain ⟨n1, hn1⟩ : ∃ n1, n1 = n0 + hd.length := ⟨_, rfl⟩
      rw [← hn1] at happ
      have HN1 := Lib.hid hn1
      clear hn1
      rw [show Op.load 49 (Operand.tmp 4) = ldB from rfl]
      go_cut [35] from 26 to 34 (fun rv W => ∃ p q, rv = .slice p n1 q ∧ PSt w W wr.heap.size w3.heap.size x wd m ds rv ∧ BRow W w.heap.size rv (pre ++ hd))
      case first =>
        go_region_held3 (fun w' => w'.cell? ⟨wr.heap.size, 0, none⟩ = some (.int .i64 x.a) ∧ w'.cell? ⟨wr.heap.size, 1, none⟩ = some (.int .u8 (x.k : Int)))
          ((refine hkS _ ?_; with_reducible first | exact hX4d | exact hX4a _ | exact hX5 | exact hX6 | exact hX7))
          ((first
            | (go_at_call 29; (with_reducible refine crow.mono ?_); rintro e w5 ⟨rfl, hb5⟩; have hG5 := hG4.fresh hb5; have hX5 := hG5.x; have b5 := Boxed.cell hG5.box; obtain ⟨p, q, w6, hrun, hrow6, hby6⟩ := happ w5 hb5; have hG6 := hG5.bys hby6; have hX6 := hG6.x; have b6 := Boxed.cell hG6.box; have f6 := Boxed.frozen hG6.box; have hG7 := hG6.set (.slice p n1 q); have hX7 := hG7.x)
            | (refine bstep_app _ _ _ _ _ rfl rfl rfl rfl rfl hrun ?_)))
        all_goals go_wp2_with fail
        all_goals go_meet
        all_goals exact ⟨_, _, rfl, hG7, hrow6.keep fun k' cs z hk' => ((But.refl [w.heap.size] w6).set (p := ⟨w.heap.size, 0, none⟩) (.inl (by simp)) _).block k' (Array.getElem?_eq_some_iff.1 hk').1 (fun hm => by
          obtain rfl := List.mem_singleton.1 hm
          rw [show w6.heap[w.heap.size]? = _ from hG6.box] at hk'
          simp only [Option.some.injEq, Obj.cells.injEq] at hk'
          exact absurd hk'.2.1 (by decide))⟩
      case rest =>
        obtain ⟨p, q, rfl, hG, hrow⟩ := hcut
        have k0 := Two.c0 hG.k
        have k1 := Two.c1 hG.k
        have hnm := named_any wd m wc
        go_wp2_with fail
        refine hnm.mono ?_
        rintro e w7 ⟨rfl, hw7⟩
        have hb7 : But [] wc w7 := by rw [hw7]; exact (But.refl [] wc).alloc _
        have hN7 : KdAt w7 wc.heap.size wd m := by rw [hw7]; exact two_new wc _ _ _
        have hG7 := hG.fresh hb7
        have hrow7 := hrow.fresh hb7
        have hNl := KdAt.lt hN7
        have hwc : w.heap.size + 1 < wc.heap.size := hG.map.lt
        have hds : ∀ d ∈ ds, ∀ D, d.target = .collected D → D < w7.heap.size := Coll.lt hG7.coll
        clear hnm hw7 hb7 hG hrow k0 k1 hG4 hrow4 crow happ b4 b4a hX4d hX4a hkS
        go_wp2_with fail
        refine (wpIn_wide (n := 4)).1 ?_
        refine wpIn_rangeFunc_ownG rfl (by omega) (gf := 42) (lb := #[.pointer (some ⟨wc.heap.size, 0, none⟩)]) rfl trivial (enters_of Tryd.func42 (by kernel_rfl) rfl)
          (iter_named hm64 hN7) (fun h k => KeepK.trans h k) (fun W l o o' hl ho hc _ => keepK_putObj W l o o' (by omega) ho hc) (Below.refl _ _) (fun _ => rfl)
          (fun ps W => (∃ v, PSt w W wr.heap.size w3.heap.size x wd m ds v ∧ BRow W w.heap.size v ((pre ++ hd) ++ (ps.map (·.val)).flatMap fun n => putG n (x.get n))) ∧ KdAt W wc.heap.size wd m)
          (fun _ _ _ => False)
          (pst_abides w wr.heap.size w3.heap.size wc.heap.size x wd m ds (fun ps : List (Fin 13) => (pre ++ hd) ++ (ps.map (·.val)).flatMap fun n => putG n (x.get n)) _ (by omega) hds)
          (fun _ _ _ _ _ hs _ _ => hs)
          ⟨⟨_, hG7, by simpa using hrow7⟩, hN7⟩ ?a1 ?assign ?body ?done ?stop
        case assign =>
          intro l p W K hK
          gi_wp2
          exact hK
        case body =>
          rintro lp ps p W ⟨⟨v, hG, hrow⟩, hN⟩ hlt2
          obtain ⟨bs, hbs⟩ : ∃ bs, bs = (pre ++ hd) ++ (ps.map (·.val)).flatMap fun n => putG n (x.get n) := ⟨_, rfl⟩
          have hbsl : bs.length ≤ 20000 := by
            have h1 := putG_all_len hxok ps
            rw [hbs, List.length_append, List.length_append]
            omega
          obtain ⟨g, hg⟩ : ∃ g, g = putG p.val (x.get p.val) := ⟨_, rfl⟩
          have hgl : 0 < g.length ∧ g.length ≤ 10 := by rw [hg]; exact putG_len p.isLt (hxok.get p.val)
          have HBS : Hid ((pre ++ hd) ++ ((ps ++ [p]).map (·.val)).flatMap (fun n => putG n (x.get n)) = bs ++ g) := Lib.hid (by rw [hbs, hg]; simp)
          rw [← hbs] at hrow
          obtain ⟨gs, hgs⟩ : ∃ gs : ByteArray, gs = ⟨g.toArray⟩ := ⟨_, rfl⟩
          obtain ⟨vp, hvp⟩ : ∃ vp, vp = x.get p.val := ⟨_, rfl⟩
          have hvb : I64b vp := by rw [hvp]; exact hxok.get p.val
          have ct : Calls Tryd.prog 24 #[.agg #[.int .i64 x.a, .int .u8 (x.k : Int), .int .i64 x.w, .int .i64 x.t, .int .i64 x.p, .int .i64 x.c, .int .i64 x.b, .int .i64 x.q, .int .i64 x.v, .int .i64 x.u, .bool x.o, .int .i64 x.e, .int .u64 (x.s : Int)], .int .i64 (p.val : Int)] W.drew fun e w' => e = .returned (.int .i64 vp) ∧ But [] W w' := by
            rw [hvp]
            exact (tell_any x p.val hxok p.isLt W.drew).mono fun e w' ⟨h1, h2⟩ => ⟨h1, (But.refl [] W).drew.next (But.of_below h2 [])⟩
          have cp : ∀ W2, But [] W W2 → Calls Tryd.prog 30 #[.int .i64 (p.val : Int), .int .i64 vp] W2 fun e w' => e = .returned (.string gs) ∧ But [] W w' := fun W2 hW2 => by
            have := eput_any p.val vp p.isLt hvb W2
            rw [hvp, ← hg, ← hgs, ← hvp] at this
            exact this.mono fun e w' ⟨h1, h2⟩ => ⟨h1, hW2.next (But.of_below h2 [])⟩
          obtain ⟨va, vc, rfl⟩ := hrow.slice
          have happ : ∀ W3, But [] W W3 → ∃ (p' : Option Addr) (q : Nat) (w6 : World), (∀ ty, (Builtin.append_ #[49, 9] ty #[.slice va bs.length vc, .string gs]).run Tryd.prog W3 = .ok (.slice p' (bs ++ g).length q) w6) ∧ BRow w6 w.heap.size (.slice p' (bs ++ g).length q) (bs ++ g) ∧ Bys w.heap.size W3 w6 := fun W3 hW3 => by
            obtain ⟨v', w6, h1, h2, h3⟩ := bapps (.inr (hrow.fresh hW3)) (by have := hW3.size; have := hG.below.size; omega) g hgl.1 (by omega)
            obtain ⟨p', q, rfl⟩ := h2.slice
            exact ⟨p', q, w6, by rw [hgs]; exact h1, h2, h3⟩
          obtain ⟨n1, hn1⟩ : ∃ n1, n1 = (bs ++ g).length := ⟨_, rfl⟩
          obtain ⟨n0, hn0⟩ : ∃ n0, n0 = bs.length := ⟨_, rfl⟩
          rw [← hn1, ← hn0] at happ
          rw [← hn0] at hG
          have hkS : ∀ W2, EnAt W2 wr.heap.size x → W2.cell? ⟨wr.heap.size, 0, none⟩ = some (.int .i64 x.a) ∧ W2.cell? ⟨wr.heap.size, 1, none⟩ = some (.int .u8 (x.k : Int)) ∧ W2.cell? ⟨wr.heap.size, 2, none⟩ = some (.int .i64 x.w) ∧ W2.cell? ⟨wr.heap.size, 3, none⟩ = some (.int .i64 x.t) ∧ W2.cell? ⟨wr.heap.size, 4, none⟩ = some (.int .i64 x.p) ∧ W2.cell? ⟨wr.heap.size, 5, none⟩ = some (.int .i64 x.c) ∧ W2.cell? ⟨wr.heap.size, 6, none⟩ = some (.int .i64 x.b) ∧ W2.cell? ⟨wr.heap.size, 7, none⟩ = some (.int .i64 x.q) ∧ W2.cell? ⟨wr.heap.size, 8, none⟩ = some (.int .i64 x.v) ∧ W2.cell? ⟨wr.heap.size, 9, none⟩ = some (.int .i64 x.u) ∧ W2.cell? ⟨wr.heap.size, 10, none⟩ = some (.bool x.o) ∧ W2.cell? ⟨wr.heap.size, 11, none⟩ = some (.int .i64 x.e) ∧ W2.cell? ⟨wr.heap.size, 12, none⟩ = some (.int .u64 (x.s : Int)) := fun W2 h => ⟨h.c0, h.c1, h.c2, h.c3, h.c4, h.c5, h.c6, h.c7, h.c8, h.c9, h.c10, h.c11, h.c12⟩
          have hXd : EnAt W.drew wr.heap.size x := hG.x
          have b4 := Boxed.cell hG.box
          clear hn1 hn0 hbs hg hgs hvp
          have hend : ∀ (p' : Option Addr) (q' : Nat) (w2 w6 : World) (cs : Array Value) (_ : Unit), But [] W w2 → Bys w.heap.size w2 w6 → BRow w6 w.heap.size (.slice p' n1 q') (bs ++ g) →
              ownPostG w7.heap.size (KeepK wc.heap.size) (fun ps W => (∃ v, PSt w W wr.heap.size w3.heap.size x wd m ds v ∧ BRow W w.heap.size v ((pre ++ hd) ++ (ps.map (·.val)).flatMap fun n => putG n (x.get n))) ∧ KdAt W wc.heap.size wd m) (fun _ _ _ => False) (ps ++ [p]) W .normal { tmps := cs, defers := [] } (w6.setCell ⟨w.heap.size, 0, none⟩ (.slice p' n1 q')) := fun p' q' w2 w6 cs _ hb2 hby6 hrow6 => by
            have hG6 := (hG.fresh hb2).bys hby6
            have hk6 : But [w.heap.size] w6 (w6.setCell ⟨w.heap.size, 0, none⟩ (.slice p' n1 q')) := (But.refl [w.heap.size] w6).set (p := ⟨w.heap.size, 0, none⟩) (.inl (by simp)) _
            have hN6 : KdAt w6 wc.heap.size wd m := Two.of_block (hN.but hb2 (by simp)) (hby6.same (hN.but hb2 (by simp)) (by decide))
            refine ⟨((keepsFrom_but hb2 (by simp)).trans hby6.keepsFrom).trans (keepsFrom_but hk6 (by simp; omega)), KeepK.trans (KeepK.trans (hN.keeps hb2 (by simp)) (hby6.same (hN.but hb2 (by simp)) (by decide))) (hN6.keeps hk6 (by simp; omega)), ⟨_, hG6.set _, ?_⟩, hN6.but hk6 (by simp; omega)⟩
            rw [HBS.out]
            exact hrow6.keep fun k' cs z hk' => hk6.block k' (Array.getElem?_eq_some_iff.1 hk').1 (fun hm => by
              obtain rfl := List.mem_singleton.1 hm
              rw [show w6.heap[w.heap.size]? = _ from hG6.box] at hk'
              simp only [Option.some.injEq, Obj.cells.injEq] at hk'
              exact absurd hk'.2.1 (by decide))
          obtain ⟨x0, x1, x2, x3, x4, x5, x6, x7, x8, x9, x10, x11, x12⟩ := hkS _ hG.x
          clear hkS hXd HBS
          gi_wp2_with fail
          refine wpIn_region_any (by kernel_rfl) ?_
          change wpAnyIn _ _ _ _ _ _ _ _ _ (World.drew _)
          refine wpAnyIn_cut (f' := 1) (l' := #[true, true, true, true, true, true, true, false]) (fun A W' => ∃ (p' : Option Addr) (q' : Nat) (w2 : World) (c0 c1 c2 c3 c5 c6 c8 c9 c11 c12 c13 c14 c15 c16 c17 c18 c19 c20 c21 c22 c23 c24 c25 c26 c27 c28 c29 c30 c31 c32 c33 c34 c35 c36 c37 c38 c46 c47 c48 : Value), A = { tmps := #[c0, c1, c2, c3, .pointer (some ⟨w.heap.size, 0, none⟩), c5, c6, .pointer (some ⟨wr.heap.size, 0, none⟩), c8, c9, .int .i64 (p.val : Int), c11, c12, c13, c14, c15, c16, c17, c18, c19, c20, c21, c22, c23, c24, c25, c26, c27, c28, c29, c30, c31, c32, c33, c34, c35, c36, c37, c38, .slice va n0 vc, .int .i64 (p.val : Int), .agg #[.int .i64 x.a, .int .u8 (x.k : Int), .int .i64 x.w, .int .i64 x.t, .int .i64 x.p, .int .i64 x.c, .int .i64 x.b, .int .i64 x.q, .int .i64 x.v, .int .i64 x.u, .bool x.o, .int .i64 x.e, .int .u64 (x.s : Int)], .int .i64 (p.val : Int), .int .i64 vp, .string gs, .slice p' n1 q', c46, c47, c48], defers := [] } ∧ But [] W w2 ∧ Bys w.heap.size w2 W' ∧ BRow W' w.heap.size (.slice p' n1 q') (bs ++ g)) ?_ ?_
          · rintro A W' ⟨p', q', w2, c0, c1, c2, c3, c5, c6, c8, c9, c11, c12, c13, c14, c15, c16, c17, c18, c19, c20, c21, c22, c23, c24, c25, c26, c27, c28, c29, c30, c31, c32, c33, c34, c35, c36, c37, c38, c46, c47, c48, rfl, hb2, hby6, hrow6⟩
            refine wpAnyIn_ready (rs := [7]) (by kernel_rfl) (by simp) ?_
            refine AllReadyIn.cons rfl (fun K hK => ?_) ?_
            · have hG6 := (hG.fresh hb2).bys hby6
              have b6 := Boxed.cell hG6.box
              have f6 := Boxed.frozen hG6.box
              go_simp
              refine hK _ _ (wpAnyIn_done (by kernel_rfl) ?_ _)
              exact hend _ _ _ _ #[] () hb2 hby6 hrow6
            exact AllReadyIn.nil
          intro h_0123456
          refine wpAnyIn_cut (f' := 2) (l' := #[true, true, true, true, true, true, false, false]) (fun A W' => ∃ (c0 c1 c2 c3 c5 c6 c8 c9 c11 c12 c13 c14 c15 c16 c17 c18 c19 c20 c21 c22 c23 c24 c25 c26 c27 c28 c29 c30 c31 c32 c33 c34 c35 c36 c37 c38 c45 c46 c47 c48 : Value), A = { tmps := #[c0, c1, c2, c3, .pointer (some ⟨w.heap.size, 0, none⟩), c5, c6, .pointer (some ⟨wr.heap.size, 0, none⟩), c8, c9, .int .i64 (p.val : Int), c11, c12, c13, c14, c15, c16, c17, c18, c19, c20, c21, c22, c23, c24, c25, c26, c27, c28, c29, c30, c31, c32, c33, c34, c35, c36, c37, c38, .slice va n0 vc, .int .i64 (p.val : Int), .agg #[.int .i64 x.a, .int .u8 (x.k : Int), .int .i64 x.w, .int .i64 x.t, .int .i64 x.p, .int .i64 x.c, .int .i64 x.b, .int .i64 x.q, .int .i64 x.v, .int .i64 x.u, .bool x.o, .int .i64 x.e, .int .u64 (x.s : Int)], .int .i64 (p.val : Int), .int .i64 vp, .string gs, c45, c46, c47, c48], defers := [] } ∧ But [] W W') ?_ ?_
          · rintro A W' ⟨c0, c1, c2, c3, c5, c6, c8, c9, c11, c12, c13, c14, c15, c16, c17, c18, c19, c20, c21, c22, c23, c24, c25, c26, c27, c28, c29, c30, c31, c32, c33, c34, c35, c36, c37, c38, c45, c46, c47, c48, rfl, hbw⟩
            refine wpAnyIn_ready (rs := [6]) (by kernel_rfl) (by simp) ?_
            refine AllReadyIn.cons rfl (fun K hK => ?_) ?_
            · obtain ⟨p', q', w6, hrun, hrow6, hby6⟩ := happ _ hbw
              refine bstepIn_app (some 45) (.tmp 39) (.tmp 44) _ _ rfl rfl rfl rfl rfl hrun ?_
              exact hK _ _ (h_0123456 _ _ ⟨_, _, _, _, _, _, _, _, _, _, _, _, _, _, _, _, _, _, _, _, _, _, _, _, _, _, _, _, _, _, _, _, _, _, _, _, _, _, _, _, _, _, rfl, hbw, hby6, hrow6⟩)
            exact AllReadyIn.nil
          intro h_012345
          refine wpAnyIn_cut (f' := 3) (l' := #[true, true, true, true, true, false, false, false]) (fun A W' => ∃ (c0 c1 c2 c3 c5 c6 c8 c9 c11 c12 c13 c14 c15 c16 c17 c18 c19 c20 c21 c22 c23 c24 c25 c26 c27 c28 c29 c30 c31 c32 c33 c34 c35 c36 c37 c38 c44 c45 c46 c47 c48 : Value), A = { tmps := #[c0, c1, c2, c3, .pointer (some ⟨w.heap.size, 0, none⟩), c5, c6, .pointer (some ⟨wr.heap.size, 0, none⟩), c8, c9, .int .i64 (p.val : Int), c11, c12, c13, c14, c15, c16, c17, c18, c19, c20, c21, c22, c23, c24, c25, c26, c27, c28, c29, c30, c31, c32, c33, c34, c35, c36, c37, c38, .slice va n0 vc, .int .i64 (p.val : Int), .agg #[.int .i64 x.a, .int .u8 (x.k : Int), .int .i64 x.w, .int .i64 x.t, .int .i64 x.p, .int .i64 x.c, .int .i64 x.b, .int .i64 x.q, .int .i64 x.v, .int .i64 x.u, .bool x.o, .int .i64 x.e, .int .u64 (x.s : Int)], .int .i64 (p.val : Int), .int .i64 vp, c44, c45, c46, c47, c48], defers := [] } ∧ But [] W W') ?_ ?_
          · rintro A W' ⟨c0, c1, c2, c3, c5, c6, c8, c9, c11, c12, c13, c14, c15, c16, c17, c18, c19, c20, c21, c22, c23, c24, c25, c26, c27, c28, c29, c30, c31, c32, c33, c34, c35, c36, c37, c38, c44, c45, c46, c47, c48, rfl, hbw⟩
            refine wpAnyIn_ready (rs := [5]) (by kernel_rfl) (by simp) ?_
            refine AllReadyIn.cons rfl (fun K hK => ?_) ?_
            · go_simp
              gi_wp2_with (refine ⟨trivial, ?_⟩; gi_at_call 30; refine (callsIn_wide.2 (cp _ hbw)).mono ?_; rintro e W2 ⟨rfl, hb2⟩)
              exact h_012345 _ _ ⟨_, _, _, _, _, _, _, _, _, _, _, _, _, _, _, _, _, _, _, _, _, _, _, _, _, _, _, _, _, _, _, _, _, _, _, _, _, _, _, _, rfl, hb2⟩
            exact AllReadyIn.nil
          intro h_01234
          refine wpAnyIn_cut (f' := 3) (l' := #[false, true, true, true, true, true, false, false]) (fun A W' => ∃ (c0 c1 c2 c3 c5 c6 c8 c9 c11 c12 c13 c14 c15 c16 c17 c18 c19 c20 c21 c22 c23 c24 c25 c26 c27 c28 c29 c30 c31 c32 c33 c34 c35 c36 c37 c38 c39 c45 c46 c47 c48 : Value), A = { tmps := #[c0, c1, c2, c3, .pointer (some ⟨w.heap.size, 0, none⟩), c5, c6, .pointer (some ⟨wr.heap.size, 0, none⟩), c8, c9, .int .i64 (p.val : Int), c11, c12, c13, c14, c15, c16, c17, c18, c19, c20, c21, c22, c23, c24, c25, c26, c27, c28, c29, c30, c31, c32, c33, c34, c35, c36, c37, c38, c39, .int .i64 (p.val : Int), .agg #[.int .i64 x.a, .int .u8 (x.k : Int), .int .i64 x.w, .int .i64 x.t, .int .i64 x.p, .int .i64 x.c, .int .i64 x.b, .int .i64 x.q, .int .i64 x.v, .int .i64 x.u, .bool x.o, .int .i64 x.e, .int .u64 (x.s : Int)], .int .i64 (p.val : Int), .int .i64 vp, .string gs, c45, c46, c47, c48], defers := [] } ∧ But [] W W') ?_ ?_
          · rintro A W' ⟨c0, c1, c2, c3, c5, c6, c8, c9, c11, c12, c13, c14, c15, c16, c17, c18, c19, c20, c21, c22, c23, c24, c25, c26, c27, c28, c29, c30, c31, c32, c33, c34, c35, c36, c37, c38, c39, c45, c46, c47, c48, rfl, hbw⟩
            refine wpAnyIn_ready (rs := [0]) (by kernel_rfl) (by simp) ?_
            refine AllReadyIn.cons rfl (fun K hK => ?_) ?_
            · first | (have b4' := Boxed.cell (hG.fresh hbw).box; go_simp) | go_simp
              exact hK _ _ (h_012345 _ _ ⟨_, _, _, _, _, _, _, _, _, _, _, _, _, _, _, _, _, _, _, _, _, _, _, _, _, _, _, _, _, _, _, _, _, _, _, _, _, _, _, _, rfl, hbw⟩)
            exact AllReadyIn.nil
          intro h_12345
          refine wpAnyIn_cut (f' := 4) (l' := #[true, false, true, true, true, false, false, false]) (fun A W' => ∃ (c0 c1 c2 c3 c5 c6 c8 c9 c11 c12 c13 c14 c15 c16 c17 c18 c19 c20 c21 c22 c23 c24 c25 c26 c27 c28 c29 c30 c31 c32 c33 c34 c35 c36 c37 c38 c40 c44 c45 c46 c47 c48 : Value), A = { tmps := #[c0, c1, c2, c3, .pointer (some ⟨w.heap.size, 0, none⟩), c5, c6, .pointer (some ⟨wr.heap.size, 0, none⟩), c8, c9, .int .i64 (p.val : Int), c11, c12, c13, c14, c15, c16, c17, c18, c19, c20, c21, c22, c23, c24, c25, c26, c27, c28, c29, c30, c31, c32, c33, c34, c35, c36, c37, c38, .slice va n0 vc, c40, .agg #[.int .i64 x.a, .int .u8 (x.k : Int), .int .i64 x.w, .int .i64 x.t, .int .i64 x.p, .int .i64 x.c, .int .i64 x.b, .int .i64 x.q, .int .i64 x.v, .int .i64 x.u, .bool x.o, .int .i64 x.e, .int .u64 (x.s : Int)], .int .i64 (p.val : Int), .int .i64 vp, c44, c45, c46, c47, c48], defers := [] } ∧ But [] W W') ?_ ?_
          · rintro A W' ⟨c0, c1, c2, c3, c5, c6, c8, c9, c11, c12, c13, c14, c15, c16, c17, c18, c19, c20, c21, c22, c23, c24, c25, c26, c27, c28, c29, c30, c31, c32, c33, c34, c35, c36, c37, c38, c40, c44, c45, c46, c47, c48, rfl, hbw⟩
            refine wpAnyIn_ready (rs := [1]) (by kernel_rfl) (by simp) ?_
            refine AllReadyIn.cons rfl (fun K hK => ?_) ?_
            · go_simp
              exact hK _ _ (h_01234 _ _ ⟨_, _, _, _, _, _, _, _, _, _, _, _, _, _, _, _, _, _, _, _, _, _, _, _, _, _, _, _, _, _, _, _, _, _, _, _, _, _, _, _, _, rfl, hbw⟩)
            exact AllReadyIn.nil
          intro h_0234
          refine wpAnyIn_cut (f' := 4) (l' := #[false, true, true, true, true, false, false, false]) (fun A W' => ∃ (c0 c1 c2 c3 c5 c6 c8 c9 c11 c12 c13 c14 c15 c16 c17 c18 c19 c20 c21 c22 c23 c24 c25 c26 c27 c28 c29 c30 c31 c32 c33 c34 c35 c36 c37 c38 c39 c44 c45 c46 c47 c48 : Value), A = { tmps := #[c0, c1, c2, c3, .pointer (some ⟨w.heap.size, 0, none⟩), c5, c6, .pointer (some ⟨wr.heap.size, 0, none⟩), c8, c9, .int .i64 (p.val : Int), c11, c12, c13, c14, c15, c16, c17, c18, c19, c20, c21, c22, c23, c24, c25, c26, c27, c28, c29, c30, c31, c32, c33, c34, c35, c36, c37, c38, c39, .int .i64 (p.val : Int), .agg #[.int .i64 x.a, .int .u8 (x.k : Int), .int .i64 x.w, .int .i64 x.t, .int .i64 x.p, .int .i64 x.c, .int .i64 x.b, .int .i64 x.q, .int .i64 x.v, .int .i64 x.u, .bool x.o, .int .i64 x.e, .int .u64 (x.s : Int)], .int .i64 (p.val : Int), .int .i64 vp, c44, c45, c46, c47, c48], defers := [] } ∧ But [] W W') ?_ ?_
          · rintro A W' ⟨c0, c1, c2, c3, c5, c6, c8, c9, c11, c12, c13, c14, c15, c16, c17, c18, c19, c20, c21, c22, c23, c24, c25, c26, c27, c28, c29, c30, c31, c32, c33, c34, c35, c36, c37, c38, c39, c44, c45, c46, c47, c48, rfl, hbw⟩
            refine wpAnyIn_ready (rs := [0, 5]) (by kernel_rfl) (by simp) ?_
            refine AllReadyIn.cons rfl (fun K hK => ?_) ?_
            · first | (have b4' := Boxed.cell (hG.fresh hbw).box; go_simp) | go_simp
              exact hK _ _ (h_01234 _ _ ⟨_, _, _, _, _, _, _, _, _, _, _, _, _, _, _, _, _, _, _, _, _, _, _, _, _, _, _, _, _, _, _, _, _, _, _, _, _, _, _, _, _, rfl, hbw⟩)
            refine AllReadyIn.cons rfl (fun K hK => ?_) ?_
            · go_simp
              gi_wp2_with (refine ⟨trivial, ?_⟩; gi_at_call 30; refine (callsIn_wide.2 (cp _ hbw)).mono ?_; rintro e W2 ⟨rfl, hb2⟩)
              exact h_12345 _ _ ⟨_, _, _, _, _, _, _, _, _, _, _, _, _, _, _, _, _, _, _, _, _, _, _, _, _, _, _, _, _, _, _, _, _, _, _, _, _, _, _, _, _, rfl, hb2⟩
            exact AllReadyIn.nil
          intro h_1234
          refine wpAnyIn_cut (f' := 4) (l' := #[true, true, true, true, false, false, false, false]) (fun A W' => ∃ (c0 c1 c2 c3 c5 c6 c8 c9 c11 c12 c13 c14 c15 c16 c17 c18 c19 c20 c21 c22 c23 c24 c25 c26 c27 c28 c29 c30 c31 c32 c33 c34 c35 c36 c37 c38 c43 c44 c45 c46 c47 c48 : Value), A = { tmps := #[c0, c1, c2, c3, .pointer (some ⟨w.heap.size, 0, none⟩), c5, c6, .pointer (some ⟨wr.heap.size, 0, none⟩), c8, c9, .int .i64 (p.val : Int), c11, c12, c13, c14, c15, c16, c17, c18, c19, c20, c21, c22, c23, c24, c25, c26, c27, c28, c29, c30, c31, c32, c33, c34, c35, c36, c37, c38, .slice va n0 vc, .int .i64 (p.val : Int), .agg #[.int .i64 x.a, .int .u8 (x.k : Int), .int .i64 x.w, .int .i64 x.t, .int .i64 x.p, .int .i64 x.c, .int .i64 x.b, .int .i64 x.q, .int .i64 x.v, .int .i64 x.u, .bool x.o, .int .i64 x.e, .int .u64 (x.s : Int)], .int .i64 (p.val : Int), c43, c44, c45, c46, c47, c48], defers := [] } ∧ W' = W.drew) ?_ ?_
          · rintro A W' ⟨c0, c1, c2, c3, c5, c6, c8, c9, c11, c12, c13, c14, c15, c16, c17, c18, c19, c20, c21, c22, c23, c24, c25, c26, c27, c28, c29, c30, c31, c32, c33, c34, c35, c36, c37, c38, c43, c44, c45, c46, c47, c48, rfl, rfl⟩
            refine wpAnyIn_ready (rs := [4]) (by kernel_rfl) (by simp) ?_
            refine AllReadyIn.cons rfl (fun K hK => ?_) ?_
            · go_simp
              gi_wp2_with (refine ⟨trivial, ?_⟩; gi_at_call 24; refine (callsIn_wide.2 ct).mono ?_; rintro e W1 ⟨rfl, hb1⟩)
              exact h_01234 _ _ ⟨_, _, _, _, _, _, _, _, _, _, _, _, _, _, _, _, _, _, _, _, _, _, _, _, _, _, _, _, _, _, _, _, _, _, _, _, _, _, _, _, _, rfl, hb1⟩
            exact AllReadyIn.nil
          intro h_0123
          refine wpAnyIn_cut (f' := 5) (l' := #[false, false, true, true, true, false, false, false]) (fun A W' => ∃ (c0 c1 c2 c3 c5 c6 c8 c9 c11 c12 c13 c14 c15 c16 c17 c18 c19 c20 c21 c22 c23 c24 c25 c26 c27 c28 c29 c30 c31 c32 c33 c34 c35 c36 c37 c38 c39 c40 c44 c45 c46 c47 c48 : Value), A = { tmps := #[c0, c1, c2, c3, .pointer (some ⟨w.heap.size, 0, none⟩), c5, c6, .pointer (some ⟨wr.heap.size, 0, none⟩), c8, c9, .int .i64 (p.val : Int), c11, c12, c13, c14, c15, c16, c17, c18, c19, c20, c21, c22, c23, c24, c25, c26, c27, c28, c29, c30, c31, c32, c33, c34, c35, c36, c37, c38, c39, c40, .agg #[.int .i64 x.a, .int .u8 (x.k : Int), .int .i64 x.w, .int .i64 x.t, .int .i64 x.p, .int .i64 x.c, .int .i64 x.b, .int .i64 x.q, .int .i64 x.v, .int .i64 x.u, .bool x.o, .int .i64 x.e, .int .u64 (x.s : Int)], .int .i64 (p.val : Int), .int .i64 vp, c44, c45, c46, c47, c48], defers := [] } ∧ But [] W W') ?_ ?_
          · rintro A W' ⟨c0, c1, c2, c3, c5, c6, c8, c9, c11, c12, c13, c14, c15, c16, c17, c18, c19, c20, c21, c22, c23, c24, c25, c26, c27, c28, c29, c30, c31, c32, c33, c34, c35, c36, c37, c38, c39, c40, c44, c45, c46, c47, c48, rfl, hbw⟩
            refine wpAnyIn_ready (rs := [0, 1]) (by kernel_rfl) (by simp) ?_
            refine AllReadyIn.cons rfl (fun K hK => ?_) ?_
            · first | (have b4' := Boxed.cell (hG.fresh hbw).box; go_simp) | go_simp
              exact hK _ _ (h_0234 _ _ ⟨_, _, _, _, _, _, _, _, _, _, _, _, _, _, _, _, _, _, _, _, _, _, _, _, _, _, _, _, _, _, _, _, _, _, _, _, _, _, _, _, _, _, rfl, hbw⟩)
            refine AllReadyIn.cons rfl (fun K hK => ?_) ?_
            · go_simp
              exact hK _ _ (h_1234 _ _ ⟨_, _, _, _, _, _, _, _, _, _, _, _, _, _, _, _, _, _, _, _, _, _, _, _, _, _, _, _, _, _, _, _, _, _, _, _, _, _, _, _, _, _, rfl, hbw⟩)
            exact AllReadyIn.nil
          intro h_234
          refine wpAnyIn_cut (f' := 5) (l' := #[true, false, true, true, false, false, false, false]) (fun A W' => ∃ (c0 c1 c2 c3 c5 c6 c8 c9 c11 c12 c13 c14 c15 c16 c17 c18 c19 c20 c21 c22 c23 c24 c25 c26 c27 c28 c29 c30 c31 c32 c33 c34 c35 c36 c37 c38 c40 c43 c44 c45 c46 c47 c48 : Value), A = { tmps := #[c0, c1, c2, c3, .pointer (some ⟨w.heap.size, 0, none⟩), c5, c6, .pointer (some ⟨wr.heap.size, 0, none⟩), c8, c9, .int .i64 (p.val : Int), c11, c12, c13, c14, c15, c16, c17, c18, c19, c20, c21, c22, c23, c24, c25, c26, c27, c28, c29, c30, c31, c32, c33, c34, c35, c36, c37, c38, .slice va n0 vc, c40, .agg #[.int .i64 x.a, .int .u8 (x.k : Int), .int .i64 x.w, .int .i64 x.t, .int .i64 x.p, .int .i64 x.c, .int .i64 x.b, .int .i64 x.q, .int .i64 x.v, .int .i64 x.u, .bool x.o, .int .i64 x.e, .int .u64 (x.s : Int)], .int .i64 (p.val : Int), c43, c44, c45, c46, c47, c48], defers := [] } ∧ W' = W.drew) ?_ ?_
          · rintro A W' ⟨c0, c1, c2, c3, c5, c6, c8, c9, c11, c12, c13, c14, c15, c16, c17, c18, c19, c20, c21, c22, c23, c24, c25, c26, c27, c28, c29, c30, c31, c32, c33, c34, c35, c36, c37, c38, c40, c43, c44, c45, c46, c47, c48, rfl, rfl⟩
            refine wpAnyIn_ready (rs := [1, 4]) (by kernel_rfl) (by simp) ?_
            refine AllReadyIn.cons rfl (fun K hK => ?_) ?_
            · go_simp
              exact hK _ _ (h_0123 _ _ ⟨_, _, _, _, _, _, _, _, _, _, _, _, _, _, _, _, _, _, _, _, _, _, _, _, _, _, _, _, _, _, _, _, _, _, _, _, _, _, _, _, _, _, rfl, rfl⟩)
            refine AllReadyIn.cons rfl (fun K hK => ?_) ?_
            · go_simp
              gi_wp2_with (refine ⟨trivial, ?_⟩; gi_at_call 24; refine (callsIn_wide.2 ct).mono ?_; rintro e W1 ⟨rfl, hb1⟩)
              exact h_0234 _ _ ⟨_, _, _, _, _, _, _, _, _, _, _, _, _, _, _, _, _, _, _, _, _, _, _, _, _, _, _, _, _, _, _, _, _, _, _, _, _, _, _, _, _, _, rfl, hb1⟩
            exact AllReadyIn.nil
          intro h_023
          refine wpAnyIn_cut (f' := 5) (l' := #[false, true, true, true, false, false, false, false]) (fun A W' => ∃ (c0 c1 c2 c3 c5 c6 c8 c9 c11 c12 c13 c14 c15 c16 c17 c18 c19 c20 c21 c22 c23 c24 c25 c26 c27 c28 c29 c30 c31 c32 c33 c34 c35 c36 c37 c38 c39 c43 c44 c45 c46 c47 c48 : Value), A = { tmps := #[c0, c1, c2, c3, .pointer (some ⟨w.heap.size, 0, none⟩), c5, c6, .pointer (some ⟨wr.heap.size, 0, none⟩), c8, c9, .int .i64 (p.val : Int), c11, c12, c13, c14, c15, c16, c17, c18, c19, c20, c21, c22, c23, c24, c25, c26, c27, c28, c29, c30, c31, c32, c33, c34, c35, c36, c37, c38, c39, .int .i64 (p.val : Int), .agg #[.int .i64 x.a, .int .u8 (x.k : Int), .int .i64 x.w, .int .i64 x.t, .int .i64 x.p, .int .i64 x.c, .int .i64 x.b, .int .i64 x.q, .int .i64 x.v, .int .i64 x.u, .bool x.o, .int .i64 x.e, .int .u64 (x.s : Int)], .int .i64 (p.val : Int), c43, c44, c45, c46, c47, c48], defers := [] } ∧ W' = W.drew) ?_ ?_
          · rintro A W' ⟨c0, c1, c2, c3, c5, c6, c8, c9, c11, c12, c13, c14, c15, c16, c17, c18, c19, c20, c21, c22, c23, c24, c25, c26, c27, c28, c29, c30, c31, c32, c33, c34, c35, c36, c37, c38, c39, c43, c44, c45, c46, c47, c48, rfl, rfl⟩
            refine wpAnyIn_ready (rs := [0, 4]) (by kernel_rfl) (by simp) ?_
            refine AllReadyIn.cons rfl (fun K hK => ?_) ?_
            · first | (have b4' := Boxed.cell (hG.fresh hbw).box; go_simp) | go_simp
              exact hK _ _ (h_0123 _ _ ⟨_, _, _, _, _, _, _, _, _, _, _, _, _, _, _, _, _, _, _, _, _, _, _, _, _, _, _, _, _, _, _, _, _, _, _, _, _, _, _, _, _, _, rfl, rfl⟩)
            refine AllReadyIn.cons rfl (fun K hK => ?_) ?_
            · go_simp
              gi_wp2_with (refine ⟨trivial, ?_⟩; gi_at_call 24; refine (callsIn_wide.2 ct).mono ?_; rintro e W1 ⟨rfl, hb1⟩)
              exact h_1234 _ _ ⟨_, _, _, _, _, _, _, _, _, _, _, _, _, _, _, _, _, _, _, _, _, _, _, _, _, _, _, _, _, _, _, _, _, _, _, _, _, _, _, _, _, _, rfl, hb1⟩
            exact AllReadyIn.nil
          intro h_123
          refine wpAnyIn_cut (f' := 5) (l' := #[true, true, true, false, false, false, false, false]) (fun A W' => ∃ (c0 c1 c2 c3 c5 c6 c8 c9 c11 c12 c13 c14 c15 c16 c17 c18 c19 c20 c21 c22 c23 c24 c25 c26 c27 c28 c29 c30 c31 c32 c33 c34 c35 c36 c37 c38 c42 c43 c44 c45 c46 c47 c48 : Value), A = { tmps := #[c0, c1, c2, c3, .pointer (some ⟨w.heap.size, 0, none⟩), c5, c6, .pointer (some ⟨wr.heap.size, 0, none⟩), c8, c9, .int .i64 (p.val : Int), c11, c12, c13, c14, c15, c16, c17, c18, c19, c20, c21, c22, c23, c24, c25, c26, c27, c28, c29, c30, c31, c32, c33, c34, c35, c36, c37, c38, .slice va n0 vc, .int .i64 (p.val : Int), .agg #[.int .i64 x.a, .int .u8 (x.k : Int), .int .i64 x.w, .int .i64 x.t, .int .i64 x.p, .int .i64 x.c, .int .i64 x.b, .int .i64 x.q, .int .i64 x.v, .int .i64 x.u, .bool x.o, .int .i64 x.e, .int .u64 (x.s : Int)], c42, c43, c44, c45, c46, c47, c48], defers := [] } ∧ W' = W.drew) ?_ ?_
          · rintro A W' ⟨c0, c1, c2, c3, c5, c6, c8, c9, c11, c12, c13, c14, c15, c16, c17, c18, c19, c20, c21, c22, c23, c24, c25, c26, c27, c28, c29, c30, c31, c32, c33, c34, c35, c36, c37, c38, c42, c43, c44, c45, c46, c47, c48, rfl, rfl⟩
            refine wpAnyIn_ready (rs := [3]) (by kernel_rfl) (by simp) ?_
            refine AllReadyIn.cons rfl (fun K hK => ?_) ?_
            · go_simp
              exact hK _ _ (h_0123 _ _ ⟨_, _, _, _, _, _, _, _, _, _, _, _, _, _, _, _, _, _, _, _, _, _, _, _, _, _, _, _, _, _, _, _, _, _, _, _, _, _, _, _, _, _, rfl, rfl⟩)
            exact AllReadyIn.nil
          intro h_012
          refine wpAnyIn_cut (f' := 5) (l' := #[true, true, false, true, false, false, false, false]) (fun A W' => ∃ (c0 c1 c2 c3 c5 c6 c8 c9 c11 c12 c13 c14 c15 c16 c17 c18 c19 c20 c21 c22 c23 c24 c25 c26 c27 c28 c29 c30 c31 c32 c33 c34 c35 c36 c37 c38 c41 c43 c44 c45 c46 c47 c48 : Value), A = { tmps := #[c0, c1, c2, c3, .pointer (some ⟨w.heap.size, 0, none⟩), c5, c6, .pointer (some ⟨wr.heap.size, 0, none⟩), c8, c9, .int .i64 (p.val : Int), c11, c12, c13, c14, c15, c16, c17, c18, c19, c20, c21, c22, c23, c24, c25, c26, c27, c28, c29, c30, c31, c32, c33, c34, c35, c36, c37, c38, .slice va n0 vc, .int .i64 (p.val : Int), c41, .int .i64 (p.val : Int), c43, c44, c45, c46, c47, c48], defers := [] } ∧ W' = W.drew) ?_ ?_
          · rintro A W' ⟨c0, c1, c2, c3, c5, c6, c8, c9, c11, c12, c13, c14, c15, c16, c17, c18, c19, c20, c21, c22, c23, c24, c25, c26, c27, c28, c29, c30, c31, c32, c33, c34, c35, c36, c37, c38, c41, c43, c44, c45, c46, c47, c48, rfl, rfl⟩
            refine wpAnyIn_ready (rs := [2]) (by kernel_rfl) (by simp) ?_
            refine AllReadyIn.cons rfl (fun K hK => ?_) ?_
            · first | (have hX' := (hG.fresh hbw).x; have y0 := hX'.c0; have y1 := hX'.c1; have y2 := hX'.c2; have y3 := hX'.c3; have y4 := hX'.c4; have y5 := hX'.c5; have y6 := hX'.c6; have y7 := hX'.c7; have y8 := hX'.c8; have y9 := hX'.c9; have y10 := hX'.c10; have y11 := hX'.c11; have y12 := hX'.c12; go_simp) | go_simp
              exact hK _ _ (h_0123 _ _ ⟨_, _, _, _, _, _, _, _, _, _, _, _, _, _, _, _, _, _, _, _, _, _, _, _, _, _, _, _, _, _, _, _, _, _, _, _, _, _, _, _, _, _, rfl, rfl⟩)
            exact AllReadyIn.nil
          intro h_013
          refine wpAnyIn_cut (f' := 6) (l' := #[false, false, true, true, false, false, false, false]) (fun A W' => ∃ (c0 c1 c2 c3 c5 c6 c8 c9 c11 c12 c13 c14 c15 c16 c17 c18 c19 c20 c21 c22 c23 c24 c25 c26 c27 c28 c29 c30 c31 c32 c33 c34 c35 c36 c37 c38 c39 c40 c43 c44 c45 c46 c47 c48 : Value), A = { tmps := #[c0, c1, c2, c3, .pointer (some ⟨w.heap.size, 0, none⟩), c5, c6, .pointer (some ⟨wr.heap.size, 0, none⟩), c8, c9, .int .i64 (p.val : Int), c11, c12, c13, c14, c15, c16, c17, c18, c19, c20, c21, c22, c23, c24, c25, c26, c27, c28, c29, c30, c31, c32, c33, c34, c35, c36, c37, c38, c39, c40, .agg #[.int .i64 x.a, .int .u8 (x.k : Int), .int .i64 x.w, .int .i64 x.t, .int .i64 x.p, .int .i64 x.c, .int .i64 x.b, .int .i64 x.q, .int .i64 x.v, .int .i64 x.u, .bool x.o, .int .i64 x.e, .int .u64 (x.s : Int)], .int .i64 (p.val : Int), c43, c44, c45, c46, c47, c48], defers := [] } ∧ W' = W.drew) ?_ ?_
          · rintro A W' ⟨c0, c1, c2, c3, c5, c6, c8, c9, c11, c12, c13, c14, c15, c16, c17, c18, c19, c20, c21, c22, c23, c24, c25, c26, c27, c28, c29, c30, c31, c32, c33, c34, c35, c36, c37, c38, c39, c40, c43, c44, c45, c46, c47, c48, rfl, rfl⟩
            refine wpAnyIn_ready (rs := [0, 1, 4]) (by kernel_rfl) (by simp) ?_
            refine AllReadyIn.cons rfl (fun K hK => ?_) ?_
            · first | (have b4' := Boxed.cell (hG.fresh hbw).box; go_simp) | go_simp
              exact hK _ _ (h_023 _ _ ⟨_, _, _, _, _, _, _, _, _, _, _, _, _, _, _, _, _, _, _, _, _, _, _, _, _, _, _, _, _, _, _, _, _, _, _, _, _, _, _, _, _, _, _, rfl, rfl⟩)
            refine AllReadyIn.cons rfl (fun K hK => ?_) ?_
            · go_simp
              exact hK _ _ (h_123 _ _ ⟨_, _, _, _, _, _, _, _, _, _, _, _, _, _, _, _, _, _, _, _, _, _, _, _, _, _, _, _, _, _, _, _, _, _, _, _, _, _, _, _, _, _, _, rfl, rfl⟩)
            refine AllReadyIn.cons rfl (fun K hK => ?_) ?_
            · go_simp
              gi_wp2_with (refine ⟨trivial, ?_⟩; gi_at_call 24; refine (callsIn_wide.2 ct).mono ?_; rintro e W1 ⟨rfl, hb1⟩)
              exact h_234 _ _ ⟨_, _, _, _, _, _, _, _, _, _, _, _, _, _, _, _, _, _, _, _, _, _, _, _, _, _, _, _, _, _, _, _, _, _, _, _, _, _, _, _, _, _, _, rfl, hb1⟩
            exact AllReadyIn.nil
          intro h_23
          refine wpAnyIn_cut (f' := 6) (l' := #[true, false, false, true, false, false, false, false]) (fun A W' => ∃ (c0 c1 c2 c3 c5 c6 c8 c9 c11 c12 c13 c14 c15 c16 c17 c18 c19 c20 c21 c22 c23 c24 c25 c26 c27 c28 c29 c30 c31 c32 c33 c34 c35 c36 c37 c38 c40 c41 c43 c44 c45 c46 c47 c48 : Value), A = { tmps := #[c0, c1, c2, c3, .pointer (some ⟨w.heap.size, 0, none⟩), c5, c6, .pointer (some ⟨wr.heap.size, 0, none⟩), c8, c9, .int .i64 (p.val : Int), c11, c12, c13, c14, c15, c16, c17, c18, c19, c20, c21, c22, c23, c24, c25, c26, c27, c28, c29, c30, c31, c32, c33, c34, c35, c36, c37, c38, .slice va n0 vc, c40, c41, .int .i64 (p.val : Int), c43, c44, c45, c46, c47, c48], defers := [] } ∧ W' = W.drew) ?_ ?_
          · rintro A W' ⟨c0, c1, c2, c3, c5, c6, c8, c9, c11, c12, c13, c14, c15, c16, c17, c18, c19, c20, c21, c22, c23, c24, c25, c26, c27, c28, c29, c30, c31, c32, c33, c34, c35, c36, c37, c38, c40, c41, c43, c44, c45, c46, c47, c48, rfl, rfl⟩
            refine wpAnyIn_ready (rs := [1, 2]) (by kernel_rfl) (by simp) ?_
            refine AllReadyIn.cons rfl (fun K hK => ?_) ?_
            · go_simp
              exact hK _ _ (h_013 _ _ ⟨_, _, _, _, _, _, _, _, _, _, _, _, _, _, _, _, _, _, _, _, _, _, _, _, _, _, _, _, _, _, _, _, _, _, _, _, _, _, _, _, _, _, _, rfl, rfl⟩)
            refine AllReadyIn.cons rfl (fun K hK => ?_) ?_
            · first | (have hX' := (hG.fresh hbw).x; have y0 := hX'.c0; have y1 := hX'.c1; have y2 := hX'.c2; have y3 := hX'.c3; have y4 := hX'.c4; have y5 := hX'.c5; have y6 := hX'.c6; have y7 := hX'.c7; have y8 := hX'.c8; have y9 := hX'.c9; have y10 := hX'.c10; have y11 := hX'.c11; have y12 := hX'.c12; go_simp) | go_simp
              exact hK _ _ (h_023 _ _ ⟨_, _, _, _, _, _, _, _, _, _, _, _, _, _, _, _, _, _, _, _, _, _, _, _, _, _, _, _, _, _, _, _, _, _, _, _, _, _, _, _, _, _, _, rfl, rfl⟩)
            exact AllReadyIn.nil
          intro h_03
          refine wpAnyIn_cut (f' := 6) (l' := #[true, false, true, false, false, false, false, false]) (fun A W' => ∃ (c0 c1 c2 c3 c5 c6 c8 c9 c11 c12 c13 c14 c15 c16 c17 c18 c19 c20 c21 c22 c23 c24 c25 c26 c27 c28 c29 c30 c31 c32 c33 c34 c35 c36 c37 c38 c40 c42 c43 c44 c45 c46 c47 c48 : Value), A = { tmps := #[c0, c1, c2, c3, .pointer (some ⟨w.heap.size, 0, none⟩), c5, c6, .pointer (some ⟨wr.heap.size, 0, none⟩), c8, c9, .int .i64 (p.val : Int), c11, c12, c13, c14, c15, c16, c17, c18, c19, c20, c21, c22, c23, c24, c25, c26, c27, c28, c29, c30, c31, c32, c33, c34, c35, c36, c37, c38, .slice va n0 vc, c40, .agg #[.int .i64 x.a, .int .u8 (x.k : Int), .int .i64 x.w, .int .i64 x.t, .int .i64 x.p, .int .i64 x.c, .int .i64 x.b, .int .i64 x.q, .int .i64 x.v, .int .i64 x.u, .bool x.o, .int .i64 x.e, .int .u64 (x.s : Int)], c42, c43, c44, c45, c46, c47, c48], defers := [] } ∧ W' = W.drew) ?_ ?_
          · rintro A W' ⟨c0, c1, c2, c3, c5, c6, c8, c9, c11, c12, c13, c14, c15, c16, c17, c18, c19, c20, c21, c22, c23, c24, c25, c26, c27, c28, c29, c30, c31, c32, c33, c34, c35, c36, c37, c38, c40, c42, c43, c44, c45, c46, c47, c48, rfl, rfl⟩
            refine wpAnyIn_ready (rs := [1, 3]) (by kernel_rfl) (by simp) ?_
            refine AllReadyIn.cons rfl (fun K hK => ?_) ?_
            · go_simp
              exact hK _ _ (h_012 _ _ ⟨_, _, _, _, _, _, _, _, _, _, _, _, _, _, _, _, _, _, _, _, _, _, _, _, _, _, _, _, _, _, _, _, _, _, _, _, _, _, _, _, _, _, _, rfl, rfl⟩)
            refine AllReadyIn.cons rfl (fun K hK => ?_) ?_
            · go_simp
              exact hK _ _ (h_023 _ _ ⟨_, _, _, _, _, _, _, _, _, _, _, _, _, _, _, _, _, _, _, _, _, _, _, _, _, _, _, _, _, _, _, _, _, _, _, _, _, _, _, _, _, _, _, rfl, rfl⟩)
            exact AllReadyIn.nil
          intro h_02
          refine wpAnyIn_cut (f' := 6) (l' := #[false, true, false, true, false, false, false, false]) (fun A W' => ∃ (c0 c1 c2 c3 c5 c6 c8 c9 c11 c12 c13 c14 c15 c16 c17 c18 c19 c20 c21 c22 c23 c24 c25 c26 c27 c28 c29 c30 c31 c32 c33 c34 c35 c36 c37 c38 c39 c41 c43 c44 c45 c46 c47 c48 : Value), A = { tmps := #[c0, c1, c2, c3, .pointer (some ⟨w.heap.size, 0, none⟩), c5, c6, .pointer (some ⟨wr.heap.size, 0, none⟩), c8, c9, .int .i64 (p.val : Int), c11, c12, c13, c14, c15, c16, c17, c18, c19, c20, c21, c22, c23, c24, c25, c26, c27, c28, c29, c30, c31, c32, c33, c34, c35, c36, c37, c38, c39, .int .i64 (p.val : Int), c41, .int .i64 (p.val : Int), c43, c44, c45, c46, c47, c48], defers := [] } ∧ W' = W.drew) ?_ ?_
          · rintro A W' ⟨c0, c1, c2, c3, c5, c6, c8, c9, c11, c12, c13, c14, c15, c16, c17, c18, c19, c20, c21, c22, c23, c24, c25, c26, c27, c28, c29, c30, c31, c32, c33, c34, c35, c36, c37, c38, c39, c41, c43, c44, c45, c46, c47, c48, rfl, rfl⟩
            refine wpAnyIn_ready (rs := [0, 2]) (by kernel_rfl) (by simp) ?_
            refine AllReadyIn.cons rfl (fun K hK => ?_) ?_
            · first | (have b4' := Boxed.cell (hG.fresh hbw).box; go_simp) | go_simp
              exact hK _ _ (h_013 _ _ ⟨_, _, _, _, _, _, _, _, _, _, _, _, _, _, _, _, _, _, _, _, _, _, _, _, _, _, _, _, _, _, _, _, _, _, _, _, _, _, _, _, _, _, _, rfl, rfl⟩)
            refine AllReadyIn.cons rfl (fun K hK => ?_) ?_
            · first | (have hX' := (hG.fresh hbw).x; have y0 := hX'.c0; have y1 := hX'.c1; have y2 := hX'.c2; have y3 := hX'.c3; have y4 := hX'.c4; have y5 := hX'.c5; have y6 := hX'.c6; have y7 := hX'.c7; have y8 := hX'.c8; have y9 := hX'.c9; have y10 := hX'.c10; have y11 := hX'.c11; have y12 := hX'.c12; go_simp) | go_simp
              exact hK _ _ (h_123 _ _ ⟨_, _, _, _, _, _, _, _, _, _, _, _, _, _, _, _, _, _, _, _, _, _, _, _, _, _, _, _, _, _, _, _, _, _, _, _, _, _, _, _, _, _, _, rfl, rfl⟩)
            exact AllReadyIn.nil
          intro h_13
          refine wpAnyIn_cut (f' := 6) (l' := #[true, true, false, false, false, false, false, false]) (fun A W' => ∃ (c0 c1 c2 c3 c5 c6 c8 c9 c11 c12 c13 c14 c15 c16 c17 c18 c19 c20 c21 c22 c23 c24 c25 c26 c27 c28 c29 c30 c31 c32 c33 c34 c35 c36 c37 c38 c41 c42 c43 c44 c45 c46 c47 c48 : Value), A = { tmps := #[c0, c1, c2, c3, .pointer (some ⟨w.heap.size, 0, none⟩), c5, c6, .pointer (some ⟨wr.heap.size, 0, none⟩), c8, c9, .int .i64 (p.val : Int), c11, c12, c13, c14, c15, c16, c17, c18, c19, c20, c21, c22, c23, c24, c25, c26, c27, c28, c29, c30, c31, c32, c33, c34, c35, c36, c37, c38, .slice va n0 vc, .int .i64 (p.val : Int), c41, c42, c43, c44, c45, c46, c47, c48], defers := [] } ∧ W' = W.drew) ?_ ?_
          · rintro A W' ⟨c0, c1, c2, c3, c5, c6, c8, c9, c11, c12, c13, c14, c15, c16, c17, c18, c19, c20, c21, c22, c23, c24, c25, c26, c27, c28, c29, c30, c31, c32, c33, c34, c35, c36, c37, c38, c41, c42, c43, c44, c45, c46, c47, c48, rfl, rfl⟩
            refine wpAnyIn_ready (rs := [2, 3]) (by kernel_rfl) (by simp) ?_
            refine AllReadyIn.cons rfl (fun K hK => ?_) ?_
            · first | (have hX' := (hG.fresh hbw).x; have y0 := hX'.c0; have y1 := hX'.c1; have y2 := hX'.c2; have y3 := hX'.c3; have y4 := hX'.c4; have y5 := hX'.c5; have y6 := hX'.c6; have y7 := hX'.c7; have y8 := hX'.c8; have y9 := hX'.c9; have y10 := hX'.c10; have y11 := hX'.c11; have y12 := hX'.c12; go_simp) | go_simp
              exact hK _ _ (h_012 _ _ ⟨_, _, _, _, _, _, _, _, _, _, _, _, _, _, _, _, _, _, _, _, _, _, _, _, _, _, _, _, _, _, _, _, _, _, _, _, _, _, _, _, _, _, _, rfl, rfl⟩)
            refine AllReadyIn.cons rfl (fun K hK => ?_) ?_
            · go_simp
              exact hK _ _ (h_013 _ _ ⟨_, _, _, _, _, _, _, _, _, _, _, _, _, _, _, _, _, _, _, _, _, _, _, _, _, _, _, _, _, _, _, _, _, _, _, _, _, _, _, _, _, _, _, rfl, rfl⟩)
            exact AllReadyIn.nil
          intro h_01
          refine wpAnyIn_cut (f' := 6) (l' := #[false, true, true, false, false, false, false, false]) (fun A W' => ∃ (c0 c1 c2 c3 c5 c6 c8 c9 c11 c12 c13 c14 c15 c16 c17 c18 c19 c20 c21 c22 c23 c24 c25 c26 c27 c28 c29 c30 c31 c32 c33 c34 c35 c36 c37 c38 c39 c42 c43 c44 c45 c46 c47 c48 : Value), A = { tmps := #[c0, c1, c2, c3, .pointer (some ⟨w.heap.size, 0, none⟩), c5, c6, .pointer (some ⟨wr.heap.size, 0, none⟩), c8, c9, .int .i64 (p.val : Int), c11, c12, c13, c14, c15, c16, c17, c18, c19, c20, c21, c22, c23, c24, c25, c26, c27, c28, c29, c30, c31, c32, c33, c34, c35, c36, c37, c38, c39, .int .i64 (p.val : Int), .agg #[.int .i64 x.a, .int .u8 (x.k : Int), .int .i64 x.w, .int .i64 x.t, .int .i64 x.p, .int .i64 x.c, .int .i64 x.b, .int .i64 x.q, .int .i64 x.v, .int .i64 x.u, .bool x.o, .int .i64 x.e, .int .u64 (x.s : Int)], c42, c43, c44, c45, c46, c47, c48], defers := [] } ∧ W' = W.drew) ?_ ?_
          · rintro A W' ⟨c0, c1, c2, c3, c5, c6, c8, c9, c11, c12, c13, c14, c15, c16, c17, c18, c19, c20, c21, c22, c23, c24, c25, c26, c27, c28, c29, c30, c31, c32, c33, c34, c35, c36, c37, c38, c39, c42, c43, c44, c45, c46, c47, c48, rfl, rfl⟩
            refine wpAnyIn_ready (rs := [0, 3]) (by kernel_rfl) (by simp) ?_
            refine AllReadyIn.cons rfl (fun K hK => ?_) ?_
            · first | (have b4' := Boxed.cell (hG.fresh hbw).box; go_simp) | go_simp
              exact hK _ _ (h_012 _ _ ⟨_, _, _, _, _, _, _, _, _, _, _, _, _, _, _, _, _, _, _, _, _, _, _, _, _, _, _, _, _, _, _, _, _, _, _, _, _, _, _, _, _, _, _, rfl, rfl⟩)
            refine AllReadyIn.cons rfl (fun K hK => ?_) ?_
            · go_simp
              exact hK _ _ (h_123 _ _ ⟨_, _, _, _, _, _, _, _, _, _, _, _, _, _, _, _, _, _, _, _, _, _, _, _, _, _, _, _, _, _, _, _, _, _, _, _, _, _, _, _, _, _, _, rfl, rfl⟩)
            exact AllReadyIn.nil
          intro h_12
          refine wpAnyIn_cut (f' := 7) (l' := #[false, true, false, false, false, false, false, false]) (fun A W' => ∃ (c0 c1 c2 c3 c5 c6 c8 c9 c11 c12 c13 c14 c15 c16 c17 c18 c19 c20 c21 c22 c23 c24 c25 c26 c27 c28 c29 c30 c31 c32 c33 c34 c35 c36 c37 c38 c39 c41 c42 c43 c44 c45 c46 c47 c48 : Value), A = { tmps := #[c0, c1, c2, c3, .pointer (some ⟨w.heap.size, 0, none⟩), c5, c6, .pointer (some ⟨wr.heap.size, 0, none⟩), c8, c9, .int .i64 (p.val : Int), c11, c12, c13, c14, c15, c16, c17, c18, c19, c20, c21, c22, c23, c24, c25, c26, c27, c28, c29, c30, c31, c32, c33, c34, c35, c36, c37, c38, c39, .int .i64 (p.val : Int), c41, c42, c43, c44, c45, c46, c47, c48], defers := [] } ∧ W' = W.drew) ?_ ?_
          · rintro A W' ⟨c0, c1, c2, c3, c5, c6, c8, c9, c11, c12, c13, c14, c15, c16, c17, c18, c19, c20, c21, c22, c23, c24, c25, c26, c27, c28, c29, c30, c31, c32, c33, c34, c35, c36, c37, c38, c39, c41, c42, c43, c44, c45, c46, c47, c48, rfl, rfl⟩
            refine wpAnyIn_ready (rs := [0, 2, 3]) (by kernel_rfl) (by simp) ?_
            refine AllReadyIn.cons rfl (fun K hK => ?_) ?_
            · first | (have b4' := Boxed.cell (hG.fresh hbw).box; go_simp) | go_simp
              exact hK _ _ (h_01 _ _ ⟨_, _, _, _, _, _, _, _, _, _, _, _, _, _, _, _, _, _, _, _, _, _, _, _, _, _, _, _, _, _, _, _, _, _, _, _, _, _, _, _, _, _, _, _, rfl, rfl⟩)
            refine AllReadyIn.cons rfl (fun K hK => ?_) ?_
            · first | (have hX' := (hG.fresh hbw).x; have y0 := hX'.c0; have y1 := hX'.c1; have y2 := hX'.c2; have y3 := hX'.c3; have y4 := hX'.c4; have y5 := hX'.c5; have y6 := hX'.c6; have y7 := hX'.c7; have y8 := hX'.c8; have y9 := hX'.c9; have y10 := hX'.c10; have y11 := hX'.c11; have y12 := hX'.c12; go_simp) | go_simp
              exact hK _ _ (h_12 _ _ ⟨_, _, _, _, _, _, _, _, _, _, _, _, _, _, _, _, _, _, _, _, _, _, _, _, _, _, _, _, _, _, _, _, _, _, _, _, _, _, _, _, _, _, _, _, rfl, rfl⟩)
            refine AllReadyIn.cons rfl (fun K hK => ?_) ?_
            · go_simp
              exact hK _ _ (h_13 _ _ ⟨_, _, _, _, _, _, _, _, _, _, _, _, _, _, _, _, _, _, _, _, _, _, _, _, _, _, _, _, _, _, _, _, _, _, _, _, _, _, _, _, _, _, _, _, rfl, rfl⟩)
            exact AllReadyIn.nil
          intro h_1
          refine wpAnyIn_cut (f' := 7) (l' := #[false, false, true, false, false, false, false, false]) (fun A W' => ∃ (c0 c1 c2 c3 c5 c6 c8 c9 c11 c12 c13 c14 c15 c16 c17 c18 c19 c20 c21 c22 c23 c24 c25 c26 c27 c28 c29 c30 c31 c32 c33 c34 c35 c36 c37 c38 c39 c40 c42 c43 c44 c45 c46 c47 c48 : Value), A = { tmps := #[c0, c1, c2, c3, .pointer (some ⟨w.heap.size, 0, none⟩), c5, c6, .pointer (some ⟨wr.heap.size, 0, none⟩), c8, c9, .int .i64 (p.val : Int), c11, c12, c13, c14, c15, c16, c17, c18, c19, c20, c21, c22, c23, c24, c25, c26, c27, c28, c29, c30, c31, c32, c33, c34, c35, c36, c37, c38, c39, c40, .agg #[.int .i64 x.a, .int .u8 (x.k : Int), .int .i64 x.w, .int .i64 x.t, .int .i64 x.p, .int .i64 x.c, .int .i64 x.b, .int .i64 x.q, .int .i64 x.v, .int .i64 x.u, .bool x.o, .int .i64 x.e, .int .u64 (x.s : Int)], c42, c43, c44, c45, c46, c47, c48], defers := [] } ∧ W' = W.drew) ?_ ?_
          · rintro A W' ⟨c0, c1, c2, c3, c5, c6, c8, c9, c11, c12, c13, c14, c15, c16, c17, c18, c19, c20, c21, c22, c23, c24, c25, c26, c27, c28, c29, c30, c31, c32, c33, c34, c35, c36, c37, c38, c39, c40, c42, c43, c44, c45, c46, c47, c48, rfl, rfl⟩
            refine wpAnyIn_ready (rs := [0, 1, 3]) (by kernel_rfl) (by simp) ?_
            refine AllReadyIn.cons rfl (fun K hK => ?_) ?_
            · first | (have b4' := Boxed.cell (hG.fresh hbw).box; go_simp) | go_simp
              exact hK _ _ (h_02 _ _ ⟨_, _, _, _, _, _, _, _, _, _, _, _, _, _, _, _, _, _, _, _, _, _, _, _, _, _, _, _, _, _, _, _, _, _, _, _, _, _, _, _, _, _, _, _, rfl, rfl⟩)
            refine AllReadyIn.cons rfl (fun K hK => ?_) ?_
            · go_simp
              exact hK _ _ (h_12 _ _ ⟨_, _, _, _, _, _, _, _, _, _, _, _, _, _, _, _, _, _, _, _, _, _, _, _, _, _, _, _, _, _, _, _, _, _, _, _, _, _, _, _, _, _, _, _, rfl, rfl⟩)
            refine AllReadyIn.cons rfl (fun K hK => ?_) ?_
            · go_simp
              exact hK _ _ (h_23 _ _ ⟨_, _, _, _, _, _, _, _, _, _, _, _, _, _, _, _, _, _, _, _, _, _, _, _, _, _, _, _, _, _, _, _, _, _, _, _, _, _, _, _, _, _, _, _, rfl, rfl⟩)
            exact AllReadyIn.nil
          intro h_2
          refine wpAnyIn_cut (f' := 7) (l' := #[false, false, false, true, false, false, false, false]) (fun A W' => ∃ (c0 c1 c2 c3 c5 c6 c8 c9 c11 c12 c13 c14 c15 c16 c17 c18 c19 c20 c21 c22 c23 c24 c25 c26 c27 c28 c29 c30 c31 c32 c33 c34 c35 c36 c37 c38 c39 c40 c41 c43 c44 c45 c46 c47 c48 : Value), A = { tmps := #[c0, c1, c2, c3, .pointer (some ⟨w.heap.size, 0, none⟩), c5, c6, .pointer (some ⟨wr.heap.size, 0, none⟩), c8, c9, .int .i64 (p.val : Int), c11, c12, c13, c14, c15, c16, c17, c18, c19, c20, c21, c22, c23, c24, c25, c26, c27, c28, c29, c30, c31, c32, c33, c34, c35, c36, c37, c38, c39, c40, c41, .int .i64 (p.val : Int), c43, c44, c45, c46, c47, c48], defers := [] } ∧ W' = W.drew) ?_ ?_
          · rintro A W' ⟨c0, c1, c2, c3, c5, c6, c8, c9, c11, c12, c13, c14, c15, c16, c17, c18, c19, c20, c21, c22, c23, c24, c25, c26, c27, c28, c29, c30, c31, c32, c33, c34, c35, c36, c37, c38, c39, c40, c41, c43, c44, c45, c46, c47, c48, rfl, rfl⟩
            refine wpAnyIn_ready (rs := [0, 1, 2]) (by kernel_rfl) (by simp) ?_
            refine AllReadyIn.cons rfl (fun K hK => ?_) ?_
            · first | (have b4' := Boxed.cell (hG.fresh hbw).box; go_simp) | go_simp
              exact hK _ _ (h_03 _ _ ⟨_, _, _, _, _, _, _, _, _, _, _, _, _, _, _, _, _, _, _, _, _, _, _, _, _, _, _, _, _, _, _, _, _, _, _, _, _, _, _, _, _, _, _, _, rfl, rfl⟩)
            refine AllReadyIn.cons rfl (fun K hK => ?_) ?_
            · go_simp
              exact hK _ _ (h_13 _ _ ⟨_, _, _, _, _, _, _, _, _, _, _, _, _, _, _, _, _, _, _, _, _, _, _, _, _, _, _, _, _, _, _, _, _, _, _, _, _, _, _, _, _, _, _, _, rfl, rfl⟩)
            refine AllReadyIn.cons rfl (fun K hK => ?_) ?_
            · first | (have hX' := (hG.fresh hbw).x; have y0 := hX'.c0; have y1 := hX'.c1; have y2 := hX'.c2; have y3 := hX'.c3; have y4 := hX'.c4; have y5 := hX'.c5; have y6 := hX'.c6; have y7 := hX'.c7; have y8 := hX'.c8; have y9 := hX'.c9; have y10 := hX'.c10; have y11 := hX'.c11; have y12 := hX'.c12; go_simp) | go_simp
              exact hK _ _ (h_23 _ _ ⟨_, _, _, _, _, _, _, _, _, _, _, _, _, _, _, _, _, _, _, _, _, _, _, _, _, _, _, _, _, _, _, _, _, _, _, _, _, _, _, _, _, _, _, _, rfl, rfl⟩)
            exact AllReadyIn.nil
          intro h_3
          refine wpAnyIn_cut (f' := 7) (l' := #[true, false, false, false, false, false, false, false]) (fun A W' => ∃ (c0 c1 c2 c3 c5 c6 c8 c9 c11 c12 c13 c14 c15 c16 c17 c18 c19 c20 c21 c22 c23 c24 c25 c26 c27 c28 c29 c30 c31 c32 c33 c34 c35 c36 c37 c38 c40 c41 c42 c43 c44 c45 c46 c47 c48 : Value), A = { tmps := #[c0, c1, c2, c3, .pointer (some ⟨w.heap.size, 0, none⟩), c5, c6, .pointer (some ⟨wr.heap.size, 0, none⟩), c8, c9, .int .i64 (p.val : Int), c11, c12, c13, c14, c15, c16, c17, c18, c19, c20, c21, c22, c23, c24, c25, c26, c27, c28, c29, c30, c31, c32, c33, c34, c35, c36, c37, c38, .slice va n0 vc, c40, c41, c42, c43, c44, c45, c46, c47, c48], defers := [] } ∧ W' = W.drew) ?_ ?_
          · rintro A W' ⟨c0, c1, c2, c3, c5, c6, c8, c9, c11, c12, c13, c14, c15, c16, c17, c18, c19, c20, c21, c22, c23, c24, c25, c26, c27, c28, c29, c30, c31, c32, c33, c34, c35, c36, c37, c38, c40, c41, c42, c43, c44, c45, c46, c47, c48, rfl, rfl⟩
            refine wpAnyIn_ready (rs := [1, 2, 3]) (by kernel_rfl) (by simp) ?_
            refine AllReadyIn.cons rfl (fun K hK => ?_) ?_
            · go_simp
              exact hK _ _ (h_01 _ _ ⟨_, _, _, _, _, _, _, _, _, _, _, _, _, _, _, _, _, _, _, _, _, _, _, _, _, _, _, _, _, _, _, _, _, _, _, _, _, _, _, _, _, _, _, _, rfl, rfl⟩)
            refine AllReadyIn.cons rfl (fun K hK => ?_) ?_
            · first | (have hX' := (hG.fresh hbw).x; have y0 := hX'.c0; have y1 := hX'.c1; have y2 := hX'.c2; have y3 := hX'.c3; have y4 := hX'.c4; have y5 := hX'.c5; have y6 := hX'.c6; have y7 := hX'.c7; have y8 := hX'.c8; have y9 := hX'.c9; have y10 := hX'.c10; have y11 := hX'.c11; have y12 := hX'.c12; go_simp) | go_simp
              exact hK _ _ (h_02 _ _ ⟨_, _, _, _, _, _, _, _, _, _, _, _, _, _, _, _, _, _, _, _, _, _, _, _, _, _, _, _, _, _, _, _, _, _, _, _, _, _, _, _, _, _, _, _, rfl, rfl⟩)
            refine AllReadyIn.cons rfl (fun K hK => ?_) ?_
            · go_simp
              exact hK _ _ (h_03 _ _ ⟨_, _, _, _, _, _, _, _, _, _, _, _, _, _, _, _, _, _, _, _, _, _, _, _, _, _, _, _, _, _, _, _, _, _, _, _, _, _, _, _, _, _, _, _, rfl, rfl⟩)
            exact AllReadyIn.nil
          intro h_0
          refine wpAnyIn_ready (rs := [0, 1, 2, 3]) (by kernel_rfl) (by simp) ?_
          refine AllReadyIn.cons rfl (fun K hK => ?_) ?_
          · first | (have b4' := Boxed.cell (hG.fresh hbw).box; go_simp) | go_simp
            exact hK _ _ (h_0 _ _ ⟨_, _, _, _, _, _, _, _, _, _, _, _, _, _, _, _, _, _, _, _, _, _, _, _, _, _, _, _, _, _, _, _, _, _, _, _, _, _, _, _, _, _, _, _, _, rfl, rfl⟩)
          refine AllReadyIn.cons rfl (fun K hK => ?_) ?_
          · go_simp
            exact hK _ _ (h_1 _ _ ⟨_, _, _, _, _, _, _, _, _, _, _, _, _, _, _, _, _, _, _, _, _, _, _, _, _, _, _, _, _, _, _, _, _, _, _, _, _, _, _, _, _, _, _, _, _, rfl, rfl⟩)
          refine AllReadyIn.cons rfl (fun K hK => ?_) ?_
          · first | (have hX' := (hG.fresh hbw).x; have y0 := hX'.c0; have y1 := hX'.c1; have y2 := hX'.c2; have y3 := hX'.c3; have y4 := hX'.c4; have y5 := hX'.c5; have y6 := hX'.c6; have y7 := hX'.c7; have y8 := hX'.c8; have y9 := hX'.c9; have y10 := hX'.c10; have y11 := hX'.c11; have y12 := hX'.c12; go_simp) | go_simp
            exact hK _ _ (h_2 _ _ ⟨_, _, _, _, _, _, _, _, _, _, _, _, _, _, _, _, _, _, _, _, _, _, _, _, _, _, _, _, _, _, _, _, _, _, _, _, _, _, _, _, _, _, _, _, _, rfl, rfl⟩)
          refine AllReadyIn.cons rfl (fun K hK => ?_) ?_
          · go_simp
            exact hK _ _ (h_3 _ _ ⟨_, _, _, _, _, _, _, _, _, _, _, _, _, _, _, _, _, _, _, _, _, _, _, _, _, _, _, _, _, _, _, _, _, _, _, _, _, _, _, _, _, _, _, _, _, rfl, rfl⟩)
          exact AllReadyIn.nil
        case done =>
          rintro D xs W hD hxs ⟨⟨v, hG, hrow⟩, hN⟩ hK
          have HROW : Hid ((pre ++ hd) ++ (xs.map (·.val)).flatMap (fun n => putG n (x.get n)) = (l.take (k + 1)).flatMap enL) := Lib.hid (by
            rw [show xs = _ from hxs, HN.out, body_eq (fun n hn => ⟨namesOf_lt hn, (okB_iff.1 HOK.out).2.1 n hn⟩), take_snocE l HX.out, List.flatMap_append, ← HPRE.out, HHD.out, ← HZA.out]
            simp [enL])
          rw [HROW.out] at hrow
          have HA' : Hid ((l.take (k + 1)).all okB = true) := Lib.hid (by rw [take_snocE l HX.out, List.all_append, HA.out]; simp [HOK.out])
          have hC' : Coll w.heap.size W ({ target := .collected D, args := #[] } :: ds) := ⟨D, rfl, by omega, hK, fun d' hd' e => by have := hds d' hd' D e; omega, hG.coll⟩
          clear hxs hds
          go_wp2_with fail
          exact ⟨⟨k + 1, _, _, _, _, _, _, _, _, _, _, _, _, _, _, _, _, _, _, _, _, _, _, _, _, _, _, _, _, _, _, _, _, _, _, _, _, _, _, _, _, _, _, _, _, _, by go_num, by omega, hC', hG.box, .inr hrow, hG.map, hG.below, HA'⟩, by simp [intOf]; omega⟩
        case stop =>
          rintro D c pre W _ _ h _
          exact h.elim
  · obtain rfl : k = l.length := by omega
    have hlt' : ¬ (l.length : Int) < (l.length : Int) := by omega
    have HP : Hid (putS l = (l.take l.length).flatMap enL ∧ putE l = 0) := Lib.hid (by
      have h1 := HA.out
      rw [List.take_length] at h1 ⊢
      unfold putS putE
      rw [h1]
      exact ⟨rfl, rfl⟩)
    obtain ⟨bs, hbs⟩ : ∃ bs, bs = (l.take l.length).flatMap enL := ⟨_, rfl⟩
    rw [← hbs] at hbr HP
    have b0 := Boxed.cell hbx
    have hcv : (convert 49 9 bv).run Tryd.prog wr = .ok (.string ⟨bs.toArray⟩) wr := by
      rcases hbr with ⟨h1, rfl⟩ | h
      · rw [h1]; exact conv_own 0 _ [] wr (World.ownsRow_nil _ _ _ _)
      · exact conv_back wr h
    obtain ⟨va, vc, rfl⟩ := hbr.slice
    obtain ⟨rs, hrs⟩ : ∃ rs : ByteArray, rs = ⟨bs.toArray⟩ := ⟨_, rfl⟩
    rw [← hrs] at hcv
    have HRS := Lib.hid hrs
    obtain ⟨n0, hn0⟩ : ∃ n0, n0 = bs.length := ⟨_, rfl⟩
    rw [← hn0] at hcv b0
    clear hrs hbs hbr hn0 hbx
    go_wp2_with fail
    refine leaves_coll (base := w.heap.size) (v := .tuple #[.string rs, .int .i64 0]) (fun W => by simp [results, Tryd.f9, go_sem]) ds _ hC hBr.size fun W' hW' => ⟨by rw [HP.out.1, HP.out.2, HRS.out], hBr.trans hW'⟩
theorem eputs_any (v : Value) (l : List En) (w : World) (hr : EnRow w v l) (hok : ∀ x ∈ l, x.ok) (hl : l.length ≤ 100) :
    Calls Tryd.prog 9 #[v] w fun e w' => e = .returned (.tuple #[.string ⟨(putS l).toArray⟩, .int .i64 (putE l)]) ∧ Below w.heap.size w w' :=
  eputsN_any v l w hr hok (by omega) fun k hk => by
    have h1 := all_len (l := l.take k) (fun y hy => hok y (List.mem_of_mem_take hy)) hk
    have h2 : (l.take k).length ≤ l.length := by rw [List.length_take]; omega
    omega
end Go.Proofs.YtengpehiknoheaaDoor
