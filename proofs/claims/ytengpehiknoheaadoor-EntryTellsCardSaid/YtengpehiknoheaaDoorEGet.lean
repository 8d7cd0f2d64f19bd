/-
  The walk of Get: all entries that bytes are.
-/
import Derived.Test.YtengpehiknoheaaDoorERead
namespace Go.Proofs.YtengpehiknoheaaDoor
open Go.RowKit Oct

/-! ### What bytes are: pure -/
def getF : Nat → List UInt8 → Option (List En)
  | 0, l => if l = [] then some [] else none
  | f + 1, l => if l = [] then some [] else
    match readR l with
    | some p => (getF f p.2).map fun t => p.1 :: t
    | none => none
def getL (l : List UInt8) : Option (List En) := getF l.length l
def getE (l : List UInt8) : Int := if (getL l).isSome then 0 else 7
def getV (l : List UInt8) : List En := (getL l).getD []
theorem body_rest : ∀ {ns : List Nat} {y z : En} {l r : List UInt8}, bodyR ns y l = some (z, r) → r.length ≤ l.length
  | [], y, z, l, r, h => by simp only [bodyR, Option.some.injEq, Prod.mk.injEq] at h; rw [h.2]; exact Nat.le_refl _
  | n :: ns, y, z, l, r, h => by
    rw [bodyR] at h
    split at h
    · exact Nat.le_trans (body_rest h) (getN_rest n l)
    · cases h
theorem read_rest {l r : List UInt8} {x : En} (h : readR l = some (x, r)) : r.length < l.length := by
  rcases rowR2 l with ⟨u0, u1, rr, hq, _, _, _⟩ | ⟨e, he, hq⟩
  · unfold readR at h
    split at h
    · rw [hq] at h
      simp only at h
      split at h
      · rename_i p hp
        split at h
        · have := body_rest (show bodyR _ _ rr = some (p.1, p.2) from hp)
          simp only [Option.some.injEq] at h
          rw [h] at this
          have hr2 : rr.length + 2 ≤ l.length := by
            have h1 : rowG 2 [] l = ([u0, u1], rr, 0) := hq
            simp only [rowG] at h1
            split at h1
            · simp at h1
            · rename_i a1
              split at h1
              · simp at h1
              · rename_i a2
                simp only [Prod.mk.injEq] at h1
                have e1 := getR_shrinks (l := l) (u := (getR l).1) (r := (getR l).2.1) (by
                  have : (getR l).2.2 = 0 := by simpa using a1
                  rw [← this])
                have e2 := getR_shrinks (l := (getR l).2.1) (u := (getR (getR l).2.1).1) (r := (getR (getR l).2.1).2.1) (by
                  have : (getR (getR l).2.1).2.2 = 0 := by simpa using a2
                  rw [← this])
                rw [h1.2.1] at e2
                omega
          simp only at this
          omega
        · cases h
      · cases h
    · cases h
  · rw [readR_bad (by unfold headB; rw [hq]; simp; intro h2; exact absurd h2 he)] at h
    cases h
theorem getF_more : ∀ (f : Nat) (l : List UInt8), l.length ≤ f → getF f l = getL l := by
  have key : ∀ (n f : Nat) (l : List UInt8), l.length ≤ n → l.length ≤ f → getF f l = getF l.length l := by
    intro n
    induction n with
    | zero =>
      intro f l hn hf
      obtain rfl : l = [] := List.length_eq_zero_iff.1 (by omega)
      cases f <;> rfl
    | succ n ih =>
      intro f l hn hf
      cases l with
      | nil => cases f <;> rfl
      | cons b t =>
        cases f with
        | zero => simp at hf
        | succ f =>
          show getF (f + 1) (b :: t) = getF (t.length + 1) (b :: t)
          unfold getF
          rw [if_neg (by simp), if_neg (by simp)]
          cases hr : readR (b :: t) with
          | none => rfl
          | some p =>
            obtain ⟨x, r⟩ := p
            have hl := read_rest hr
            simp only [List.length_cons] at hl hn hf
            simp only
            rw [ih f r (by omega) (by omega), ih t.length r (by omega) (by omega)]
  exact fun f l h => key l.length f l (Nat.le_refl _) h
theorem getL_nil : getL [] = some [] := rfl
theorem getL_some {l r : List UInt8} {x : En} (h0 : l ≠ []) (h : readR l = some (x, r)) : getL l = (getL r).map fun t => x :: t := by
  cases l with
  | nil => exact absurd rfl h0
  | cons b t =>
    show getF (t.length + 1) (b :: t) = _
    unfold getF
    have hl := read_rest h
    simp only [List.length_cons] at hl
    rw [if_neg h0, h]
    simp only
    rw [getF_more t.length r (by omega)]
theorem getL_none {l : List UInt8} (h0 : l ≠ []) (h : readR l = none) : getL l = none := by
  cases l with
  | nil => exact absurd rfl h0
  | cons b t =>
    show getF (t.length + 1) (b :: t) = _
    unfold getF
    rw [if_neg h0, h]

theorem infoEntry : (Tryd.prog.info? 26).map (fun i => (i.zero, i.size, i.bytes)) = some (some (.agg #[.int .i64 0, .int .u8 0, .int .i64 0, .int .i64 0, .int .i64 0, .int .i64 0, .int .i64 0, .int .i64 0, .int .i64 0, .int .i64 0, .bool false, .int .i64 0, .int .u64 0]), 13, 104) := by kernel_rfl
theorem owns_keepE {w w' : World} {base n s : Nat} {e : TypeId} {v : Value} {xs : List Value} (h : w.ownsRow base e s v n xs) (hb : But [] w w') : w'.ownsRow base e s v n xs := hb.row h (fun _ _ => by simp)
theorem owns_sliceE {w : World} {base n s : Nat} {e : TypeId} {v : Value} {xs : List Value} (h : w.ownsRow base e s v n xs) : ∃ a c, v = .slice a n c := by
  rcases h.2 with ⟨rfl, rfl⟩ | ⟨g, cap, cur, rfl, _⟩
  · exact ⟨none, 0, rfl⟩
  · exact ⟨_, cap, rfl⟩
theorem grown_belowE {w w' : World} {base n s : Nat} {e : TypeId} {v : Value} {xs : List Value} (hown : w.ownsRow base e s v n xs) (hg : w.grownBy w' v.ownBlock) (hb : base ≤ w.heap.size) : Below base w w' :=
  ⟨hg.os, hg.tape, hg.output, hg.size, fun k hk => hg.block k (by omega) (fun e1 => by have := (hown.lt k e1.symm).1; omega)⟩
/-- What is not a row's own stays where it grows. -/
theorem grown_otherE {w w' : World} {base n s : Nat} {e : TypeId} {v : Value} {xs : List Value} {k : Nat} {o : Obj} (hown : w.ownsRow base e s v n xs) (hg : w.grownBy w' v.ownBlock) (hk : w.heap[k]? = some o) (ho : ∀ cs z, o ≠ .cells cs e z) : w'.heap[k]? = w.heap[k]? :=
  hg.block k (Array.getElem?_eq_some_iff.1 hk).1 (fun e1 => by
    rcases hown.2 with ⟨rfl, _⟩ | ⟨g, cap, cur, rfl, _, hc, _⟩
    · cases e1
    · simp only [Value.ownBlock, Option.some.injEq] at e1
      subst e1
      rw [hk] at hc
      exact ho _ _ (Option.some.inj hc))
def GetPost (base : Nat) (w : World) (s : List UInt8) (e : Ending) (w' : World) : Prop :=
  ∃ v, e = .returned (.tuple #[v, .int .i64 (getE s)]) ∧ EnRow w' v (getV s) ∧ (∀ x ∈ getV s, x.ok) ∧ Below base w w'
def sizeS : Value → Nat
  | .string b => b.size
  | _ => 0

set_option maxRecDepth 100000 in
set_option maxHeartbeats 3200000 in
theorem egets_any (s : List UInt8) (w : World) (hs : s.length ≤ 100000) :
    Calls Tryd.prog 11 #[.string ⟨s.toArray⟩] w (GetPost w.heap.size w s) := by
  obtain ⟨i0, hi, hz0, hz1, hz2⟩ := info_parts infoEntry
  go_enter Tryd.func11, Tryd.ntmps11
  go_wp2_with fail
  refine (kinds_any _).mono ?_
  rintro e w1 ⟨rfl, hM, hb1⟩
  go_wp2_with fail
  go_loopw [2, 5] (fun lv rv wr => ∃ (pre : List En) (r : List UInt8), wr.ownsRow w.heap.size 26 13 lv pre.length (pre.flatMap En.cellsL) ∧ rv = .string ⟨r.toArray⟩ ∧ r.length ≤ s.length ∧ pre.length + r.length ≤ s.length ∧ KMap wr w.heap.size kindsL ∧ Below w.heap.size w wr ∧ (∀ x ∈ pre, x.ok) ∧ Hid (getL s = (getL r).map (pre ++ ·))) (fun _ rv _ => sizeS rv)
  case atStart => exact ⟨[], s, World.ownsRow_nil _ _ _ _, rfl, Nat.le_refl _, by simp, hM, hb1, by simp, Lib.hid (by cases getL s <;> simp)⟩
  case round =>
    clear hM hb1
    obtain ⟨pre, r, hO, rfl, hrl, hpl, hM, hB, hok, HL⟩ := hrel
    obtain ⟨pa, pc, rfl⟩ := owns_sliceE hO
    cases r with
    | nil =>
      have HE : Hid (getE s = 0 ∧ getV s = pre) := Lib.hid (by
        have h1 := HL.out
        rw [getL_nil] at h1
        unfold getE getV
        rw [h1]
        simp)
      have hrow := EnRow.of_owns hO
      have hne : ((⟨([] : List UInt8).toArray⟩ : ByteArray) != ⟨#[]⟩) = false := by decide
      clear hO HL
      go_wp2_with fail
      refine bodyPost_ret (v := .tuple #[.slice pa pre.length pc, .int .i64 0]) (by simp [results, Tryd.f11, go_sem]) rfl ⟨_, by rw [HE.out.1], by rw [HE.out.2]; exact hrow, by rw [HE.out.2]; exact hok, hB⟩
    | cons b t =>
      have hne0 : (b :: t) ≠ [] := by simp
      obtain ⟨r, hr⟩ : ∃ r, r = b :: t := ⟨_, rfl⟩
      rw [← hr] at hne0 hrl hpl HL
      rw [← hr]
      have hrd := read_any w.heap.size r wr hM (by omega)
      obtain ⟨rs, hrs⟩ : ∃ rs : ByteArray, rs = ⟨r.toArray⟩ := ⟨_, rfl⟩
      have hem : rs.toList.isEmpty = false := by
        rw [ByteArray.toList_eq, hrs, hr]
        rfl
      rw [← hrs] at hrd
      rw [← hrs]
      have hsz : rs.size = r.length := by rw [hrs]; rfl
      clear hr hrs
      go_wp2_with fail
      refine hrd.mono ?_
      clear hrd
      rintro e w2 ⟨x, r', hxok, rfl, hp, hb2⟩
      have hO2 := owns_keepE hO (But.of_below hb2 [])
      have hM2 := hM.fresh (But.of_below hb2 [])
      have hB2 := below_nx hB hb2 (Nat.le_refl _)
      cases hrr : readR r with
      | none =>
        have HE : Hid (getE s = 7 ∧ getV s = []) := Lib.hid (by
          have h1 := HL.out
          rw [getL_none hne0 hrr] at h1
          unfold getE getV
          rw [h1]
          simp)
        have hal : ∀ o, Below w.heap.size w (w2.alloc o) := fun o => Below.al hB2 hB2.size o
        simp only [Option.isSome_none]
        clear hp hrr hO hM
        go_wp2_with fail
        refine bodyPost_ret (v := .tuple #[.slice none 0 0, .int .i64 7]) (by simp [results, Tryd.f11, go_sem]) rfl ⟨_, by rw [HE.out.1], by rw [HE.out.2]; exact EnRow.nil _, by rw [HE.out.2]; simp, hal _⟩
      | some p =>
        obtain ⟨rfl, rfl⟩ := hp p hrr
        obtain ⟨x, r'⟩ := p
        simp only at hxok
        have hrl' := read_rest hrr
        have HL' : Hid (getL s = (getL r').map ((pre ++ [x]) ++ ·)) := Lib.hid (by
          rw [HL.out, getL_some hne0 hrr, Option.map_map]
          congr 1
          funext t'
          simp)
        simp only [Option.isSome_some]
        obtain ⟨rs2, hrs2⟩ : ∃ rs2 : ByteArray, rs2 = ⟨r'.toArray⟩ := ⟨_, rfl⟩
        rw [← hrs2]
        have HRS2 := Lib.hid hrs2
        obtain ⟨w3, hw3⟩ : ∃ w3, w3 = (w2.alloc (.cells #[.int .i64 x.a, .int .u8 (x.k : Int), .int .i64 x.w, .int .i64 x.t, .int .i64 x.p, .int .i64 x.c, .int .i64 x.b, .int .i64 x.q, .int .i64 x.v, .int .i64 x.u, .bool x.o, .int .i64 x.e, .int .u64 (x.s : Int)] 26)).alloc (.cells #[.int .i64 x.a, .int .u8 (x.k : Int), .int .i64 x.w, .int .i64 x.t, .int .i64 x.p, .int .i64 x.c, .int .i64 x.b, .int .i64 x.q, .int .i64 x.v, .int .i64 x.u, .bool x.o, .int .i64 x.e, .int .u64 (x.s : Int)] 26) := ⟨_, rfl⟩
        have hb3 : But [] w2 w3 := by rw [hw3]; exact ((But.refl [] w2).alloc _).alloc _
        have hrow := owns_keepE hO2 hb3
        have hM3 := hM2.fresh hb3
        have hB3 := hB2.trans (hb3.below hB2.size (by simp))
        have hnx : EnAt w3 (w2.heap.size + 1) x := by
          rw [hw3]
          have := enAt_new (w2.alloc (.cells #[.int .i64 x.a, .int .u8 (x.k : Int), .int .i64 x.w, .int .i64 x.t, .int .i64 x.p, .int .i64 x.c, .int .i64 x.b, .int .i64 x.q, .int .i64 x.v, .int .i64 x.u, .bool x.o, .int .i64 x.e, .int .u64 (x.s : Int)] 26)) x
          simpa using this
        have hne : ∀ (j : Nat) u, (x.cellsL : List Value)[j]? = some u → w3.cell? (Addr.add ⟨w2.heap.size + 1, 0, none⟩ j) = some u := fun j u hj => by
          rw [show Addr.add ⟨w2.heap.size + 1, 0, none⟩ j = ⟨w2.heap.size + 1, j, none⟩ by by_cases e : j = 0 <;> simp [Addr.add, e]]
          simp only [World.cell?, show w3.heap[_]? = _ from hnx]
          simpa [En.cellsL] using hj
        have hpl2 : pre.length ≤ 100000 := by omega
        clear hp hrr hO hM hO2 hM2 hrs2
        rw [hw3] at hne hrow
        go_wp2_with (at_builtin; refine wpList_append_own _ rfl _ _ 27 rfl w.heap.size 26 i0 (.agg #[.int .i64 0, .int .u8 0, .int .i64 0, .int .i64 0, .int .i64 0, .int .i64 0, .int .i64 0, .int .i64 0, .int .i64 0, .int .i64 0, .bool false, .int .i64 0, .int .u64 0]) 13 104 Tryd.underlying27 hi hz0 hz1 hz2 rfl (by decide) _ _ _ rfl hrow ⟨w2.heap.size + 1, 0, none⟩ 1 1 (x.cellsL) rfl rfl hne ?c2 ?c3 ?c4 ?c5 ?_)
        case c2 => simpa using en_one [x]
        case c3 => unfold maxLen; omega
        case c4 => omega
        case c5 =>
          have := hB3.size
          rw [hw3] at this
          first | omega | exact this | trace_state
        rw [← hw3] at hrow ⊢
        intro v' w4 hown' hgrow _
        have hB4 : Below w.heap.size w3 w4 := grown_belowE hrow hgrow hB3.size
        have hM4 := hM3.of_block (by obtain ⟨es, cl, hm⟩ := hM3.is; exact grown_otherE hrow hgrow hm (fun _ _ e => by cases e))
        have hO4 : w4.ownsRow w.heap.size 26 13 v' (pre ++ [x]).length ((pre ++ [x]).flatMap En.cellsL) := by
          rw [List.length_append, List.flatMap_append]
          simpa using hown'
        have hok4 : ∀ y ∈ pre ++ [x], y.ok := fun y hy => by
          rcases List.mem_append.1 hy with h | h
          · exact hok y h
          · rw [List.mem_singleton.1 h]; exact hxok
        have hszr2 : rs2.size = r'.length := by rw [HRS2.out]; rfl
        clear hown' hgrow hrow hne hw3
        go_wp2_with fail
        go_roundw
        case rel => exact ⟨pre ++ [x], r', hO4, by rw [HRS2.out], by omega, by rw [List.length_append, List.length_singleton]; omega, hM4, hB3.trans hB4, hok4, HL'⟩
        case measure => first | omega | (simp [sizeS]; omega) | trace_state
end Go.Proofs.YtengpehiknoheaaDoor
