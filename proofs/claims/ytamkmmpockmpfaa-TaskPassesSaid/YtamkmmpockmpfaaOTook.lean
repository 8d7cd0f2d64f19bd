/-
  The walk of order.Took.
-/
import Derived.Laws.CopyOwn
import Derived.Test.YtamkmmpockmpfaaOBase
namespace Go.Proofs.Ytamkmmpockmpfaa.Od
open Go.RowKit

/-- 'copy' within a block, as a step of a region: the block's row behind it, all other blocks as they were. -/
theorem step_copy_in {P : Program} {ops : Array Oper} {o : Oper} {a : Act} {w : World} {K : Act → World → Prop} {Q : Exit → Act → World → Prop} {E : Prop} (hgd : o.guard = none) (d s : Operand) (dT sT : TypeId)
    (ho : o.op = .call { callee := .builtin .copy, args := #[d, s], argTypes := #[dT, sT] }) (elem : TypeId) (hu : P.underlying dT = some (.slice elem)) (hsz : (P.info? elem).map (·.size) = some 1)
    (dp sp : Option Addr) (dLen dCap sLen sCap : Nat) (hd : a.eval d = .slice dp dLen dCap) (hs : a.eval s = .slice sp sLen sCap)
    (g off : Nat) (cur : List Value) (t : TypeId) (hg : w.heap[g]? = some (.cells cur.toArray t (0, 0))) (cs : List Value) (hn : cs.length = Nat.min sLen dLen)
    (hpos : 0 < cs.length → dp = some ⟨g, off, none⟩ ∧ ∃ ad, sp = some ad ∧ ∀ j v, cs[j]? = some v → w.cell? (ad.add j) = some v)
    (hfit : off + cs.length ≤ cur.length) (h1 : ∀ v ∈ cs, v.oneCell' = true)
    (h : ∀ w', Hid (w'.heap[g]? = some (.cells (splice cur off cs).toArray t (0, 0))) → But [g] w w' → K (a.put o.dst (goInt cs.length)) w') :
    if Region.wanted o (yielded ops a.tmps) = true then Oper.wp P o a w K Q else E := by
  have hw : Region.wanted o (yielded ops a.tmps) = true := by simp [Region.wanted, hgd]
  rw [if_pos hw]
  by_cases h0 : cs.length = 0
  · obtain rfl : cs = [] := List.eq_nil_of_length_eq_zero h0
    have hrun := run_copy_none (P := P) w dT sT o.type elem dp sp dLen dCap sLen sCap hu hsz (by simpa using hn.symm)
    unfold Oper.wp
    simp [execOp, ho, resolve, invoke, builtin, hd, hs, hrun, Result.andThen]
    exact h w (show _ = _ by simpa [splice] using hg) (But.refl _ _)
  · obtain ⟨rfl, ad, rfl, hsrc⟩ := hpos (by omega)
    have hrun := run_copy_row (P := P) w dT sT o.type elem g off dLen dCap ad sLen sCap cur.toArray t cs hu hsz hg hn hsrc (by simpa using hfit) h1
    unfold Oper.wp
    simp [execOp, ho, resolve, invoke, builtin, hd, hs, hrun, Result.andThen]
    exact h _ (show _ = _ by simpa [splice] using setRow_heap w g _ _ t _ hg)
      ⟨rfl, rfl, rfl, by simp [World.setRow], fun k hk hn => setRow_other w g k _ (by simpa using hn)⟩

theorem splice_closed {vs : List Int} {n p : Nat} (hv : vs.length = 6) (hn : n ≤ 6) (hp : p < n) :
    splice (I64 vs ++ [Value.int .i64 (n : Int)]) p (I64 ((vs.take n).drop (p + 1))) = I64 (closed vs n p) ++ [Value.int .i64 (n : Int)] := by
  have e : p + (I64 ((vs.take n).drop (p + 1))).length = n - 1 := by rw [I64_len]; simp; omega
  rw [splice, e, List.take_append_of_le_length (by rw [I64_len]; omega), List.drop_append_of_le_length (by rw [I64_len]; omega)]
  simp [closed, I64, List.map_append, List.map_take, List.map_drop]

set_option maxRecDepth 100000 in
set_option maxHeartbeats 800000 in
theorem took_in {B n p : Nat} {vs l : List Int} {k : Int} (w : World) (h : RawO w B vs n) (hl : l = vs.take n) (hn : n ≤ 6) (hp : p < n) (hk : l.idxOf? k = some p) (hat : atV l k = (p : Int)) :
    Calls Try.prog 24 #[.pointer (some ⟨B, 0, none⟩), .int .i64 k] w fun e w' => e = .returned (.int .i64 0) ∧ RawO w' B ((closed vs n p).set (n - 1) k) n ∧ But [B] w w' := by
  have hrow := row_raw w h hn
  have hlen : l.length = n := by rw [hl, List.length_take, h.1]; omega
  have hR := h.rowI hl hn (by omega)
  have p0 : ¬ (p : Int) < 0 := by omega
  have p0' : (0 : Int) ≤ (p : Int) := by omega
  have p1 : (p : Int) ≤ (n : Int) := by omega
  have p2 : IntKind.i64.wrap ((p : Int) + 1) = (p : Int) + 1 := by rw [IntKind.wrap_i64]; omega
  have p3 : (p : Int) + 1 ≤ (n : Int) := by omega
  have p4 : IntKind.i64.wrap ((n : Int) - 1) = (n : Int) - 1 := by rw [IntKind.wrap_i64]; omega
  have n6 : (n : Int) ≤ 6 := by omega
  have p5 : (0 : Int) ≤ (p : Int) + 1 := by omega
  have q6 : ¬ 6 = p := by omega
  go_enter Try.func24, Try.ntmps24
  go_wp2_with fail
  refine hrow.mono ?_
  rintro e w1 ⟨rfl, q, rfl⟩
  have hix := index_any _ l k (w.drewN q) (hR.below (below_drewN (Below.refl w.heap.size w) q)) (by omega)
  rw [hat] at hix
  clear hrow
  go_wp2_with fail
  refine hix.mono ?_
  rintro e w2 ⟨rfl, rfl⟩
  clear hix
  go_wp2_with fail
  have hG : ∀ q, Hid ((w.drewN q).heap[B]? = some (.cells (I64 vs ++ [Value.int .i64 (n : Int)]).toArray 110 (0, 0))) := fun q => Lib.hid h.2
  have hC := Lib.hid (And.intro h (And.intro hl (And.intro hk hp)))
  have hcl : (I64 ((vs.take n).drop (p + 1))).length = n - (p + 1) := by rw [I64_len]; simp; have := h.1; omega
  have hsrc : ∀ j v, (I64 ((vs.take n).drop (p + 1)))[j]? = some v → w.cell? ⟨B, p + 1 + j, none⟩ = some v := fun j v hj => by
    have hjl : j < n - (p + 1) := by rw [← hcl]; exact (List.getElem?_eq_some_iff.1 hj).1
    rw [h.cellV (by omega), ← hj, I64, List.getElem?_map, List.getElem?_drop, List.getElem?_take_of_lt (by omega), List.getElem?_eq_getElem (by have := h.1; omega)]; rfl
  have hfit : p + (I64 ((vs.take n).drop (p + 1))).length ≤ (I64 vs ++ [Value.int .i64 (n : Int)]).length := by rw [hcl]; simp [I64_len, h.1]; omega
  have hone : ∀ v ∈ I64 ((vs.take n).drop (p + 1)), v.oneCell' = true := by intro u hu; obtain ⟨x, _, rfl⟩ := List.mem_map.1 hu; rfl
  have HS := Lib.hid (splice_closed h.1 hn hp)
  have hN : (I64 ((vs.take n).drop (p + 1))).length = Nat.min (n - (p + 1)) (n - p) := by rw [hcl]; exact (Nat.min_eq_left (by omega)).symm
  have HB := Lib.hid (And.intro hfit (And.intro hone (And.intro hsrc (And.intro hcl hN))))
  have HP := Lib.hid (And.intro hn hp)
  clear hfit hone hsrc hcl hN h hR hl hk hlen hat
  have HPOS : ∀ (q : Nat) (dp sp : Option Addr), (p < 6 → dp = some ⟨B, p, none⟩) → (p < 5 → sp = some ⟨B, p + 1, none⟩) → 0 < (I64 ((vs.take n).drop (p + 1))).length → dp = some ⟨B, p, none⟩ ∧ ∃ ad, sp = some ad ∧ ∀ j v, (I64 ((vs.take n).drop (p + 1)))[j]? = some v → (w.drewN q).cell? (ad.add j) = some v := fun q dp sp h1 h2 hc => by
    have h3 := HB.out.2.2.2.1
    have h4 := HP.out
    refine ⟨h1 (by omega), ⟨B, p + 1, none⟩, h2 (by omega), fun j v hj => ?_⟩
    have h5 := HB.out.2.2.1 j v hj
    rw [show Addr.add ⟨B, p + 1, none⟩ j = ⟨B, p + 1 + j, none⟩ by simp [Addr.add]]
    exact h5
  have HPH := Lib.hid HPOS
  clear HPOS
  have hsz : (Try.prog.info? 3).map (·.size) = some 1 := by kernel_rfl
  go_region_law (refine step_copy_in ?hgd (.tmp 20) (.tmp 24) 22 22 ?ho 3 Try.underlying22 hsz (some ⟨B, p, none⟩) (if p = 5 then some ⟨B, 0, none⟩ else some ⟨B, p + 1, none⟩) (n - p) (6 - p) (n - (p + 1)) (5 - p) ?hd ?hs B p (I64 vs ++ [Value.int .i64 (n : Int)]) 110 ?hg (I64 ((vs.take n).drop (p + 1))) HB.out.2.2.2.2 ?hpos HB.out.1 HB.out.2.1 ?_; (case hgd => rfl); (case ho => rfl); (case hd => go_simp); (case hs => go_simp); (case hg => exact (hG (q + 1)).out); (case hpos => exact HPH.out (q + 1) _ _ (fun _ => rfl) (fun h => if_neg (by omega))); intro w4 hg4 hb4)
  have hR4 : RawO w4 B (closed vs n p) n := ⟨closed_len hC.out.1.1 hn hp, by rw [← HS.out]; exact hg4.out⟩
  have hb5 : But [B] w w4 := ((But.refl [B] w).drewN q).drew.next hb4
  clear hg4 hb4 HB HS hG
  have hf := hR4.frozen (n - 1)
  have hc := hR4.cellV (k := n - 1) (by omega)
  have e1 : ((n : Int) - 1) = ((n - 1 : Nat) : Int) := by omega
  rw [e1] at p4
  have HR5 := Lib.hid (hR4.setV (k := n - 1) (by omega) k)
  have HB6 := Lib.hid (hb5.set (p := ⟨B, n - 1, none⟩) (.inl (by simp)) (.int .i64 k))
  clear hR4 hb5 HPH HP hC hsz
  go_wp2_with fail
  all_goals go_ret
  · subst h
    exact ⟨rfl, HR5.out, HB6.out⟩
  · exact ⟨rfl, HR5.out, HB6.out⟩

theorem took_not {B n : Nat} {l : List Int} {k : Int} (w : World) (h : Ord w B n l) (hk : k ∉ l) :
    Calls Try.prog 24 #[.pointer (some ⟨B, 0, none⟩), .int .i64 k] w fun e w' => e = .returned (.int .i64 2) ∧ But [] w w' := by
  obtain ⟨vs, h1, h2⟩ := h.raw
  have hrow := row_raw w h1 h.le
  have hlen := h.len
  have hle := h.le
  go_enter Try.func24, Try.ntmps24
  go_wp2_with fail
  refine hrow.mono ?_
  rintro e w1 ⟨rfl, q, rfl⟩
  have hix := index_any _ l k (w.drewN q) (h.rowI.below (below_drewN (Below.refl w.heap.size w) q)) (by omega)
  rw [atV_not hk] at hix
  clear hrow h h1 h2
  go_wp2_with fail
  refine hix.mono ?_
  rintro e w2 ⟨rfl, rfl⟩
  go_wp2_with fail
  go_ret
  exact ⟨rfl, (But.refl [] w).drewN q⟩

theorem Ord.took {W W' : World} {B n p : Nat} {vs l : List Int} {k : Int} (h : Ord W B n l) (hl : l = vs.take n) (hv : vs.length = 6) (hk : k ∈ l) (hp : l.idxOf? k = some p) (hpn : p < n) (hr : RawO W' B ((closed vs n p).set (n - 1) k) n) : Ord W' B n (l.erase k ++ [k]) :=
  ⟨⟨_, hr, (closed_took hv h.le hl hp hpn).symm⟩, h.pos, h.le, h.perm.took hk⟩

theorem took_any {B n : Nat} {l : List Int} (k : Int) (w : World) (h : Ord w B n l) :
    Calls Try.prog 24 #[.pointer (some ⟨B, 0, none⟩), .int .i64 k] w fun e w' => e = .returned (.int .i64 (tookE l k)) ∧ Ord w' B n (tookX l k) ∧ But [B] w w' := by
  by_cases hk : k ∈ l
  · obtain ⟨p, h1, h2, h3, h4⟩ := atV_is hk
    obtain ⟨vs, h5, h6⟩ := h.raw
    have hpn : p < n := by rw [← h.len]; exact h4
    refine (took_in w h5 h6 h.le hpn h1 h3).mono ?_
    rintro e w' ⟨rfl, hr, hb⟩
    rw [tookE, tookX, if_pos hk, if_pos hk]
    exact ⟨rfl, h.took h6 h5.1 hk h1 hpn hr, hb⟩
  · refine (took_not w h hk).mono ?_
    rintro e w' ⟨rfl, hb⟩
    rw [tookE, tookX, if_neg hk, if_neg hk]
    exact ⟨rfl, h.fresh hb, hb.mono (by simp)⟩
end Go.Proofs.Ytamkmmpockmpfaa.Od
