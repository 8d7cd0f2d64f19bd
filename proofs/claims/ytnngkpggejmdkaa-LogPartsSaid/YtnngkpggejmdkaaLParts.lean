/-
  The law LogParts.
-/
import Derived.Test.YtnngkpggejmdkaaLEnds
namespace Go.Proofs.Ytnngkpggejmdkaa
open Go.RowKit

/-- The law's memory: the log, and a row of what was put: apart. -/
structure Duel (w W : World) (B : Nat) (v u : Value) (xs ys : List En) : Prop where
  log : LogAt W B B v xs
  row : W.ownsRow w.heap.size 31 13 u ys.length (flatE ys)
  apart : ∀ g, u.ownBlock = some g → v.ownBlock ≠ some g
  below : Below w.heap.size w W
  ge : w.heap.size ≤ B
section
variable {w W W' : World} {B : Nat} {v u : Value} {xs ys : List En}
theorem Duel.put {x : En} {e : Ending} (h : Duel w W B v u xs ys) (hp : PutPost W B B v xs x e W') : ∃ v1, Duel w W' B v1 u (putX xs x) ys := by
  obtain ⟨_, v1, h1, h2, h3⟩ := hp
  have hne := h.log.head.not_row (by decide) h.row
  refine ⟨v1, h1, h2.row h.row (fun g hg e => ?_), fun g hg e => ?_, but_low h.below h.log h2 (Nat.le_refl _) h.ge h.ge, h.ge⟩
  · unfold logBlocks at e
    rcases List.mem_cons.1 e with rfl | e
    · exact hne hg.symm
    · exact h.apart g hg (by simpa using e)
  · rcases h3 with h3 | ⟨g3, h3, h4⟩
    · exact h.apart g hg (h3 ▸ e)
    · rw [h3] at e
      have := (h.row.lt g hg).2
      have := Option.some.inj e
      omega
theorem Duel.later (h : Duel w W B v u xs ys) (hb : Below W.heap.size W W') : Duel w W' B v u xs ys :=
  ⟨h.log.below hb, (But.of_below hb []).row h.row (by simp), h.apart, below_nx h.below hb (Nat.le_refl _), h.ge⟩
theorem Duel.app {x : En} {tmp : Obj} {u' : Value} (h : Duel w W B v u xs ys) (ho : W'.ownsRow w.heap.size 31 13 u' (ys.length + 1) (flatE ys ++ x.cellsL)) (hg : (W.alloc tmp).grownBy W' u.ownBlock)
    (hat : u'.ownBlock = u.ownBlock ∨ u'.ownBlock = some (W.heap.size + 1)) : Duel w W' B v u' xs (ys ++ [x]) := by
  have h' := h.later (below1 W tmp)
  have hne := h'.log.head.not_row (by decide) h'.row
  refine ⟨⟨h'.log.head.kept hg hne, h'.log.row.kept hg ?_⟩, ?_, fun g h1 h2 => ?_, h'.below.grown hg h'.below.size (fun k e => (h'.row.lt k e).1), h.ge⟩
  · cases hb : v.ownBlock with
    | none => exact .inl rfl
    | some g => exact .inr (fun e => h.apart g e.symm hb)
  · rw [List.length_append, flatE_snoc]; exact ho
  · rcases hat with h3 | h3
    · exact h.apart g (h3 ▸ h1) h2
    · rw [h3] at h1
      have := (h.log.rowB h2).1
      have := Option.some.inj h1
      omega
end
theorem takeD {P : Program} {md : Region.Mode} {ops : Array Oper} {Q : Exit → Act → World → Prop} {S : World → Prop} {i : Nat} {d : Option Tmp} {v : Value} {fuel : Nat} {listed : Array Bool} {a : Act} {w : World} (hd : (ops[i]?).map Oper.dst = some d)
    (hs : Region.noSelect ops = true) (hf : Region.free md ops listed i = true) (hr : (Region.ready md ops listed).contains i = true)
    (hQ : ∀ c a w, Q (.panic c) (a.put d v) w → Q (.panic c) a w) (hy : ∀ oi, ops[i]? = some oi → YieldsIf P ops S oi v a) (hS : S w)
    (h : wpAnyH P md ops Q S fuel (listed.setIfInBounds i true) (a.put d v) w) : wpAnyH P md ops Q S (fuel + 1) listed a w := by
  cases ho : ops[i]? with
  | none => rw [ho] at hd; cases hd
  | some oi =>
    rw [ho] at hd
    simp only [Option.map_some, Option.some.injEq] at hd
    subst hd
    exact wpAnyH_take ho hs hf hr hQ (hy oi ho) hS h
theorem max_eq (p : Int) : (if p < 0 then (0 : Int) else p) = max p 0 := by
  split <;> omega
theorem com_take {xs : List En} {j : Nat} {x : En} (hx : xs[j]? = some x) : (xs.take (j + 1)).countP (fun x => !isCom x) = (xs.take j).countP (fun x => !isCom x) + (if isCom x = true then 0 else 1) := by
  rw [take_snocE xs hx, List.countP_append]
  congr 1
  by_cases h : isCom x = true <;> simp [h]

set_option linter.unusedSimpArgs false in
set_option maxRecDepth 100000 in
set_option maxHeartbeats 4000000 in
theorem parts_any (v : Value) (l : List En) (p t : Int) (k : Nat) (hp : I64b p) (hk : k < 256) (w : World) (hr : EnRow w v l) (hok : ∀ x ∈ l, x.ok) :
    Calls Try.prog 3 #[v, .int .i64 p, .int .i64 t, .int .u8 (k : Int)] w fun e w' => e = .returned (.bool true) ∧ Below w.heap.size w w' := by
  obtain ⟨i0, hi0, hz0, hz1, hz2⟩ := info_parts infoEntry
  obtain ⟨a, c, rfl⟩ := hr.slice
  go_enter Try.func3, Try.ntmps3
  by_cases h200 : l.length ≤ 200
  case neg =>
    have hgt : (200 : Int) < (l.length : Int) := by omega
    clear hr
    go_wp2_with fail
    refine (lalive_any _).mono ?_
    rintro e w1 ⟨rfl, hb⟩
    go_wp2_with fail
    go_ret
    exact ⟨rfl, hb⟩
  case pos =>
  have hle : ¬ (200 : Int) < (l.length : Int) := by omega
  have hnew := new_any w
  obtain ⟨B, hB⟩ : ∃ B, B = w.heap.size := ⟨_, rfl⟩
  rw [← hB] at hnew
  have hBw : w.heap.size ≤ B := by omega
  clear hB
  go_wp2_with fail
  refine hnew.mono ?_
  clear hnew
  rintro e w1 ⟨rfl, hL1, hb1⟩
  have hD1 : Duel w w1 B (.slice none 0 0) (.slice none 0 0) [] [] := ⟨hL1, World.ownsRow_nil _ _ _ _, fun g h => by simp [Value.ownBlock] at h, hb1.mono hBw, hBw⟩
  clear hL1 hb1
  go_wp2_with fail
  go_loopw [10, 11] (fun uv iv wr => ∃ (i : Nat) (xs : List En) (v : Value), iv = .int .i64 (i : Int) ∧ i ≤ l.length ∧ Duel w wr B v uv xs xs ∧ Hid (Good xs) ∧ xs.length ≤ i ∧ (∀ x ∈ xs, x.ok)) (fun _ iv _ => l.length - (intOf iv).toNat)
  case atStart => exact ⟨0, [], _, rfl, Nat.zero_le _, hD1, Lib.hid good_nil, Nat.le_refl _, by simp⟩
  case round =>
    clear hD1
    obtain ⟨i, xs, v, rfl, hi, hD, HG, hxl, hxo⟩ := hrel
    obtain ⟨ua, uc, rfl⟩ := owns_slice hD.row
    by_cases hlt : i < l.length
    · have hlt' : (i : Int) < (l.length : Int) := by omega
      have q0 : (0 : Int) ≤ (i : Int) := by omega
      obtain ⟨x, hx⟩ : ∃ x, l[i]? = some x := ⟨_, List.getElem?_eq_getElem hlt⟩
      have hxk := hok x (List.mem_of_getElem? hx)
      have HGn := Lib.hid (good_put HG.out x)
      have hxon := putX_mem hxo hxk
      have hxln := putX_len xs x
      have hcp := put_any x wr hD.log (by omega) hxo hxk (Nat.le_of_lt hD.log.lt)
      unfold En.val at hcp
      obtain ⟨b1, o1, rfl, _, x0, x1, x2, x3, x4, x5, x6, x7, x8, x9, x10, x11, x12⟩ := (hr.below hD.below).at hx
      have HX := Lib.hid hx
      have hne1 : ∀ (W : World) (j : Nat) (u : Value), x.cellsL[j]? = some u → (W.alloc (.cells #[.int .i64 x.a, .int .u8 (x.k : Int), .int .i64 x.w, .int .i64 x.t, .int .i64 x.p, .int .i64 x.c, .int .i64 x.b, .int .i64 x.q, .int .i64 x.v, .int .i64 x.u, .bool x.o, .int .i64 x.e, .int .u64 (x.s : Int)] 31)).cell? (Addr.add ⟨W.heap.size, 0, none⟩ j) = some u := fun W j u hj => en_cell (enAt_new W x) j u hj
      have hon1 : ∀ u ∈ x.cellsL, u.oneCell' = true := by simpa using en_one [x]
      clear hx
      go_wp2_with fail
      refine hcp.mono ?_
      clear hcp
      rintro e w3 hpost
      obtain ⟨v3, hD3⟩ := hD.put hpost
      obtain ⟨rfl, _⟩ := hpost
      clear x0 x1 x2 x3 x4 x5 x6 x7 x8 x9 x10 x11 x12
      by_cases hz : putE xs x = 0
      · rw [hz]
        rw [putX_ok hz] at hD3 HGn hxon hxln
        obtain ⟨b1, o1', hab, _, x0, x1, x2, x3, x4, x5, x6, x7, x8, x9, x10, x11, x12⟩ := (hr.below hD3.below).at HX.out
        cases hab
        clear hz hD
        go_wp2_with (at_builtin; refine wpList_append_own_at _ rfl (.tmp 38) (.tmp 43) 22 rfl w.heap.size 31 i0 (.agg #[.int .i64 0, .int .u8 0, .int .i64 0, .int .i64 0, .int .i64 0, .int .i64 0, .int .i64 0, .int .i64 0, .int .i64 0, .int .i64 0, .bool false, .int .i64 0, .int .u64 0]) 13 104 Try.underlying22 hi0 hz0 hz1 hz2 rfl (by decide) _ xs.length (flatE xs) rfl (hD3.row.alloc _) ⟨w3.heap.size, 0, none⟩ 1 1 (x.cellsL) rfl rfl (hne1 w3) hon1 ?c3 ?c4 ?c5 ?_)
        case c3 => unfold maxLen; omega
        case c4 => omega
        case c5 => have := hD3.below.size; simp; omega
        intro u4 w4 hown4 hgrow4 _ hat4
        have hD4 := hD3.app hown4 hgrow4 hat4
        obtain ⟨ua4, uc4, rfl⟩ := owns_slice hD4.row
        clear hown4 hgrow4 hat4 hD3 x0 x1 x2 x3 x4 x5 x6 x7 x8 x9 x10 x11 x12
        go_wp2_with fail
        go_roundw
        case rel => exact ⟨i + 1, _, v3, by go_num, by omega, by simpa using hD4, HGn, by simp at hxln ⊢; omega, hxon⟩
        case measure => simp [intOf]; omega
      · rw [putX_not hz] at hD3 HGn hxon hxln
        have hz1 := zero_eq hz
        clear hz hD
        generalize putE xs x = q at hz1
        go_wp2_with fail
        go_roundw
        case rel => exact ⟨i + 1, _, v3, by go_num, by omega, hD3, HGn, by omega, hxon⟩
        case measure => simp [intOf]; omega
    · have hlt' : ¬ (i : Int) < (l.length : Int) := by omega
      have hxl2 : xs.length ≤ 200 := by omega
      clear hxl hlt hr hok
      have hL1 := hD.log
      have hI1 := EnRow.of_owns hD.row
      have hbl1 := hD.below
      have hcl := all_any wr hL1 (by omega) hxo
      clear hD
      go_wp2_with fail
      refine hcl.mono ?_
      clear hcl
      rintro e w2 ⟨la, lc, rfl, hA2, hb2⟩
      have hL2 := hL1.below hb2
      have hI2 := hI1.below hb2
      have hbl2 := below_nx hbl1 hb2 (Nat.le_refl _)
      have hcc := tells_calls (commits_any w2 hL2 (by omega) hxo)
      have HC : Hid ((xs.filter isCom).length + xs.countP (fun x => !isCom x) = xs.length) := Lib.hid (com_sum xs)
      have HS : Hid ((xs.filter isCom).isSublist xs = true) := Lib.hid (sub_filt xs isCom)
      have hcl2 : (xs.filter isCom).length ≤ 200 := Nat.le_trans (List.length_filter_le _ _) hxl2
      generalize xs.filter isCom = cs at hcc HC HS hcl2
      clear hL1 hI1 hbl1 hb2
      go_wp2_with fail
      refine hcc.mono ?_
      clear hcc
      rintro e w3 ⟨ca, cc, rfl, hC3, hb3⟩
      have hL3 := hL2.below hb3
      have hI3 := hI2.below hb3
      have hA3 := hA2.below hb3
      have hbl3 := below_nx hbl2 hb3 (Nat.le_refl _)
      clear hL2 hI2 hA2 hbl2 hb3
      go_wp2_with fail
      go_loopw [14, 15] (fun mv jv w4 => ∃ j m : Nat, jv = .int .i64 (j : Int) ∧ mv = .int .i64 (m : Int) ∧ j ≤ xs.length ∧ m ≤ j ∧ Hid (m = (xs.take j).countP (fun x => !isCom x)) ∧ Below w3.heap.size w3 w4) (fun _ jv _ => xs.length - (intOf jv).toNat)
      case atStart => exact ⟨0, 0, rfl, rfl, Nat.zero_le _, Nat.le_refl _, Lib.hid rfl, Below.refl _ _⟩
      case round =>
        obtain ⟨j, m, rfl, rfl, hj, hmj, HM, hb4⟩ := hrel
        by_cases hjt : j < xs.length
        · have hjt' : (j : Int) < (xs.length : Int) := by omega
          have q0 : (0 : Int) ≤ (j : Int) := by omega
          obtain ⟨x, hx⟩ : ∃ x, xs[j]? = some x := ⟨_, List.getElem?_eq_getElem hjt⟩
          have hxk := hxo x (List.mem_of_getElem? hx)
          have hA4 := hA3.below hb4
          obtain ⟨b1, o1, rfl, hb1l, x0, x1, x2, x3, x4, x5, x6, x7, x8, x9, x10, x11, x12⟩ := hA4.at hx
          have hcm := commit_any x.k wr
          have HT := Lib.hid (com_take hx)
          have hck := check_any x hxk
          have hc0 : checkE x = 0 := by unfold checkE; rw [good_okB HG.out hx]; rfl
          rw [hc0] at hck
          unfold En.val at hck
          have hisc : commitB x.k = isCom x := rfl
          rw [hisc] at hcm
          obtain ⟨bc, hbc⟩ : ∃ bc, bc = isCom x := ⟨_, rfl⟩
          rw [← hbc] at hcm
          have HT2 : Hid ((m + (if bc = true then 0 else 1) : Nat) = (xs.take (j + 1)).countP (fun x => !isCom x)) := Lib.hid (by rw [HT.out, ← HM.out, hbc])
          clear HT hbc hisc hc0 HM
          go_wp2_with fail
          refine hcm.mono ?_
          clear hcm
          rintro e w5 ⟨rfl, rfl⟩
          by_cases hj0 : 0 < j
          · have hj0' : (0 : Int) < (j : Int) := by omega
            have hwj : IntKind.i64.wrap ((j : Int) - 1) = ((j - 1 : Nat) : Int) := by rw [IntKind.wrap_i64]; omega
            have q1 : (0 : Int) ≤ ((j - 1 : Nat) : Int) := by omega
            have q2 : ((j - 1 : Nat) : Int) < (xs.length : Int) := by omega
            obtain ⟨y, hy⟩ : ∃ y, xs[j - 1]? = some y := ⟨_, List.getElem?_eq_getElem (by omega)⟩
            have hrise : decide (x.a < y.a) = false := by
              have := good_rise (i := j - 1) HG.out hy (by rw [show j - 1 + 1 = j by omega]; exact hx)
              simp; omega
            obtain ⟨b2, o2, hab, _, y0, _⟩ := hA4.at hy
            cases hab
            generalize hjm : (j - 1 : Nat) = jm at hwj q1 q2 y0
            clear hjm hx hy hA4
            have hkS : ∀ W, Below w5.heap.size w5 W → W.cell? ⟨b1, o1 + j * 13, none⟩ = some (.int .i64 x.a) ∧ W.cell? ⟨b1, o1 + j * 13 + 1, none⟩ = some (.int .u8 (x.k : Int)) ∧ W.cell? ⟨b1, o1 + j * 13 + 2, none⟩ = some (.int .i64 x.w) ∧ W.cell? ⟨b1, o1 + j * 13 + 3, none⟩ = some (.int .i64 x.t) ∧ W.cell? ⟨b1, o1 + j * 13 + 4, none⟩ = some (.int .i64 x.p) ∧ W.cell? ⟨b1, o1 + j * 13 + 5, none⟩ = some (.int .i64 x.c) ∧ W.cell? ⟨b1, o1 + j * 13 + 6, none⟩ = some (.int .i64 x.b) ∧ W.cell? ⟨b1, o1 + j * 13 + 7, none⟩ = some (.int .i64 x.q) ∧ W.cell? ⟨b1, o1 + j * 13 + 8, none⟩ = some (.int .i64 x.v) ∧ W.cell? ⟨b1, o1 + j * 13 + 9, none⟩ = some (.int .i64 x.u) ∧ W.cell? ⟨b1, o1 + j * 13 + 10, none⟩ = some (.bool x.o) ∧ W.cell? ⟨b1, o1 + j * 13 + 11, none⟩ = some (.int .i64 x.e) ∧ W.cell? ⟨b1, o1 + j * 13 + 12, none⟩ = some (.int .u64 (x.s : Int)) ∧ W.cell? ⟨b1, o1 + jm * 13, none⟩ = some (.int .i64 y.a) := fun W hW => ⟨(hW.cell (p := ⟨b1, o1 + j * 13, none⟩) hb1l).trans x0, (hW.cell (p := ⟨b1, o1 + j * 13 + 1, none⟩) hb1l).trans x1, (hW.cell (p := ⟨b1, o1 + j * 13 + 2, none⟩) hb1l).trans x2, (hW.cell (p := ⟨b1, o1 + j * 13 + 3, none⟩) hb1l).trans x3, (hW.cell (p := ⟨b1, o1 + j * 13 + 4, none⟩) hb1l).trans x4, (hW.cell (p := ⟨b1, o1 + j * 13 + 5, none⟩) hb1l).trans x5, (hW.cell (p := ⟨b1, o1 + j * 13 + 6, none⟩) hb1l).trans x6, (hW.cell (p := ⟨b1, o1 + j * 13 + 7, none⟩) hb1l).trans x7, (hW.cell (p := ⟨b1, o1 + j * 13 + 8, none⟩) hb1l).trans x8, (hW.cell (p := ⟨b1, o1 + j * 13 + 9, none⟩) hb1l).trans x9, (hW.cell (p := ⟨b1, o1 + j * 13 + 10, none⟩) hb1l).trans x10, (hW.cell (p := ⟨b1, o1 + j * 13 + 11, none⟩) hb1l).trans x11, (hW.cell (p := ⟨b1, o1 + j * 13 + 12, none⟩) hb1l).trans x12, (hW.cell (p := ⟨b1, o1 + jm * 13, none⟩) hb1l).trans y0⟩
            have r0 : Below w5.heap.size w5 w5.drew := (Below.refl _ _).drew
            have ck := hck w5.drew
            clear x0 x1 x2 x3 x4 x5 x6 x7 x8 x9 x10 x11 x12 y0
            cases bc with
            | true =>
              go_wp2_with fail
              go_region_held3 (fun W => W.cell? ⟨b1, o1 + j * 13, none⟩ = some (.int .i64 x.a) ∧ W.cell? ⟨b1, o1 + j * 13 + 1, none⟩ = some (.int .u8 (x.k : Int)) ∧ W.cell? ⟨b1, o1 + j * 13 + 2, none⟩ = some (.int .i64 x.w) ∧ W.cell? ⟨b1, o1 + j * 13 + 3, none⟩ = some (.int .i64 x.t) ∧ W.cell? ⟨b1, o1 + j * 13 + 4, none⟩ = some (.int .i64 x.p) ∧ W.cell? ⟨b1, o1 + j * 13 + 5, none⟩ = some (.int .i64 x.c) ∧ W.cell? ⟨b1, o1 + j * 13 + 6, none⟩ = some (.int .i64 x.b) ∧ W.cell? ⟨b1, o1 + j * 13 + 7, none⟩ = some (.int .i64 x.q) ∧ W.cell? ⟨b1, o1 + j * 13 + 8, none⟩ = some (.int .i64 x.v) ∧ W.cell? ⟨b1, o1 + j * 13 + 9, none⟩ = some (.int .i64 x.u) ∧ W.cell? ⟨b1, o1 + j * 13 + 10, none⟩ = some (.bool x.o) ∧ W.cell? ⟨b1, o1 + j * 13 + 11, none⟩ = some (.int .i64 x.e) ∧ W.cell? ⟨b1, o1 + j * 13 + 12, none⟩ = some (.int .u64 (x.s : Int)) ∧ W.cell? ⟨b1, o1 + jm * 13, none⟩ = some (.int .i64 y.a))
                ((refine hkS _ ?_; with_reducible first | exact r0 | exact hb6))
                ((first | (go_at_call 11; with_reducible refine ck.mono ?_; rintro e w6 ⟨rfl, hb6'⟩; have hb6 : Below w5.heap.size w5 w6 := below_nx r0 hb6' (Nat.le_refl _))))
              all_goals go_wp2_with fail
              all_goals go_roundw
              all_goals first
                | exact ⟨j + 1, m, by go_num, rfl, by omega, by omega, HT2, below_nx hb4 hb6 (Nat.le_refl _)⟩
                | (simp [intOf]; omega)
            | false =>
              go_wp2_with fail
              go_region_held3 (fun W => W.cell? ⟨b1, o1 + j * 13, none⟩ = some (.int .i64 x.a) ∧ W.cell? ⟨b1, o1 + j * 13 + 1, none⟩ = some (.int .u8 (x.k : Int)) ∧ W.cell? ⟨b1, o1 + j * 13 + 2, none⟩ = some (.int .i64 x.w) ∧ W.cell? ⟨b1, o1 + j * 13 + 3, none⟩ = some (.int .i64 x.t) ∧ W.cell? ⟨b1, o1 + j * 13 + 4, none⟩ = some (.int .i64 x.p) ∧ W.cell? ⟨b1, o1 + j * 13 + 5, none⟩ = some (.int .i64 x.c) ∧ W.cell? ⟨b1, o1 + j * 13 + 6, none⟩ = some (.int .i64 x.b) ∧ W.cell? ⟨b1, o1 + j * 13 + 7, none⟩ = some (.int .i64 x.q) ∧ W.cell? ⟨b1, o1 + j * 13 + 8, none⟩ = some (.int .i64 x.v) ∧ W.cell? ⟨b1, o1 + j * 13 + 9, none⟩ = some (.int .i64 x.u) ∧ W.cell? ⟨b1, o1 + j * 13 + 10, none⟩ = some (.bool x.o) ∧ W.cell? ⟨b1, o1 + j * 13 + 11, none⟩ = some (.int .i64 x.e) ∧ W.cell? ⟨b1, o1 + j * 13 + 12, none⟩ = some (.int .u64 (x.s : Int)) ∧ W.cell? ⟨b1, o1 + jm * 13, none⟩ = some (.int .i64 y.a))
                ((refine hkS _ ?_; with_reducible first | exact r0 | exact hb6))
                ((first | (go_at_call 11; with_reducible refine ck.mono ?_; rintro e w6 ⟨rfl, hb6'⟩; have hb6 : Below w5.heap.size w5 w6 := below_nx r0 hb6' (Nat.le_refl _))))
              all_goals go_wp2_with fail
              all_goals go_roundw
              all_goals first
                | exact ⟨j + 1, m + 1, by go_num, by go_num, by omega, by omega, HT2, below_nx hb4 hb6 (Nat.le_refl _)⟩
                | (simp [intOf]; omega)
          · have hj0' : ¬ (0 : Int) < (j : Int) := by omega
            have hj0d : decide ((0 : Int) < (j : Int)) = false := by simp; omega
            clear hx hA4
            have hkS : ∀ W, Below w5.heap.size w5 W → W.cell? ⟨b1, o1 + j * 13, none⟩ = some (.int .i64 x.a) ∧ W.cell? ⟨b1, o1 + j * 13 + 1, none⟩ = some (.int .u8 (x.k : Int)) ∧ W.cell? ⟨b1, o1 + j * 13 + 2, none⟩ = some (.int .i64 x.w) ∧ W.cell? ⟨b1, o1 + j * 13 + 3, none⟩ = some (.int .i64 x.t) ∧ W.cell? ⟨b1, o1 + j * 13 + 4, none⟩ = some (.int .i64 x.p) ∧ W.cell? ⟨b1, o1 + j * 13 + 5, none⟩ = some (.int .i64 x.c) ∧ W.cell? ⟨b1, o1 + j * 13 + 6, none⟩ = some (.int .i64 x.b) ∧ W.cell? ⟨b1, o1 + j * 13 + 7, none⟩ = some (.int .i64 x.q) ∧ W.cell? ⟨b1, o1 + j * 13 + 8, none⟩ = some (.int .i64 x.v) ∧ W.cell? ⟨b1, o1 + j * 13 + 9, none⟩ = some (.int .i64 x.u) ∧ W.cell? ⟨b1, o1 + j * 13 + 10, none⟩ = some (.bool x.o) ∧ W.cell? ⟨b1, o1 + j * 13 + 11, none⟩ = some (.int .i64 x.e) ∧ W.cell? ⟨b1, o1 + j * 13 + 12, none⟩ = some (.int .u64 (x.s : Int)) := fun W hW => ⟨(hW.cell (p := ⟨b1, o1 + j * 13, none⟩) hb1l).trans x0, (hW.cell (p := ⟨b1, o1 + j * 13 + 1, none⟩) hb1l).trans x1, (hW.cell (p := ⟨b1, o1 + j * 13 + 2, none⟩) hb1l).trans x2, (hW.cell (p := ⟨b1, o1 + j * 13 + 3, none⟩) hb1l).trans x3, (hW.cell (p := ⟨b1, o1 + j * 13 + 4, none⟩) hb1l).trans x4, (hW.cell (p := ⟨b1, o1 + j * 13 + 5, none⟩) hb1l).trans x5, (hW.cell (p := ⟨b1, o1 + j * 13 + 6, none⟩) hb1l).trans x6, (hW.cell (p := ⟨b1, o1 + j * 13 + 7, none⟩) hb1l).trans x7, (hW.cell (p := ⟨b1, o1 + j * 13 + 8, none⟩) hb1l).trans x8, (hW.cell (p := ⟨b1, o1 + j * 13 + 9, none⟩) hb1l).trans x9, (hW.cell (p := ⟨b1, o1 + j * 13 + 10, none⟩) hb1l).trans x10, (hW.cell (p := ⟨b1, o1 + j * 13 + 11, none⟩) hb1l).trans x11, (hW.cell (p := ⟨b1, o1 + j * 13 + 12, none⟩) hb1l).trans x12⟩
            have r0 : Below w5.heap.size w5 w5.drew := (Below.refl _ _).drew
            have ck := hck w5.drew
            clear x0 x1 x2 x3 x4 x5 x6 x7 x8 x9 x10 x11 x12
            cases bc with
            | true =>
              go_wp2_with fail
              refine wp_region_held_drew (S := fun W => W.cell? ⟨b1, o1 + j * 13, none⟩ = some (.int .i64 x.a) ∧ W.cell? ⟨b1, o1 + j * 13 + 1, none⟩ = some (.int .u8 (x.k : Int)) ∧ W.cell? ⟨b1, o1 + j * 13 + 2, none⟩ = some (.int .i64 x.w) ∧ W.cell? ⟨b1, o1 + j * 13 + 3, none⟩ = some (.int .i64 x.t) ∧ W.cell? ⟨b1, o1 + j * 13 + 4, none⟩ = some (.int .i64 x.p) ∧ W.cell? ⟨b1, o1 + j * 13 + 5, none⟩ = some (.int .i64 x.c) ∧ W.cell? ⟨b1, o1 + j * 13 + 6, none⟩ = some (.int .i64 x.b) ∧ W.cell? ⟨b1, o1 + j * 13 + 7, none⟩ = some (.int .i64 x.q) ∧ W.cell? ⟨b1, o1 + j * 13 + 8, none⟩ = some (.int .i64 x.v) ∧ W.cell? ⟨b1, o1 + j * 13 + 9, none⟩ = some (.int .i64 x.u) ∧ W.cell? ⟨b1, o1 + j * 13 + 10, none⟩ = some (.bool x.o) ∧ W.cell? ⟨b1, o1 + j * 13 + 11, none⟩ = some (.int .i64 x.e) ∧ W.cell? ⟨b1, o1 + j * 13 + 12, none⟩ = some (.int .u64 (x.s : Int))) (by kernel_rfl) (hkS _ r0) (fun hHeld => ?_)
              refine takeD (i := 0) (d := some 64) (v := .int .i64 (j : Int)) (by kernel_rfl) (by kernel_rfl) (by kernel_rfl) (by kernel_rfl) (fun _ _ _ h => h) (fun oi h => ?_) hHeld ?_
              · simp only [List.getElem?_toArray, List.getElem?_cons_succ, List.getElem?_cons_zero, Option.some.injEq] at h
                subst h
                refine Or.inl ⟨by rfl, fun w' hSw => ?_⟩
                obtain ⟨x0, x1, x2, x3, x4, x5, x6, x7, x8, x9, x10, x11, x12⟩ := hSw
                go_simp
              try simp only [Act.put, List.setIfInBounds_toArray, List.set_cons_zero, List.set_cons_succ]
              refine takeD (i := 1) (d := some 65) (v := .bool false) (by kernel_rfl) (by kernel_rfl) (by kernel_rfl) (by kernel_rfl) (fun _ _ _ h => h) (fun oi h => ?_) hHeld ?_
              · simp only [List.getElem?_toArray, List.getElem?_cons_succ, List.getElem?_cons_zero, Option.some.injEq] at h
                subst h
                refine Or.inl ⟨by rfl, fun w' hSw => ?_⟩
                obtain ⟨x0, x1, x2, x3, x4, x5, x6, x7, x8, x9, x10, x11, x12⟩ := hSw
                go_simp
              try simp only [Act.put, List.setIfInBounds_toArray, List.set_cons_zero, List.set_cons_succ]
              refine takeD (i := 2) (d := some 66) (v := .bool false) (by kernel_rfl) (by kernel_rfl) (by kernel_rfl) (by kernel_rfl) (fun _ _ _ h => h) (fun oi h => ?_) hHeld ?_
              · simp only [List.getElem?_toArray, List.getElem?_cons_succ, List.getElem?_cons_zero, Option.some.injEq] at h
                subst h
                refine Or.inl ⟨by rfl, fun w' hSw => ?_⟩
                obtain ⟨x0, x1, x2, x3, x4, x5, x6, x7, x8, x9, x10, x11, x12⟩ := hSw
                go_simp
              try simp only [Act.put, List.setIfInBounds_toArray, List.set_cons_zero, List.set_cons_succ]
              refine takeD (i := 3) (d := some 67) (v := undef) (by kernel_rfl) (by kernel_rfl) (by kernel_rfl) (by kernel_rfl) (fun _ _ _ h => h) (fun oi h => ?_) hHeld ?_
              · simp only [List.getElem?_toArray, List.getElem?_cons_succ, List.getElem?_cons_zero, Option.some.injEq] at h
                subst h
                exact Or.inr ⟨by rfl, rfl⟩
              try simp only [Act.put, List.setIfInBounds_toArray, List.set_cons_zero, List.set_cons_succ]
              refine takeD (i := 4) (d := some 68) (v := undef) (by kernel_rfl) (by kernel_rfl) (by kernel_rfl) (by kernel_rfl) (fun _ _ _ h => h) (fun oi h => ?_) hHeld ?_
              · simp only [List.getElem?_toArray, List.getElem?_cons_succ, List.getElem?_cons_zero, Option.some.injEq] at h
                subst h
                exact Or.inr ⟨by rfl, rfl⟩
              try simp only [Act.put, List.setIfInBounds_toArray, List.set_cons_zero, List.set_cons_succ]
              refine takeD (i := 5) (d := some 69) (v := undef) (by kernel_rfl) (by kernel_rfl) (by kernel_rfl) (by kernel_rfl) (fun _ _ _ h => h) (fun oi h => ?_) hHeld ?_
              · simp only [List.getElem?_toArray, List.getElem?_cons_succ, List.getElem?_cons_zero, Option.some.injEq] at h
                subst h
                exact Or.inr ⟨by rfl, rfl⟩
              try simp only [Act.put, List.setIfInBounds_toArray, List.set_cons_zero, List.set_cons_succ]
              refine takeD (i := 6) (d := some 70) (v := undef) (by kernel_rfl) (by kernel_rfl) (by kernel_rfl) (by kernel_rfl) (fun _ _ _ h => h) (fun oi h => ?_) hHeld ?_
              · simp only [List.getElem?_toArray, List.getElem?_cons_succ, List.getElem?_cons_zero, Option.some.injEq] at h
                subst h
                exact Or.inr ⟨by rfl, rfl⟩
              try simp only [Act.put, List.setIfInBounds_toArray, List.set_cons_zero, List.set_cons_succ]
              refine takeD (i := 7) (d := some 71) (v := undef) (by kernel_rfl) (by kernel_rfl) (by kernel_rfl) (by kernel_rfl) (fun _ _ _ h => h) (fun oi h => ?_) hHeld ?_
              · simp only [List.getElem?_toArray, List.getElem?_cons_succ, List.getElem?_cons_zero, Option.some.injEq] at h
                subst h
                exact Or.inr ⟨by rfl, rfl⟩
              try simp only [Act.put, List.setIfInBounds_toArray, List.set_cons_zero, List.set_cons_succ]
              refine takeD (i := 8) (d := some 72) (v := undef) (by kernel_rfl) (by kernel_rfl) (by kernel_rfl) (by kernel_rfl) (fun _ _ _ h => h) (fun oi h => ?_) hHeld ?_
              · simp only [List.getElem?_toArray, List.getElem?_cons_succ, List.getElem?_cons_zero, Option.some.injEq] at h
                subst h
                exact Or.inr ⟨by rfl, rfl⟩
              try simp only [Act.put, List.setIfInBounds_toArray, List.set_cons_zero, List.set_cons_succ]
              refine takeD (i := 9) (d := some 73) (v := undef) (by kernel_rfl) (by kernel_rfl) (by kernel_rfl) (by kernel_rfl) (fun _ _ _ h => h) (fun oi h => ?_) hHeld ?_
              · simp only [List.getElem?_toArray, List.getElem?_cons_succ, List.getElem?_cons_zero, Option.some.injEq] at h
                subst h
                exact Or.inr ⟨by rfl, rfl⟩
              try simp only [Act.put, List.setIfInBounds_toArray, List.set_cons_zero, List.set_cons_succ]
              refine takeD (i := 10) (d := some 74) (v := undef) (by kernel_rfl) (by kernel_rfl) (by kernel_rfl) (by kernel_rfl) (fun _ _ _ h => h) (fun oi h => ?_) hHeld ?_
              · simp only [List.getElem?_toArray, List.getElem?_cons_succ, List.getElem?_cons_zero, Option.some.injEq] at h
                subst h
                exact Or.inr ⟨by rfl, rfl⟩
              try simp only [Act.put, List.setIfInBounds_toArray, List.set_cons_zero, List.set_cons_succ]
              refine takeD (i := 11) (d := some 75) (v := undef) (by kernel_rfl) (by kernel_rfl) (by kernel_rfl) (by kernel_rfl) (fun _ _ _ h => h) (fun oi h => ?_) hHeld ?_
              · simp only [List.getElem?_toArray, List.getElem?_cons_succ, List.getElem?_cons_zero, Option.some.injEq] at h
                subst h
                exact Or.inr ⟨by rfl, rfl⟩
              try simp only [Act.put, List.setIfInBounds_toArray, List.set_cons_zero, List.set_cons_succ]
              refine takeD (i := 12) (d := some 76) (v := undef) (by kernel_rfl) (by kernel_rfl) (by kernel_rfl) (by kernel_rfl) (fun _ _ _ h => h) (fun oi h => ?_) hHeld ?_
              · simp only [List.getElem?_toArray, List.getElem?_cons_succ, List.getElem?_cons_zero, Option.some.injEq] at h
                subst h
                exact Or.inr ⟨by rfl, rfl⟩
              try simp only [Act.put, List.setIfInBounds_toArray, List.set_cons_zero, List.set_cons_succ]
              refine takeD (i := 13) (d := some 77) (v := undef) (by kernel_rfl) (by kernel_rfl) (by kernel_rfl) (by kernel_rfl) (fun _ _ _ h => h) (fun oi h => ?_) hHeld ?_
              · simp only [List.getElem?_toArray, List.getElem?_cons_succ, List.getElem?_cons_zero, Option.some.injEq] at h
                subst h
                exact Or.inr ⟨by rfl, rfl⟩
              try simp only [Act.put, List.setIfInBounds_toArray, List.set_cons_zero, List.set_cons_succ]
              refine takeD (i := 14) (d := some 78) (v := undef) (by kernel_rfl) (by kernel_rfl) (by kernel_rfl) (by kernel_rfl) (fun _ _ _ h => h) (fun oi h => ?_) hHeld ?_
              · simp only [List.getElem?_toArray, List.getElem?_cons_succ, List.getElem?_cons_zero, Option.some.injEq] at h
                subst h
                exact Or.inr ⟨by rfl, rfl⟩
              try simp only [Act.put, List.setIfInBounds_toArray, List.set_cons_zero, List.set_cons_succ]
              refine takeD (i := 15) (d := some 79) (v := .bool false) (by kernel_rfl) (by kernel_rfl) (by kernel_rfl) (by kernel_rfl) (fun _ _ _ h => h) (fun oi h => ?_) hHeld ?_
              · simp only [List.getElem?_toArray, List.getElem?_cons_succ, List.getElem?_cons_zero, Option.some.injEq] at h
                subst h
                refine Or.inl ⟨by rfl, fun w' hSw => ?_⟩
                obtain ⟨x0, x1, x2, x3, x4, x5, x6, x7, x8, x9, x10, x11, x12⟩ := hSw
                go_simp
              try simp only [Act.put, List.setIfInBounds_toArray, List.set_cons_zero, List.set_cons_succ]
              refine takeD (i := 16) (d := some 80) (v := .bool false) (by kernel_rfl) (by kernel_rfl) (by kernel_rfl) (by kernel_rfl) (fun _ _ _ h => h) (fun oi h => ?_) hHeld ?_
              · simp only [List.getElem?_toArray, List.getElem?_cons_succ, List.getElem?_cons_zero, Option.some.injEq] at h
                subst h
                refine Or.inl ⟨by rfl, fun w' hSw => ?_⟩
                obtain ⟨x0, x1, x2, x3, x4, x5, x6, x7, x8, x9, x10, x11, x12⟩ := hSw
                go_simp
              try simp only [Act.put, List.setIfInBounds_toArray, List.set_cons_zero, List.set_cons_succ]
              refine takeD (i := 17) (d := some 81) (v := .slice (some ⟨b1, o1, none⟩) xs.length lc) (by kernel_rfl) (by kernel_rfl) (by kernel_rfl) (by kernel_rfl) (fun _ _ _ h => h) (fun oi h => ?_) hHeld ?_
              · simp only [List.getElem?_toArray, List.getElem?_cons_succ, List.getElem?_cons_zero, Option.some.injEq] at h
                subst h
                refine Or.inl ⟨by rfl, fun w' hSw => ?_⟩
                obtain ⟨x0, x1, x2, x3, x4, x5, x6, x7, x8, x9, x10, x11, x12⟩ := hSw
                go_simp
              try simp only [Act.put, List.setIfInBounds_toArray, List.set_cons_zero, List.set_cons_succ]
              refine takeD (i := 18) (d := some 82) (v := .int .i64 (j : Int)) (by kernel_rfl) (by kernel_rfl) (by kernel_rfl) (by kernel_rfl) (fun _ _ _ h => h) (fun oi h => ?_) hHeld ?_
              · simp only [List.getElem?_toArray, List.getElem?_cons_succ, List.getElem?_cons_zero, Option.some.injEq] at h
                subst h
                refine Or.inl ⟨by rfl, fun w' hSw => ?_⟩
                obtain ⟨x0, x1, x2, x3, x4, x5, x6, x7, x8, x9, x10, x11, x12⟩ := hSw
                go_simp
              try simp only [Act.put, List.setIfInBounds_toArray, List.set_cons_zero, List.set_cons_succ]
              refine takeD (i := 19) (d := some 83) (v := .pointer (some ⟨b1, o1 + j * 13, none⟩)) (by kernel_rfl) (by kernel_rfl) (by kernel_rfl) (by kernel_rfl) (fun _ _ _ h => h) (fun oi h => ?_) hHeld ?_
              · simp only [List.getElem?_toArray, List.getElem?_cons_succ, List.getElem?_cons_zero, Option.some.injEq] at h
                subst h
                refine Or.inl ⟨by rfl, fun w' hSw => ?_⟩
                obtain ⟨x0, x1, x2, x3, x4, x5, x6, x7, x8, x9, x10, x11, x12⟩ := hSw
                go_simp
              try simp only [Act.put, List.setIfInBounds_toArray, List.set_cons_zero, List.set_cons_succ]
              refine takeD (i := 20) (d := some 84) (v := .agg #[.int .i64 x.a, .int .u8 (x.k : Int), .int .i64 x.w, .int .i64 x.t, .int .i64 x.p, .int .i64 x.c, .int .i64 x.b, .int .i64 x.q, .int .i64 x.v, .int .i64 x.u, .bool x.o, .int .i64 x.e, .int .u64 (x.s : Int)]) (by kernel_rfl) (by kernel_rfl) (by kernel_rfl) (by kernel_rfl) (fun _ _ _ h => h) (fun oi h => ?_) hHeld ?_
              · simp only [List.getElem?_toArray, List.getElem?_cons_succ, List.getElem?_cons_zero, Option.some.injEq] at h
                subst h
                refine Or.inl ⟨by rfl, fun w' hSw => ?_⟩
                obtain ⟨x0, x1, x2, x3, x4, x5, x6, x7, x8, x9, x10, x11, x12⟩ := hSw
                go_simp
              try simp only [Act.put, List.setIfInBounds_toArray, List.set_cons_zero, List.set_cons_succ]
              refine wpAnyH_ready (rs := [21]) (by kernel_rfl) (by simp) ?_
              refine AllReadyH.cons rfl (fun K hKK => ?_) AllReadyH.nil
              go_simp
              refine ck.mono ?_
              rintro e w6 ⟨rfl, hb6'⟩
              have hb6 : Below w5.heap.size w5 w6 := below_nx r0 hb6' (Nat.le_refl _)
              refine hKK.out _ _ (hkS _ hb6) (fun hHeld => ?_)
              clear hKK K
              try simp only [Act.put, List.setIfInBounds_toArray, List.set_cons_zero, List.set_cons_succ]
              refine takeD (i := 22) (d := some 86) (v := .bool false) (by kernel_rfl) (by kernel_rfl) (by kernel_rfl) (by kernel_rfl) (fun _ _ _ h => h) (fun oi h => ?_) hHeld ?_
              · simp only [List.getElem?_toArray, List.getElem?_cons_succ, List.getElem?_cons_zero, Option.some.injEq] at h
                subst h
                refine Or.inl ⟨by rfl, fun w' hSw => ?_⟩
                obtain ⟨x0, x1, x2, x3, x4, x5, x6, x7, x8, x9, x10, x11, x12⟩ := hSw
                go_simp
              try simp only [Act.put, List.setIfInBounds_toArray, List.set_cons_zero, List.set_cons_succ]
              refine takeD (i := 23) (d := some 87) (v := .bool false) (by kernel_rfl) (by kernel_rfl) (by kernel_rfl) (by kernel_rfl) (fun _ _ _ h => h) (fun oi h => ?_) hHeld ?_
              · simp only [List.getElem?_toArray, List.getElem?_cons_succ, List.getElem?_cons_zero, Option.some.injEq] at h
                subst h
                refine Or.inl ⟨by rfl, fun w' hSw => ?_⟩
                obtain ⟨x0, x1, x2, x3, x4, x5, x6, x7, x8, x9, x10, x11, x12⟩ := hSw
                go_simp
              try simp only [Act.put, List.setIfInBounds_toArray, List.set_cons_zero, List.set_cons_succ]
              refine wpAnyH_done (by kernel_rfl) ?_ _
              all_goals go_wp2_with fail
              all_goals go_roundw
              all_goals first
                | exact ⟨j + 1, m, by go_num, rfl, by omega, by omega, HT2, below_nx hb4 hb6 (Nat.le_refl _)⟩
                | (simp [intOf]; omega)
            | false =>
              go_wp2_with fail
              refine wp_region_held_drew (S := fun W => W.cell? ⟨b1, o1 + j * 13, none⟩ = some (.int .i64 x.a) ∧ W.cell? ⟨b1, o1 + j * 13 + 1, none⟩ = some (.int .u8 (x.k : Int)) ∧ W.cell? ⟨b1, o1 + j * 13 + 2, none⟩ = some (.int .i64 x.w) ∧ W.cell? ⟨b1, o1 + j * 13 + 3, none⟩ = some (.int .i64 x.t) ∧ W.cell? ⟨b1, o1 + j * 13 + 4, none⟩ = some (.int .i64 x.p) ∧ W.cell? ⟨b1, o1 + j * 13 + 5, none⟩ = some (.int .i64 x.c) ∧ W.cell? ⟨b1, o1 + j * 13 + 6, none⟩ = some (.int .i64 x.b) ∧ W.cell? ⟨b1, o1 + j * 13 + 7, none⟩ = some (.int .i64 x.q) ∧ W.cell? ⟨b1, o1 + j * 13 + 8, none⟩ = some (.int .i64 x.v) ∧ W.cell? ⟨b1, o1 + j * 13 + 9, none⟩ = some (.int .i64 x.u) ∧ W.cell? ⟨b1, o1 + j * 13 + 10, none⟩ = some (.bool x.o) ∧ W.cell? ⟨b1, o1 + j * 13 + 11, none⟩ = some (.int .i64 x.e) ∧ W.cell? ⟨b1, o1 + j * 13 + 12, none⟩ = some (.int .u64 (x.s : Int))) (by kernel_rfl) (hkS _ r0) (fun hHeld => ?_)
              refine takeD (i := 0) (d := some 64) (v := .int .i64 (j : Int)) (by kernel_rfl) (by kernel_rfl) (by kernel_rfl) (by kernel_rfl) (fun _ _ _ h => h) (fun oi h => ?_) hHeld ?_
              · simp only [List.getElem?_toArray, List.getElem?_cons_succ, List.getElem?_cons_zero, Option.some.injEq] at h
                subst h
                refine Or.inl ⟨by rfl, fun w' hSw => ?_⟩
                obtain ⟨x0, x1, x2, x3, x4, x5, x6, x7, x8, x9, x10, x11, x12⟩ := hSw
                go_simp
              try simp only [Act.put, List.setIfInBounds_toArray, List.set_cons_zero, List.set_cons_succ]
              refine takeD (i := 1) (d := some 65) (v := .bool false) (by kernel_rfl) (by kernel_rfl) (by kernel_rfl) (by kernel_rfl) (fun _ _ _ h => h) (fun oi h => ?_) hHeld ?_
              · simp only [List.getElem?_toArray, List.getElem?_cons_succ, List.getElem?_cons_zero, Option.some.injEq] at h
                subst h
                refine Or.inl ⟨by rfl, fun w' hSw => ?_⟩
                obtain ⟨x0, x1, x2, x3, x4, x5, x6, x7, x8, x9, x10, x11, x12⟩ := hSw
                go_simp
              try simp only [Act.put, List.setIfInBounds_toArray, List.set_cons_zero, List.set_cons_succ]
              refine takeD (i := 2) (d := some 66) (v := .bool false) (by kernel_rfl) (by kernel_rfl) (by kernel_rfl) (by kernel_rfl) (fun _ _ _ h => h) (fun oi h => ?_) hHeld ?_
              · simp only [List.getElem?_toArray, List.getElem?_cons_succ, List.getElem?_cons_zero, Option.some.injEq] at h
                subst h
                refine Or.inl ⟨by rfl, fun w' hSw => ?_⟩
                obtain ⟨x0, x1, x2, x3, x4, x5, x6, x7, x8, x9, x10, x11, x12⟩ := hSw
                go_simp
              try simp only [Act.put, List.setIfInBounds_toArray, List.set_cons_zero, List.set_cons_succ]
              refine takeD (i := 3) (d := some 67) (v := undef) (by kernel_rfl) (by kernel_rfl) (by kernel_rfl) (by kernel_rfl) (fun _ _ _ h => h) (fun oi h => ?_) hHeld ?_
              · simp only [List.getElem?_toArray, List.getElem?_cons_succ, List.getElem?_cons_zero, Option.some.injEq] at h
                subst h
                exact Or.inr ⟨by rfl, rfl⟩
              try simp only [Act.put, List.setIfInBounds_toArray, List.set_cons_zero, List.set_cons_succ]
              refine takeD (i := 4) (d := some 68) (v := undef) (by kernel_rfl) (by kernel_rfl) (by kernel_rfl) (by kernel_rfl) (fun _ _ _ h => h) (fun oi h => ?_) hHeld ?_
              · simp only [List.getElem?_toArray, List.getElem?_cons_succ, List.getElem?_cons_zero, Option.some.injEq] at h
                subst h
                exact Or.inr ⟨by rfl, rfl⟩
              try simp only [Act.put, List.setIfInBounds_toArray, List.set_cons_zero, List.set_cons_succ]
              refine takeD (i := 5) (d := some 69) (v := undef) (by kernel_rfl) (by kernel_rfl) (by kernel_rfl) (by kernel_rfl) (fun _ _ _ h => h) (fun oi h => ?_) hHeld ?_
              · simp only [List.getElem?_toArray, List.getElem?_cons_succ, List.getElem?_cons_zero, Option.some.injEq] at h
                subst h
                exact Or.inr ⟨by rfl, rfl⟩
              try simp only [Act.put, List.setIfInBounds_toArray, List.set_cons_zero, List.set_cons_succ]
              refine takeD (i := 6) (d := some 70) (v := undef) (by kernel_rfl) (by kernel_rfl) (by kernel_rfl) (by kernel_rfl) (fun _ _ _ h => h) (fun oi h => ?_) hHeld ?_
              · simp only [List.getElem?_toArray, List.getElem?_cons_succ, List.getElem?_cons_zero, Option.some.injEq] at h
                subst h
                exact Or.inr ⟨by rfl, rfl⟩
              try simp only [Act.put, List.setIfInBounds_toArray, List.set_cons_zero, List.set_cons_succ]
              refine takeD (i := 7) (d := some 71) (v := undef) (by kernel_rfl) (by kernel_rfl) (by kernel_rfl) (by kernel_rfl) (fun _ _ _ h => h) (fun oi h => ?_) hHeld ?_
              · simp only [List.getElem?_toArray, List.getElem?_cons_succ, List.getElem?_cons_zero, Option.some.injEq] at h
                subst h
                exact Or.inr ⟨by rfl, rfl⟩
              try simp only [Act.put, List.setIfInBounds_toArray, List.set_cons_zero, List.set_cons_succ]
              refine takeD (i := 8) (d := some 72) (v := undef) (by kernel_rfl) (by kernel_rfl) (by kernel_rfl) (by kernel_rfl) (fun _ _ _ h => h) (fun oi h => ?_) hHeld ?_
              · simp only [List.getElem?_toArray, List.getElem?_cons_succ, List.getElem?_cons_zero, Option.some.injEq] at h
                subst h
                exact Or.inr ⟨by rfl, rfl⟩
              try simp only [Act.put, List.setIfInBounds_toArray, List.set_cons_zero, List.set_cons_succ]
              refine takeD (i := 9) (d := some 73) (v := undef) (by kernel_rfl) (by kernel_rfl) (by kernel_rfl) (by kernel_rfl) (fun _ _ _ h => h) (fun oi h => ?_) hHeld ?_
              · simp only [List.getElem?_toArray, List.getElem?_cons_succ, List.getElem?_cons_zero, Option.some.injEq] at h
                subst h
                exact Or.inr ⟨by rfl, rfl⟩
              try simp only [Act.put, List.setIfInBounds_toArray, List.set_cons_zero, List.set_cons_succ]
              refine takeD (i := 10) (d := some 74) (v := undef) (by kernel_rfl) (by kernel_rfl) (by kernel_rfl) (by kernel_rfl) (fun _ _ _ h => h) (fun oi h => ?_) hHeld ?_
              · simp only [List.getElem?_toArray, List.getElem?_cons_succ, List.getElem?_cons_zero, Option.some.injEq] at h
                subst h
                exact Or.inr ⟨by rfl, rfl⟩
              try simp only [Act.put, List.setIfInBounds_toArray, List.set_cons_zero, List.set_cons_succ]
              refine takeD (i := 11) (d := some 75) (v := undef) (by kernel_rfl) (by kernel_rfl) (by kernel_rfl) (by kernel_rfl) (fun _ _ _ h => h) (fun oi h => ?_) hHeld ?_
              · simp only [List.getElem?_toArray, List.getElem?_cons_succ, List.getElem?_cons_zero, Option.some.injEq] at h
                subst h
                exact Or.inr ⟨by rfl, rfl⟩
              try simp only [Act.put, List.setIfInBounds_toArray, List.set_cons_zero, List.set_cons_succ]
              refine takeD (i := 12) (d := some 76) (v := undef) (by kernel_rfl) (by kernel_rfl) (by kernel_rfl) (by kernel_rfl) (fun _ _ _ h => h) (fun oi h => ?_) hHeld ?_
              · simp only [List.getElem?_toArray, List.getElem?_cons_succ, List.getElem?_cons_zero, Option.some.injEq] at h
                subst h
                exact Or.inr ⟨by rfl, rfl⟩
              try simp only [Act.put, List.setIfInBounds_toArray, List.set_cons_zero, List.set_cons_succ]
              refine takeD (i := 13) (d := some 77) (v := undef) (by kernel_rfl) (by kernel_rfl) (by kernel_rfl) (by kernel_rfl) (fun _ _ _ h => h) (fun oi h => ?_) hHeld ?_
              · simp only [List.getElem?_toArray, List.getElem?_cons_succ, List.getElem?_cons_zero, Option.some.injEq] at h
                subst h
                exact Or.inr ⟨by rfl, rfl⟩
              try simp only [Act.put, List.setIfInBounds_toArray, List.set_cons_zero, List.set_cons_succ]
              refine takeD (i := 14) (d := some 78) (v := undef) (by kernel_rfl) (by kernel_rfl) (by kernel_rfl) (by kernel_rfl) (fun _ _ _ h => h) (fun oi h => ?_) hHeld ?_
              · simp only [List.getElem?_toArray, List.getElem?_cons_succ, List.getElem?_cons_zero, Option.some.injEq] at h
                subst h
                exact Or.inr ⟨by rfl, rfl⟩
              try simp only [Act.put, List.setIfInBounds_toArray, List.set_cons_zero, List.set_cons_succ]
              refine takeD (i := 15) (d := some 79) (v := .bool false) (by kernel_rfl) (by kernel_rfl) (by kernel_rfl) (by kernel_rfl) (fun _ _ _ h => h) (fun oi h => ?_) hHeld ?_
              · simp only [List.getElem?_toArray, List.getElem?_cons_succ, List.getElem?_cons_zero, Option.some.injEq] at h
                subst h
                refine Or.inl ⟨by rfl, fun w' hSw => ?_⟩
                obtain ⟨x0, x1, x2, x3, x4, x5, x6, x7, x8, x9, x10, x11, x12⟩ := hSw
                go_simp
              try simp only [Act.put, List.setIfInBounds_toArray, List.set_cons_zero, List.set_cons_succ]
              refine takeD (i := 16) (d := some 80) (v := .bool false) (by kernel_rfl) (by kernel_rfl) (by kernel_rfl) (by kernel_rfl) (fun _ _ _ h => h) (fun oi h => ?_) hHeld ?_
              · simp only [List.getElem?_toArray, List.getElem?_cons_succ, List.getElem?_cons_zero, Option.some.injEq] at h
                subst h
                refine Or.inl ⟨by rfl, fun w' hSw => ?_⟩
                obtain ⟨x0, x1, x2, x3, x4, x5, x6, x7, x8, x9, x10, x11, x12⟩ := hSw
                go_simp
              try simp only [Act.put, List.setIfInBounds_toArray, List.set_cons_zero, List.set_cons_succ]
              refine takeD (i := 17) (d := some 81) (v := .slice (some ⟨b1, o1, none⟩) xs.length lc) (by kernel_rfl) (by kernel_rfl) (by kernel_rfl) (by kernel_rfl) (fun _ _ _ h => h) (fun oi h => ?_) hHeld ?_
              · simp only [List.getElem?_toArray, List.getElem?_cons_succ, List.getElem?_cons_zero, Option.some.injEq] at h
                subst h
                refine Or.inl ⟨by rfl, fun w' hSw => ?_⟩
                obtain ⟨x0, x1, x2, x3, x4, x5, x6, x7, x8, x9, x10, x11, x12⟩ := hSw
                go_simp
              try simp only [Act.put, List.setIfInBounds_toArray, List.set_cons_zero, List.set_cons_succ]
              refine takeD (i := 18) (d := some 82) (v := .int .i64 (j : Int)) (by kernel_rfl) (by kernel_rfl) (by kernel_rfl) (by kernel_rfl) (fun _ _ _ h => h) (fun oi h => ?_) hHeld ?_
              · simp only [List.getElem?_toArray, List.getElem?_cons_succ, List.getElem?_cons_zero, Option.some.injEq] at h
                subst h
                refine Or.inl ⟨by rfl, fun w' hSw => ?_⟩
                obtain ⟨x0, x1, x2, x3, x4, x5, x6, x7, x8, x9, x10, x11, x12⟩ := hSw
                go_simp
              try simp only [Act.put, List.setIfInBounds_toArray, List.set_cons_zero, List.set_cons_succ]
              refine takeD (i := 19) (d := some 83) (v := .pointer (some ⟨b1, o1 + j * 13, none⟩)) (by kernel_rfl) (by kernel_rfl) (by kernel_rfl) (by kernel_rfl) (fun _ _ _ h => h) (fun oi h => ?_) hHeld ?_
              · simp only [List.getElem?_toArray, List.getElem?_cons_succ, List.getElem?_cons_zero, Option.some.injEq] at h
                subst h
                refine Or.inl ⟨by rfl, fun w' hSw => ?_⟩
                obtain ⟨x0, x1, x2, x3, x4, x5, x6, x7, x8, x9, x10, x11, x12⟩ := hSw
                go_simp
              try simp only [Act.put, List.setIfInBounds_toArray, List.set_cons_zero, List.set_cons_succ]
              refine takeD (i := 20) (d := some 84) (v := .agg #[.int .i64 x.a, .int .u8 (x.k : Int), .int .i64 x.w, .int .i64 x.t, .int .i64 x.p, .int .i64 x.c, .int .i64 x.b, .int .i64 x.q, .int .i64 x.v, .int .i64 x.u, .bool x.o, .int .i64 x.e, .int .u64 (x.s : Int)]) (by kernel_rfl) (by kernel_rfl) (by kernel_rfl) (by kernel_rfl) (fun _ _ _ h => h) (fun oi h => ?_) hHeld ?_
              · simp only [List.getElem?_toArray, List.getElem?_cons_succ, List.getElem?_cons_zero, Option.some.injEq] at h
                subst h
                refine Or.inl ⟨by rfl, fun w' hSw => ?_⟩
                obtain ⟨x0, x1, x2, x3, x4, x5, x6, x7, x8, x9, x10, x11, x12⟩ := hSw
                go_simp
              try simp only [Act.put, List.setIfInBounds_toArray, List.set_cons_zero, List.set_cons_succ]
              refine wpAnyH_ready (rs := [21]) (by kernel_rfl) (by simp) ?_
              refine AllReadyH.cons rfl (fun K hKK => ?_) AllReadyH.nil
              go_simp
              refine ck.mono ?_
              rintro e w6 ⟨rfl, hb6'⟩
              have hb6 : Below w5.heap.size w5 w6 := below_nx r0 hb6' (Nat.le_refl _)
              refine hKK.out _ _ (hkS _ hb6) (fun hHeld => ?_)
              clear hKK K
              try simp only [Act.put, List.setIfInBounds_toArray, List.set_cons_zero, List.set_cons_succ]
              refine takeD (i := 22) (d := some 86) (v := .bool false) (by kernel_rfl) (by kernel_rfl) (by kernel_rfl) (by kernel_rfl) (fun _ _ _ h => h) (fun oi h => ?_) hHeld ?_
              · simp only [List.getElem?_toArray, List.getElem?_cons_succ, List.getElem?_cons_zero, Option.some.injEq] at h
                subst h
                refine Or.inl ⟨by rfl, fun w' hSw => ?_⟩
                obtain ⟨x0, x1, x2, x3, x4, x5, x6, x7, x8, x9, x10, x11, x12⟩ := hSw
                go_simp
              try simp only [Act.put, List.setIfInBounds_toArray, List.set_cons_zero, List.set_cons_succ]
              refine takeD (i := 23) (d := some 87) (v := .bool false) (by kernel_rfl) (by kernel_rfl) (by kernel_rfl) (by kernel_rfl) (fun _ _ _ h => h) (fun oi h => ?_) hHeld ?_
              · simp only [List.getElem?_toArray, List.getElem?_cons_succ, List.getElem?_cons_zero, Option.some.injEq] at h
                subst h
                refine Or.inl ⟨by rfl, fun w' hSw => ?_⟩
                obtain ⟨x0, x1, x2, x3, x4, x5, x6, x7, x8, x9, x10, x11, x12⟩ := hSw
                go_simp
              try simp only [Act.put, List.setIfInBounds_toArray, List.set_cons_zero, List.set_cons_succ]
              refine wpAnyH_done (by kernel_rfl) ?_ _
              all_goals go_wp2_with fail
              all_goals go_roundw
              all_goals first
                | exact ⟨j + 1, m + 1, by go_num, by go_num, by omega, by omega, HT2, below_nx hb4 hb6 (Nat.le_refl _)⟩
                | (simp [intOf]; omega)
        · have hjt' : ¬ (j : Int) < (xs.length : Int) := by omega
          have HM2 : Hid (m = xs.countP (fun x => !isCom x)) := Lib.hid (by rw [HM.out, List.take_of_length_le (by omega)])
          have hsum : cs.length + m = xs.length := by rw [HM2.out]; exact HC.out
          have hL4 := hL3.below hb4
          have hI4 := hI3.below hb4
          have hA4 := hA3.below hb4
          have hC4 := hC3.below hb4
          have hbl4 := below_nx hbl3 hb4 (Nat.le_refl _)
          have HB : Hid ((xs.filter (isIn 0 p)).length + (xs.filter (isIn (max p 0) 9223372036854775807)).length + lastsN xs = xs.length) := Lib.hid (by
            rcases between_sum p xs (fun x hx => by
              obtain ⟨i, hi⟩ := List.getElem?_of_mem hx
              exact ⟨okB_at (good_okB HG.out hi), (hxo x hx).a.2⟩) with h | h
            · exact h
            · exact absurd hp.2 h)
          have cB1 := tells_calls (between_any 0 p wr hL4 (by omega) hxo)
          have hf1 : (xs.filter (isIn 0 p)).length ≤ 200 := Nat.le_trans (List.length_filter_le _ _) hxl2
          have hf2 : (xs.filter (isIn (max p 0) 9223372036854775807)).length ≤ 200 := Nat.le_trans (List.length_filter_le _ _) hxl2
          generalize xs.filter (isIn 0 p) = f1 at cB1 HB hf1
          obtain ⟨f2, hf2e⟩ : ∃ f2, f2 = xs.filter (isIn (max p 0) 9223372036854775807) := ⟨_, rfl⟩
          rw [← hf2e] at HB hf2
          have HF2 := Lib.hid hf2e
          have hls := lasts_le xs
          clear hf2e HM HM2 HC hL3 hI3 hA3 hC3 hbl3 hb4 hjt
          go_upto_region 22 with fail
          go_cut [16, 17] from 88 to 94 (fun av bv W => ∃ fa fc ga gc, av = .slice fa f1.length fc ∧ bv = .slice ga f2.length gc ∧ Below wr.heap.size wr W)
          case first =>
            have hfin : ∀ (q : Int), q = max p 0 → ∀ w5, Below wr.heap.size wr w5 → Calls Try.prog 12 #[.pointer (some ⟨B, 0, none⟩), .int .i64 q, .int .i64 9223372036854775807] w5 fun e w' => ∃ a c, e = .returned (.slice a f2.length c) ∧ Below wr.heap.size wr w' := fun q hq w5 hb5 => by
              refine (tells_calls (between_any q 9223372036854775807 w5 (hL4.below hb5) (by omega) hxo)).mono ?_
              rintro e w' ⟨a, c, rfl, _, h⟩
              rw [hq, ← HF2.out]
              exact ⟨a, c, rfl, below_nx hb5 h (Nat.le_refl _)⟩
            clear HF2 HB HS HG hsum hA4 hI4 hC4
            by_cases hp0 : p < 0
            · have hc2 := fun w5 => hfin 0 (by omega) w5
              clear hfin hp
              go_wp2_with fail
              refine cB1.mono ?_
              clear cB1
              rintro e w5 ⟨fa, fc, rfl, hF5, hb5⟩
              have hc3 := hc2 w5 hb5
              clear hc2 hF5
              go_wp2_with fail
              refine hc3.mono ?_
              clear hc3
              rintro e w6 ⟨ga, gc, rfl, hb6⟩
              go_wp2_with fail
              go_meet
              exact ⟨fa, fc, ga, gc, rfl, rfl, hb6⟩
            · have hc2 := fun w5 => hfin p (by omega) w5
              clear hfin hp
              go_wp2_with fail
              refine cB1.mono ?_
              clear cB1
              rintro e w5 ⟨fa, fc, rfl, hF5, hb5⟩
              have hc3 := hc2 w5 hb5
              clear hc2 hF5
              go_wp2_with fail
              refine hc3.mono ?_
              clear hc3
              rintro e w6 ⟨ga, gc, rfl, hb6⟩
              go_wp2_with fail
              go_meet
              exact ⟨fa, fc, ga, gc, rfl, rfl, hb6⟩
          case rest =>
            obtain ⟨fa, fc, ga, gc, rfl, rfl, hb5⟩ := hcut
            have hL5 := hL4.below hb5
            have hI5 := hI4.below hb5
            have hA5 := hA4.below hb5
            have hC5 := hC4.below hb5
            have hbl5 := below_nx hbl4 hb5 (Nat.le_refl _)
            have hw1 : IntKind.i64.wrap ((cs.length : Int) + (m : Int)) = (xs.length : Int) := by rw [IntKind.wrap_i64]; omega
            have hw2 : IntKind.i64.wrap ((f1.length : Int) + (f2.length : Int)) = (f1.length : Int) + (f2.length : Int) := by rw [IntKind.wrap_i64]; omega
            have hw3 : IntKind.i64.wrap ((f1.length : Int) + (f2.length : Int) + (lastsN xs : Int)) = (xs.length : Int) := by have := HB.out; rw [IntKind.wrap_i64]; omega
            have c1 := same_any _ _ xs xs wc hA5 hI5 (by omega) (by omega)
            have ht : decide (xs = xs) = true := by simp
            rw [ht] at c1
            clear hL4 hI4 hA4 hC4 hbl4 hb5 ht cB1 HF2 HB hI5 hsum
            go_wp2_with fail
            refine c1.mono ?_
            clear c1
            rintro e w6 ⟨rfl, hb6⟩
            have hL6 := hL5.below hb6
            have hA6 := hA5.below hb6
            have hC6 := hC5.below hb6
            have hbl6 := below_nx hbl5 hb6 (Nat.le_refl _)
            have c2 := inside_any _ _ cs xs w6 hC6 hA6 (by omega) (by omega)
            rw [HS.out] at c2
            clear hL5 hA5 hC5 hC6 hbl5 hb6 HS
            go_wp2_with fail
            refine c2.mono ?_
            clear c2
            rintro e w7 ⟨rfl, hb7⟩
            have hL7 := hL6.below hb7
            have hA7 := hA6.below hb7
            have hbl7 := below_nx hbl6 hb7 (Nat.le_refl _)
            have c3 := tells_calls (lof_any t w7 hL7 (by omega) hxo)
            have HS := Lib.hid (sub_filt xs (isOf t))
            have hq : (xs.filter (isOf t)).length ≤ 200 := Nat.le_trans (List.length_filter_le _ _) hxl2
            generalize xs.filter (isOf t) = qs at c3 HS hq
            clear hL6 hA6 hbl6 hb7
            go_wp2_with fail
            refine c3.mono ?_
            clear c3
            rintro e w8 ⟨qa, qc, rfl, hQ8, hb8⟩
            have hL8 := hL7.below hb8
            have hA8 := hA7.below hb8
            have hbl8 := below_nx hbl7 hb8 (Nat.le_refl _)
            have c4 := inside_any _ _ qs xs w8 hQ8 hA8 (by omega) (by omega)
            rw [HS.out] at c4
            clear hL7 hA7 hbl7 hb8 hQ8 HS
            go_wp2_with fail
            refine c4.mono ?_
            clear c4
            rintro e w9 ⟨rfl, hb9⟩
            have hL9 := hL8.below hb9
            have hA9 := hA8.below hb9
            have hbl9 := below_nx hbl8 hb9 (Nat.le_refl _)
            have hal := below1 w9 (.cells #[.int .u8 (k : Int)] 5)
            have hL9' := hL9.below hal
            have hA9' := hA9.below hal
            have hbl9' := below_nx hbl9 hal (Nat.le_refl _)
            have hkr : KRow (w9.alloc (.cells #[.int .u8 (k : Int)] 5)) (.slice (some ⟨w9.heap.size, 0, none⟩) 1 1) [k] := KRow.one w9 k
            have c5 := tells_calls (kind_any _ [k] _ hkr (by simpa using hk) (by simp) hL9' (by omega) hxo)
            have HS := Lib.hid (sub_filt xs (isKind [k]))
            have hq2 : (xs.filter (isKind [k])).length ≤ 200 := Nat.le_trans (List.length_filter_le _ _) hxl2
            generalize xs.filter (isKind [k]) = rs at c5 HS hq2
            clear hL8 hA8 hbl8 hb9 hkr hal hL9 hA9 hbl9 hL9'
            go_wp2_with fail
            refine c5.mono ?_
            clear c5
            rintro e w10 ⟨ka, kc, rfl, hK10, hb10⟩
            have hA10 := hA9'.below hb10
            have hbl10 := below_nx hbl9' hb10 (Nat.le_refl _)
            have c6 := inside_any _ _ rs xs w10 hK10 hA10 (by omega) (by omega)
            rw [HS.out] at c6
            clear hA9' hbl9' hb10 hK10 HS
            go_wp2_with fail
            refine c6.mono ?_
            clear c6
            rintro e w11 ⟨rfl, hb11⟩
            have hA11 := hA10.below hb11
            have hbl11 := below_nx hbl10 hb11 (Nat.le_refl _)
            have c7 := lasts_any _ xs w11 hA11 (by omega)
            clear hA10 hbl10 hb11
            generalize lastsN xs = ln at c7 hw3 hls
            go_wp2_with fail
            refine c7.mono ?_
            clear c7
            rintro e w12 ⟨rfl, rfl⟩
            go_wp2_with fail
            refine (lalive_any _).mono ?_
            rintro e w13 ⟨rfl, hb13⟩
            have hbl13 := below_nx hbl11 hb13 (Nat.le_refl _)
            go_wp2_with fail
            go_ret
            exact ⟨rfl, hbl13⟩
end Go.Proofs.Ytnngkpggejmdkaa
