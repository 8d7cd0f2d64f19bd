/-
  The walk of the law GuardApart.
-/
import Derived.Deep.CutRange
import Derived.Deep.Light
import Derived.Test.YtbjfongjdlankaaULaw
namespace Go.Proofs.Ytbjfongjdlankaa
open Go.RowKit

theorem infoPtr : (Try.prog.info? 41).map (fun i => (i.zero, i.size, i.bytes)) = some (some (.pointer none), 1, 8) := by kernel_rfl
def ptrs (gs : Nat → Nat) (n : Nat) : List Value := (List.range n).map (PtrF gs)
theorem ptrs_len (gs : Nat → Nat) (n : Nat) : (ptrs gs n).length = n := by simp [ptrs]
theorem ptrs_snoc (gs : Nat → Nat) (n G : Nat) : ptrs (upd gs n G) (n + 1) = ptrs gs n ++ [.pointer (some ⟨G, 0, none⟩)] := by
  rw [ptrs, List.range_succ, List.map_append, ptrs]
  congr 1
  · refine List.map_congr_left fun j hj => ?_
    rw [List.mem_range] at hj
    rw [PtrF, PtrF, upd_ne _ _ (by omega)]
  · simp [PtrF, upd_same]
theorem ptrs_row {W : World} {base n : Nat} {v : Value} {gs : Nat → Nat} (h : W.ownsRow base 41 1 v n (ptrs gs n)) (hn : 0 < n) : ∃ T cap, v = .slice (some ⟨T, 0, none⟩) n cap ∧ PRow W T n gs := by
  rcases id h.2 with ⟨_, h0⟩ | ⟨g, cap, cur, rfl, _, hg, hc, _⟩
  · omega
  · refine ⟨g, cap, rfl, cur, _, hg, fun j hj => ?_⟩
    rw [h.cellAt j (by omega), ptrs, List.getElem?_map, List.getElem?_range hj]; rfl
theorem row_block {W : World} {base : Nat} {e : TypeId} {size : Nat} {v : Value} {k : Nat} {xs : List Value} (h : W.ownsRow base e size v k xs) {g : Nat} (hg : v.ownBlock = some g) : base ≤ g ∧ ∃ cs z, W.heap[g]? = some (Obj.cells cs e z) := by
  rcases h.2 with ⟨rfl, _⟩ | ⟨g', cap, cur, rfl, hle, hgb, _⟩
  · simp [Value.ownBlock] at hg
  · obtain rfl : g' = g := by simpa [Value.ownBlock] using hg
    exact ⟨hle, _, _, hgb⟩
/-- A row of other things grows: guards stay. -/
theorem Gks.grow {w0 W W' : World} {L P Q B V n c base k : Nat} {gs : Nat → Nat} {ss : Nat → Gs} {vs : List Nat} {e : TypeId} {v : Value} {xs : List Value} (h : Gks w0 W L P Q B V n gs ss vs c) (hr : W.ownsRow base e 1 v k xs) (hbase : w0.heap.size ≤ base)
    (he : e ≠ 91 ∧ e ≠ 3 ∧ e ≠ 85 ∧ e ≠ 33 ∧ e ≠ 76) (hg : W.grownBy W' v.ownBlock) : Gks w0 W' L P Q B V n gs ss vs c := by
  cases hv : v.ownBlock with
  | none => rw [hv] at hg; exact h.fresh (But.of_none hg [])
  | some g =>
    rw [hv] at hg
    obtain ⟨hle, cs, z, hb⟩ := row_block hr hv
    exact h.but' (But.of_some (S := [g]) hg (by simp)) (by simp; omega) (Alien.cons hb he (Alien.nil _))

theorem first_want (q : Nat) : wantE 6 Gs.none (lockL q 6) = 0 ∧ wantS 6 Gs.none (lockL q 6) = ⟨lockL q 6, 0, false, 0⟩ := by
  have h : wantE 6 Gs.none (lockL q 6) = 0 := by
    unfold wantE; rw [if_neg (by simp [Gs.none]), lockL_rises]; rfl
  exact ⟨h, by unfold wantS; rw [if_pos h]; rfl⟩
theorem want_first {w0 W : World} {L P Q B V G n c kap q : Nat} {gs : Nat → Nat} {ss : Nat → Gs} {vs : List Nat} {b : Option Addr} (h : Gks w0 W L P Q B V (n + 1) (upd gs n G) (upd ss n Gs.none) vs c) (hr : RowA W b (lockL q 6)) (hs : ss n = ⟨lockL q 6, 0, false, 0⟩) :
    Calls Try.prog 12 #[.pointer (some ⟨G, 0, none⟩), .slice b (lockL q 6).length kap] W fun e w' => e = .returned (.int .i64 0) ∧ Gks w0 w' L P Q B V (n + 1) (upd gs n G) ss vs c ∧ But [G] W w' := by
  have := ks_want (kap := kap) h (i := n) (by omega) hr (by have := lockL_len q 6; omega)
  rw [upd_same, upd_same, (first_want q).1, (first_want q).2] at this
  refine this.mono ?_
  rintro e w' ⟨rfl, h1, h2⟩
  refine ⟨rfl, h1.congr (fun _ _ => rfl) (fun j hj => ?_), h2⟩
  by_cases e : j = n
  · subst e; rw [upd_same, hs]
  · rw [upd_ne _ _ e, upd_ne _ _ e]

theorem run_neq_slice_nil {P : Program} (w : World) (t e : TypeId) (a : Option Addr) (n c n' c' : Nat) (h : P.underlying t = some (.slice e)) :
    (binOp .neq t (.slice a n c) (.slice none n' c')).run P w = .ok (.bool (!a.isNone)) w := by
  simp only [binOp]
  simp [Op.equal, Op.maxDepth, Lib.run_equalIn_slice_nil w 9999 t e a n c n' c' h]

set_option maxRecDepth 100000 in
set_option maxHeartbeats 1600000 in
theorem apart_law (N M : Nat) (fq fo : Nat → Nat) (b off cap capo : Nat) (ao : Option Addr) (w : World) (hN0 : 1 ≤ N) (hN : N ≤ 8) (hM : M ≤ 300) (hq : ∀ j, j < N → w.cell? ⟨b, off + j, none⟩ = some (.int .u8 (fq j : Int)))
    (ho8 : ∀ j, j < M → fo j < 256) (ho : ∀ j, j < M → ∃ b' off', ao = some ⟨b', off', none⟩ ∧ w.cell? ⟨b', off' + j, none⟩ = some (.int .u8 (fo j : Int))) :
    Calls Try.prog 4 #[.slice (some ⟨b, off, none⟩) N cap, .slice ao M capo] w fun e w' => e = .returned (.bool true) ∧ But [] w w' := by
  obtain ⟨i0, hi, hz0, hz1, hz2⟩ := info_parts infoPtr
  obtain ⟨i1, hj, hy0, hy1, hy2⟩ := info_parts infoBool
  have t1 : decide ((8 : Int) < (N : Int)) = false := by simp; omega
  have t1' : ¬ (8 : Int) < (N : Int) := by omega
  have t2 : decide ((300 : Int) < (M : Int)) = false := by simp; omega
  have t2' : ¬ (300 : Int) < (M : Int) := by omega
  have t3 : ((N : Int) == 0) = false := by simp; omega
  have HQ := Lib.hid hq
  have HO := Lib.hid ho
  have HO8 := Lib.hid ho8
  clear hq ho ho8
  go_enter Try.func4, Try.ntmps4
  go_wp2_with fail
  refine (made_any _).mono ?_
  rintro e w1 ⟨B, V, L, P, Q, rfl, hK⟩
  have hK0 : Gks w w1 L P Q B V 0 (fun _ => 0) (fun j => ⟨lockL (fq j) 6, 0, false, 0⟩) zeros 0 := hK.congr (fun _ _ => rfl) (fun j hj => by omega)
  clear hK
  go_wp2_with fail
  go_loopw [7, 8] (fun gv iv wr => ∃ (i : Nat) (gs : Nat → Nat), i ≤ N ∧ iv = .int .i64 (i : Int) ∧ Gks w wr L P Q B V i gs (fun j => ⟨lockL (fq j) 6, 0, false, 0⟩) zeros 0 ∧ wr.ownsRow w.heap.size 41 1 gv i (ptrs gs i)) (fun _ iv _ => N - (intOf iv).toNat)
  case atStart => exact ⟨0, _, Nat.zero_le _, rfl, hK0, World.ownsRow_nil _ _ _ _⟩
  case round =>
    clear hK0
    obtain ⟨i, gs, hiN, rfl, hK, hr⟩ := hrel
    by_cases hlt : i < N
    · have hlt' : (i : Int) < (N : Int) := by omega
      go_wp2_with fail
      refine (gnew_any L _).mono ?_
      rintro e w2 ⟨G, rfl, hG, hle, hb2⟩
      have hK2 := hK.more hG hb2 hle
      have hr2 := hb2.row hr (fun g _ => by simp)
      have hc := hK2.but.cell (HQ.out i hlt) (by simp)
      clear hK hr hG hb2 hle
      go_wp2_with fail
      refine (locks_any (fq i) _).mono ?_
      rintro e w3 ⟨a3, cap3, rfl, hR3, -, hb3⟩
      have hK3 := hK2.fresh hb3
      have hr3 := hb3.row hr2 (fun g _ => by simp)
      have hwant := want_first (kap := cap3) hK3 hR3.any (q := fq i) rfl
      clear hK2 hr2 hb3 hc
      go_wp2_with fail
      refine hwant.mono ?_
      rintro e w4 ⟨rfl, hK4, hb4⟩
      have hr4 := hb4.row hr3 (fun g hg => by
        obtain ⟨_, cs, z, hblk⟩ := row_block hr3 hg
        obtain ⟨a, cp, hgd⟩ := hK3.gd i (by omega)
        rw [upd_same] at hgd
        simpa using type_ne hblk hgd.head (by decide))
      have hwsz := hK4.but.size
      have hown := hr4
      clear hK3 hr3 hb4 hwant hR3 hr4
      go_wp2_with (at_builtin; refine wpList_append_own_at _ rfl _ _ 39 rfl w.heap.size 41 i0 (.pointer none) 1 8 Try.underlying39 hi hz0 hz1 hz2 rfl (by decide) _ i (ptrs gs i) rfl (hown.alloc _) ⟨_, 0, none⟩ 1 1 [.pointer (some ⟨G, 0, none⟩)] rfl rfl ?c1 ?c2 ?c3 ?c4 ?c5 ?_)
      case c1 => exact cell_one_new _ _ _
      case c2 => intro u hu; simp at hu; subst hu; rfl
      case c3 => unfold maxLen; omega
      case c4 => omega
      case c5 => simp; omega
      intro v' w5 hown' hgrow hnn _
      have hK5 := hK4.grow hown (Nat.le_refl _) (by decide) (row_grown hgrow)
      rw [← ptrs_snoc] at hown'
      clear hK4 hown hgrow hnn
      go_wp2_with fail
      go_roundw
      case rel => exact ⟨i + 1, upd gs i G, by omega, by go_num, hK5, hown'⟩
      case measure => simp [intOf]; omega
    · have hlt' : ¬ (i : Int) < (N : Int) := by omega
      obtain rfl : N = i := by omega
      obtain ⟨T, kap, rfl, hRow⟩ := ptrs_row hr (by omega)
      clear hr
      have hwsz := hK.but.size
      go_wp2_with (at_make; refine wpList_make_full _ rfl _ _ 62 rfl wr.heap.size 4 i1 (.bool false) 1 Try.underlying62 hj hy0 hy1 .i64 .i64 _ _ N rfl rfl rfl rfl (by rw [hy2]; omega) (by unfold maxLen; omega) (Nat.le_refl _) ?_; intro w2 hmade hgrow)
      have hb2 := But.of_none hgrow []
      have hLay : Lay w w2 L P Q B V N T wr.heap.size gs (fun j => ⟨lockL (fq j) 6, 0, false, 0⟩) zeros 0 (fun _ => false) := ⟨hK.fresh hb2, hRow.but hb2 (by simp), ArrF.made rfl hmade, hwsz⟩
      have hGo := Going.first N M fq
      clear hK hRow hmade hgrow hb2 hlt hlt' hiN hwsz hi hz0 hz1 hz2 hj hy0 hy1 hy2
      generalize wr.heap.size = D at *
      obtain ⟨X, hX⟩ : ∃ X : Nat, X = 40 * N * N := ⟨_, rfl⟩
      have hXI : 40 * (N : Int) * (N : Int) = (X : Int) := by rw [hX]; push_cast; rfl
      have hX1 : X ≤ 2560 := by rw [hX]; exact Nat.mul_le_mul (Nat.mul_le_mul (Nat.le_refl 40) hN) hN
      have hE : Hid (M + 280 * N * N = M + X * 7) := Lib.hid (by rw [hX, Nat.mul_comm (40 * N * N) 7, ← Nat.mul_assoc, ← Nat.mul_assoc])
      clear hX
      obtain ⟨wo, rfl⟩ : ∃ wo : World, wo = w2 := ⟨_, rfl⟩
      go_loopw [12, 13] (fun sv nv wr => ∃ (m s : Nat) (ss : Nat → Gs) (vs : List Nat) (c : Nat) (done : Nat → Bool), m ≤ M + X * 7 ∧ nv = .int .i64 (m : Int) ∧ sv = .int .i64 (s : Int) ∧ s ≤ m ∧ (s = 0 → m = 0) ∧ (m = 0 → ∀ i, i < N → done i = false) ∧ Lay w wr L P Q B V N T D gs ss vs c done ∧ Going N fq ss vs done M m) (fun _ nv _ => M + X * 7 - (intOf nv).toNat)
      case atStart => exact ⟨0, 0, _, _, _, _, Nat.zero_le _, rfl, rfl, Nat.le_refl _, fun _ => rfl, fun _ _ _ => rfl, hLay, hGo⟩
      case round =>
        clear hLay hGo
        obtain ⟨m, s, ss, vs, c, done, hm, rfl, rfl, hsm, hs0, hd0, hLay, hGo⟩ := hrel
        have HS := Lib.hid (And.intro hs0 hd0)
        clear hs0 hd0
        by_cases hlt : m < M + X * 7
        · have hlt' : (m : Int) < (M : Int) + (X : Int) * 7 := by omega
          have hN1 : (0 : Int) < (N : Int) := by omega
          go_upto_if 91 with fail
          go_cut [14] from 88 to 99 (fun wv W => ∃ i : Nat, wv = .int .i64 (i : Int) ∧ i < N ∧ (M ≤ m → i = m % N) ∧ W = wr)
          case first =>
            by_cases hMm : m < M
            · have hMm' : (m : Int) < (M : Int) := by omega
              obtain ⟨b', off', rfl, hc⟩ := HO.out m hMm
              have h8 := HO8.out m hMm
              have hc' := hLay.ks.but.cell hc (by simp)
              clear hc
              go_wp2_with fail
              go_meet
              exact ⟨fo m % N, by push_cast; rfl, Nat.mod_lt _ (by omega), fun h => by omega, rfl⟩
            · have hMm' : ¬ (m : Int) < (M : Int) := by omega
              go_wp2_with fail
              go_meet
              exact ⟨m % N, by push_cast; rfl, Nat.mod_lt _ (by omega), fun _ => rfl, rfl⟩
          case rest =>
            obtain ⟨i, rfl, hiN, hw, hwc⟩ := hcut
            subst hwc
            have hiN' : (i : Int) < (N : Int) := by omega
            have HW := Lib.hid hw
            clear hw
            have hcd := hLay.dn.cell hiN
            cases hdn : done i with
            | true =>
              simp only [hdn] at hcd
              have HG := hGo.past (by omega) HW.out hdn
              have hs1 : s = 0 → m + 1 = 0 := fun h => by have := HS.out.2 (HS.out.1 h) i hiN; rw [hdn] at this; cases this
              clear hdn hGo
              go_wp2_with fail
              go_roundw
              case rel => exact ⟨m + 1, s, ss, vs, c, done, by omega, by go_num, rfl, by omega, hs1, fun h => by omega, hLay, HG⟩
              case measure => simp [intOf]; omega
            | false =>
              simp only [hdn] at hcd
              have HG := hGo.turn (by omega) hiN HW.out hdn
              have hemp := hGo.emp hiN hdn
              have hpt := HG.parted
              have hcg := hLay.row.cell hiN
              have hall := ks_all hLay.ks hiN
              clear hGo
              go_upto_if 110 with (refine hall.mono ?_; rintro e wx ⟨rfl, ma, rfl⟩)
              have hLx := hLay.fresh ((But.refl [] _).drewN ma)
              clear hLay hall
              generalize hwy : World.drewN wc ma = wy at hLx ⊢
              have hcd' : wy.cell? ⟨D, i, none⟩ = some (.bool false) := hwy ▸ hcd
              have hcg' : wy.cell? ⟨T, i, none⟩ = some (.pointer (some ⟨gs i, 0, none⟩)) := hwy ▸ hcg
              have hcq := hLx.ks.but.cell (HQ.out i hiN) (by simp)
              clear hwy hcd hcg
              go_cut [15, 16] from 110 to 138 (fun _ _ W => ∃ c', Lay w W L P Q B V N T D gs (upd ss i (turnS vs (ss i))) (turnV vs (ss i)) c' (upd done i (turnD (ss i))))
              case first =>
                clear HG hpt
                cases hal : (ss i).all with
                | true =>
                  have HT := Lib.hid (turnS_all (vs := vs) hal)
                  have hE := hemp hal
                  clear hemp
                  have hgive := ks_give hLx.ks hiN
                  obtain ⟨x, hx⟩ : ∃ x, x = giveN (ss i) := ⟨_, rfl⟩
                  obtain ⟨y, hy⟩ : ∃ y, y = giveE (ss i) := ⟨_, rfl⟩
                  rw [← hx, ← hy] at hgive
                  have HX := Lib.hid hx
                  rw [← hy] at hE
                  have hx0 : y ≠ 0 → x = 0 := fun h => by rw [hx, giveN, if_neg (by rw [← hy]; exact h)]
                  clear hx hy
                  have HLx := Lib.hid hLx
                  clear hLx
                  by_cases hy0 : y = 0
                  · subst hy0
                    clear hx0 hE hcq
                    by_cases hx0 : x = 0
                    · subst hx0
                      go_wp2_with fail
                      refine hgive.mono ?_
                      rintro e wz ⟨rfl, hKz, hbz⟩
                      have hLz := HLx.out.turn hiN hKz hbz
                      have y1 := hLz.dn.cell hiN
                      have y2 := hLz.dn.frozen i
                      have hLs := hLz.set i true
                      clear hKz hbz HLx hgive hLz
                      go_wp2_with fail
                      go_meet
                      exact ⟨_, by rw [HT.out.1, HT.out.2.1, HT.out.2.2, ← HX.out]; exact hLs⟩
                    · have t5 : ((x : Int) == 0) = false := by simp; omega
                      go_wp2_with fail
                      refine hgive.mono ?_
                      rintro e wz ⟨rfl, hKz, hbz⟩
                      have hLz := HLx.out.turn hiN hKz hbz
                      have y1 := hLz.dn.cell hiN
                      have y2 := hLz.dn.frozen i
                      have hLs := hLz.set i false
                      clear hKz hbz HLx hgive hLz
                      go_wp2_with fail
                      go_meet
                      exact ⟨_, by rw [HT.out.1, HT.out.2.1, HT.out.2.2, ← HX.out, decide_eq_false hx0]; exact hLs⟩
                  · obtain rfl := hx0 hy0
                    have t6 : (y != 0) = true := by simpa using hy0
                    have HL := Lib.hid (hE hy0)
                    clear hx0 hE
                    go_wp2_with fail
                    refine hgive.mono ?_
                    rintro e wz ⟨rfl, hKz, hbz⟩
                    have hLz := HLx.out.turn hiN hKz hbz
                    have y1 := hLz.dn.cell hiN
                    have y2 := hLz.dn.frozen i
                    have hLs := hLz.set i true
                    have hcq2 := hLs.ks.but.cell (HQ.out i hiN) (by simp)
                    clear hKz hbz HLx hgive hLz
                    go_wp2_with fail
                    refine (locks_any (fq i) _).mono ?_
                    rintro e wl ⟨a3, cap3, rfl, -, hnil, hbl⟩
                    obtain rfl := hnil HL.out
                    rw [HL.out, List.length_nil]
                    have hLl := hLs.fresh hbl
                    have qT : ∀ w : World, (binOp .neq 23 (.slice none 0 cap3) (.slice none 0 0)).run Try.prog w = .ok (.bool false) w := fun w => run_neq_slice_nil w 23 3 none 0 cap3 0 0 Try.underlying23
                    clear hLs hbl hnil
                    go_wp2_with fail
                    go_meet
                    exact ⟨_, by rw [HT.out.1, HT.out.2.1, HT.out.2.2, ← HX.out]; exact hLl⟩
                | false =>
                  have HT := Lib.hid (turnS_not (vs := vs) hal)
                  have HD := Lib.hid hdn
                  have hstep := ks_step hLx.ks hiN
                  have HLx := Lib.hid hLx
                  clear hemp hLx hdn
                  go_wp2_with fail
                  refine hstep.mono ?_
                  rintro e wz ⟨rfl, hKz, hbz⟩
                  have hLz := HLx.out.turn hiN hKz hbz
                  clear hKz hbz HLx hstep
                  go_wp2_with fail
                  go_meet
                  exact ⟨_, by rw [HT.out.1, HT.out.2.1, HT.out.2.2, upd_same_fun HD.out]; exact hLz⟩
              case rest =>
                obtain ⟨c', hLy⟩ := hcut
                clear hLx hcd' hcg' hcq hemp
                have HD := Lib.hid hdn
                clear hdn
                have hap := apart_any (cap := kap) wc hLy.ks hpt (by omega) (fun j hj => hLy.row.cell hj)
                go_wp2_with fail
                refine hap.mono ?_
                rintro e wv ⟨rfl, hbv⟩
                have hLv := hLy.fresh hbv
                clear hap hLy hbv
                go_wp2_with fail
                go_roundw
                case rel => exact ⟨m + 1, s + 1, _, _, _, _, by omega, by go_num, by go_num, by omega, fun h => by omega, fun h => by omega, hLv, HG⟩
                case measure => simp [intOf]; omega
        · have hlt' : ¬ (m : Int) < (M : Int) + (X : Int) * 7 := by omega
          have hover := Lib.hid (hGo.over (by rw [hE.out]; omega))
          have hs1 : 0 < s := by
            rcases Nat.eq_zero_or_pos s with h | h
            · have := HS.out.1 h
              have hx0 : 0 < M + X * 7 := by
                have := hE.out
                have h1 : 1 ≤ 280 * N * N := Nat.mul_le_mul (show 1 ≤ 280 * N by omega) hN0
                omega
              omega
            · exact h
          have hs1' : (0 : Int) < (s : Int) := by omega
          have hB := hLay.ks.but
          have hdn := hLay.dn
          clear hGo hLay HS hlt
          go_wp2_with fail
          obtain ⟨wq, rfl⟩ : ∃ wq : World, wq = wr := ⟨_, rfl⟩
          go_loop [17] (fun iv => ∃ i : Nat, i ≤ N ∧ iv = .int .i64 (i : Int)) (fun iv => N - (intOf iv).toNat)
          case atStart => exact ⟨0, Nat.zero_le _, rfl⟩
          case round =>
            obtain ⟨i, hiN, rfl⟩ := hrel
            by_cases hi : i < N
            · have hi' : (i : Int) < (N : Int) := by omega
              have hcd := hdn.cell hi
              simp only [hover.out i hi] at hcd
              clear hdn
              go_wp2_with fail
              go_round
              case rel => exact ⟨i + 1, by omega, by go_num⟩
              case measure => simp [intOf]; omega
            · have hi' : ¬ (i : Int) < (N : Int) := by omega
              clear hdn
              go_wp2_with fail
              refine (alive_any _).mono ?_
              rintro e wz ⟨rfl, hbz⟩
              have hB2 := hB.next hbz
              clear hB hbz
              go_wp2_with fail
              go_ret
              exact ⟨rfl, hB2⟩
end Go.Proofs.Ytbjfongjdlankaa
