/-
  The walks of octet.GetRow, tollbarref01.GetRow and tollbarref01.Same.
-/
import Derived.Test.YtmgklpnjcnnnbaaRow
namespace Go.Proofs.Ytmgklpnjcnnnbaa
open Go.RowKit Oct

/-- N numbers more. -/
def rowG : Nat → List Nat → List UInt8 → List Nat × List UInt8 × Nat
  | 0, acc, l => (acc, l, 0)
  | N + 1, acc, l => if (getR l).2.2 ≠ 0 then ([], [], (getR l).2.2) else rowG N (acc ++ [(getR l).1]) (getR l).2.1
def rowR (n : Int) (l : List UInt8) : List Nat × List UInt8 × Nat := rowG n.toNat [] l

theorem numL_ne (u : Nat) : 1 ≤ (numL u).length := numL_pos u
theorem getR_shrinks {l : List UInt8} {u : Nat} {r : List UInt8} (h : getR l = (u, r, 0)) : r.length + 1 ≤ l.length := by
  have h1 := (getR_back h).1
  have h2 := numL_ne u
  have := congrArg List.length h1
  simp at this; omega

theorem info22 : (Try.prog.info? 22).map (fun i => (i.zero, i.size, i.bytes)) = some (some (.int .u64 0), 1, 8) := by kernel_rfl

def GetRowPost (w : World) (q : List Nat × List UInt8 × Nat) (e : Ending) (w' : World) : Prop :=
  ∃ v', e = .returned (.tuple #[v', .string ⟨q.2.1.toArray⟩, .int .i64 q.2.2]) ∧ w'.ownsRow w.heap.size 22 1 v' q.1.length (U64 q.1) ∧ Below w.heap.size w w'

theorem post_of {w w' : World} {q : List Nat × List UInt8 × Nat} {xs : List Nat} {l : List UInt8} {e : Nat} {v : Value} (h : q = (xs, l, e)) (h1 : w'.ownsRow w.heap.size 22 1 v xs.length (U64 xs)) (h2 : Below w.heap.size w w') :
    GetRowPost w q (.returned (.tuple #[v, .string ⟨l.toArray⟩, .int .i64 (e : Int)])) w' := by
  subst h; exact ⟨v, rfl, h1, h2⟩

theorem own_below {w w1 : World} {base : Nat} {e : TypeId} {size : Nat} {v : Value} {n : Nat} {xs : List Value} (h : w.ownsRow base e size v n xs) (hb : Below w.heap.size w w1) : w1.ownsRow base e size v n xs := by
  refine ⟨h.1, ?_⟩
  rcases h.2 with h2 | ⟨g, cap, cur, h1, h2, hg, h3⟩
  · exact .inl h2
  · exact .inr ⟨g, cap, cur, h1, h2, (hb.block g (Array.getElem?_eq_some_iff.mp hg).1).trans hg, h3⟩

theorem U64_snoc (xs : List Nat) (x : Nat) : U64 (xs ++ [x]) = U64 xs ++ [.int .u64 (x : Int)] := by simp [U64]

set_option maxRecDepth 100000 in
set_option maxHeartbeats 800000 in
theorem getRow_any (s : ByteArray) (n : Int) (w : World) (hs : s.size ≤ 1000000) (hn1 : -9223372036854775808 ≤ n) (hn2 : n ≤ 9223372036854775807) :
    Calls Try.prog 21 #[.string s, .int .i64 n] w (GetRowPost w (rowR n s.data.toList)) := by
  obtain ⟨i0, hi, hz0, hz1, hz2⟩ := info_parts info22
  obtain ⟨q, hq⟩ : ∃ q, q = rowR n s.data.toList := ⟨_, rfl⟩
  rw [← hq]
  have HQ := Lib.hid hq
  clear hq
  go_enter Try.func21, Try.ntmps21
  go_wp2_with fail
  go_loopw [4, 5, 6, 10] (fun lv rv ev i wr => ∃ (k : Nat) (acc : List Nat) (r : List UInt8), i = .int .i64 k ∧ k ≤ n.toNat ∧ rv = .string ⟨r.toArray⟩ ∧ ev = .int .i64 0 ∧ wr.ownsRow w.heap.size 22 1 lv acc.length (U64 acc) ∧
      acc.length + r.length ≤ 1000000 ∧ Hid (q = rowG (n.toNat - k) acc r) ∧ Below w.heap.size w wr) (fun _ _ _ i _ => n.toNat - (intOf i).toNat)
  case atStart => exact ⟨0, [], s.data.toList, rfl, Nat.zero_le _, rfl, rfl, World.ownsRow_nil _ _ _ _, by simpa using hs, HQ, Below.refl _ _⟩
  case round =>
    obtain ⟨k, acc, r, rfl, hk, rfl, rfl, hown, hal, HG, hbl⟩ := hrel
    by_cases hlt : k < n.toNat
    · have hlt' : (k : Int) < n := by omega
      obtain ⟨N, hN⟩ : ∃ N, n.toNat - k = N + 1 := ⟨n.toNat - k - 1, by omega⟩
      have hN' : n.toNat - (k + 1) = N := by omega
      obtain ⟨u, r', e, hr⟩ : ∃ u r' e, getR r = (u, r', e) := ⟨_, _, _, rfl⟩
      have hu : u < 18446744073709551616 := by have := getR_lt r; rwa [hr] at this
      have HR := Lib.hid hr
      by_cases he : e = 0
      · subst he
        have hsh := getR_shrinks hr
        have HG' : Hid (q = rowG N (acc ++ [u]) r') := Lib.hid (by rw [HG.out, hN, rowG, hr]; simp)
        clear hr hN HG
        have hsz : (⟨r.toArray⟩ : ByteArray).size ≤ maxLen := by simp [ByteArray.size, maxLen]; omega
        go_wp2_with fail
        refine (get_at _ _ hsz (by simpa using HR)).mono ?_
        rintro x w1 ⟨rfl, hb'⟩
        have hown1 := own_below hown hb'
        have hbl1 := below_next hbl hb'
        have hbw : w.heap.size ≤ w1.heap.size := hbl1.size
        clear hown hbl hb'
        go_wp2_with (at_builtin; refine wpList_append_own _ rfl _ _ 38 rfl w.heap.size 22 i0 (.int .u64 0) 1 8 Try.underlying38 hi hz0 hz1 hz2 rfl (by decide) _ _ _ rfl (hown1.alloc _) ⟨w1.heap.size, 0, none⟩ 1 1 [.int .u64 (u : Int)] rfl rfl ?c1 ?c2 ?c3 ?c4 ?c5 ?_)
        case c1 => exact cell_one_new _ _ _
        case c2 => first | rfl | (intro x hx; simp at hx; subst hx; rfl)
        case c3 => unfold maxLen; omega
        case c4 => omega
        case c5 => first | omega | (simp; omega)
        intro v' w2 hown' hgrow _
        have hb2 : Below w.heap.size w w2 := (hbl1.alloc hbw _).grown hgrow (by simp; omega) (fun k hk => by have := (hown1.lt k hk).1; omega)
        have HU := Lib.hid (U64_snoc acc u)
        have hown2 : w2.ownsRow w.heap.size 22 1 v' (acc ++ [u]).length (U64 (acc ++ [u])) := by rw [HU.out]; simpa using hown'
        clear hown' hgrow hown1
        go_wp2_with fail
        go_roundw
        case rel => exact ⟨k + 1, _, _, by go_num, by omega, rfl, rfl, hown2, by simp; omega, by rw [hN']; exact HG', hb2⟩
        case measure => simp [intOf]; omega
      · have hre := getR_err hr he
        obtain ⟨rfl, rfl⟩ := hre
        have HF : Hid (q = ([], [], e)) := Lib.hid (by rw [HG.out, hN, rowG, hr]; simp [he])
        have he' : ((e : Int) == 0) = false := by simp; omega
        have he'' : ((e : Int) != 0) = true := by simp; omega
        clear hr hN HG he
        have hsz : (⟨r.toArray⟩ : ByteArray).size ≤ maxLen := by simp [ByteArray.size, maxLen]; omega
        go_wp2_with fail
        refine (get_at _ _ hsz (by simpa using HR)).mono ?_
        rintro x w1 ⟨rfl, hb'⟩
        go_wp2_with fail
        go_ret3
        exact post_of HF.out (World.ownsRow_nil _ _ _ _) (below_next hbl hb')
    · have hlt' : ¬ (k : Int) < n := by omega
      have hN : n.toNat - k = 0 := by omega
      have HF : Hid (q = (acc, r, 0)) := Lib.hid (by rw [HG.out, hN, rowG])
      go_wp2_with fail
      go_ret3
      exact post_of HF.out hown hbl

set_option maxRecDepth 100000 in
set_option maxHeartbeats 800000 in
theorem refGetRow_any (s : ByteArray) (n : Int) (w : World) (hs : s.size ≤ 1000000) (hn1 : -9223372036854775808 ≤ n) (hn2 : n ≤ 9223372036854775807) :
    Calls Try.prog 22 #[.string s, .int .i64 n] w (GetRowPost w (rowR n s.data.toList)) := by
  obtain ⟨i0, hi, hz0, hz1, hz2⟩ := info_parts info22
  obtain ⟨q, hq⟩ : ∃ q, q = rowR n s.data.toList := ⟨_, rfl⟩
  rw [← hq]
  have HQ := Lib.hid hq
  clear hq
  go_enter Try.func22, Try.ntmps22
  go_wp2_with fail
  go_loopw [0, 7, 8] (fun rv lv i wr => ∃ (k : Nat) (acc : List Nat) (r : List UInt8), i = .int .i64 k ∧ k ≤ n.toNat ∧ rv = .string ⟨r.toArray⟩ ∧ wr.ownsRow w.heap.size 22 1 lv acc.length (U64 acc) ∧
      acc.length + r.length ≤ 1000000 ∧ Hid (q = rowG (n.toNat - k) acc r) ∧ Below w.heap.size w wr) (fun _ _ i _ => n.toNat - (intOf i).toNat)
  case atStart => exact ⟨0, [], s.data.toList, rfl, Nat.zero_le _, rfl, World.ownsRow_nil _ _ _ _, by simpa using hs, HQ, Below.refl _ _⟩
  case round =>
    obtain ⟨k, acc, r, rfl, hk, rfl, hown, hal, HG, hbl⟩ := hrel
    by_cases hlt : k < n.toNat
    · have hlt' : (k : Int) < n := by omega
      obtain ⟨N, hN⟩ : ∃ N, n.toNat - k = N + 1 := ⟨n.toNat - k - 1, by omega⟩
      have hN' : n.toNat - (k + 1) = N := by omega
      obtain ⟨u, r', e, hr⟩ : ∃ u r' e, getR r = (u, r', e) := ⟨_, _, _, rfl⟩
      have hu : u < 18446744073709551616 := by have := getR_lt r; rwa [hr] at this
      have HR := Lib.hid hr
      by_cases he : e = 0
      · subst he
        have hsh := getR_shrinks hr
        have HG' : Hid (q = rowG N (acc ++ [u]) r') := Lib.hid (by rw [HG.out, hN, rowG, hr]; simp)
        clear hr hN HG
        have hsz : (⟨r.toArray⟩ : ByteArray).size ≤ maxLen := by simp [ByteArray.size, maxLen]; omega
        go_wp2_with fail
        refine (refGet_at _ _ hsz (by simpa using HR)).mono ?_
        rintro x w1 ⟨rfl, hb'⟩
        have hown1 := own_below hown hb'
        have hbl1 := below_next hbl hb'
        have hbw : w.heap.size ≤ w1.heap.size := hbl1.size
        clear hown hbl hb'
        go_wp2_with (at_builtin; refine wpList_append_own _ rfl _ _ 38 rfl w.heap.size 22 i0 (.int .u64 0) 1 8 Try.underlying38 hi hz0 hz1 hz2 rfl (by decide) _ _ _ rfl (hown1.alloc _) ⟨w1.heap.size, 0, none⟩ 1 1 [.int .u64 (u : Int)] rfl rfl ?c1 ?c2 ?c3 ?c4 ?c5 ?_)
        case c1 => exact cell_one_new _ _ _
        case c2 => first | rfl | (intro x hx; simp at hx; subst hx; rfl)
        case c3 => unfold maxLen; omega
        case c4 => omega
        case c5 => first | omega | (simp; omega)
        intro v' w2 hown' hgrow _
        have hb2 : Below w.heap.size w w2 := (hbl1.alloc hbw _).grown hgrow (by simp; omega) (fun k hk => by have := (hown1.lt k hk).1; omega)
        have HU := Lib.hid (U64_snoc acc u)
        have hown2 : w2.ownsRow w.heap.size 22 1 v' (acc ++ [u]).length (U64 (acc ++ [u])) := by rw [HU.out]; simpa using hown'
        clear hown' hgrow hown1
        go_wp2_with fail
        go_roundw
        case rel => exact ⟨k + 1, _, _, by go_num, by omega, rfl, hown2, by simp; omega, by rw [hN']; exact HG', hb2⟩
        case measure => simp [intOf]; omega
      · have hre := getR_err hr he
        obtain ⟨rfl, rfl⟩ := hre
        have HF : Hid (q = ([], [], e)) := Lib.hid (by rw [HG.out, hN, rowG, hr]; simp [he])
        have he' : ((e : Int) == 0) = false := by simp; omega
        have he'' : ((e : Int) != 0) = true := by simp; omega
        clear hr hN HG he
        have hsz : (⟨r.toArray⟩ : ByteArray).size ≤ maxLen := by simp [ByteArray.size, maxLen]; omega
        go_wp2_with fail
        refine (refGet_at _ _ hsz (by simpa using HR)).mono ?_
        rintro x w1 ⟨rfl, hb'⟩
        go_wp2_with fail
        go_ret3
        exact post_of HF.out (World.ownsRow_nil _ _ _ _) (below_next hbl hb')
    · have hlt' : ¬ (k : Int) < n := by omega
      have hN : n.toNat - k = 0 := by omega
      have HF : Hid (q = (acc, r, 0)) := Lib.hid (by rw [HG.out, hN, rowG])
      go_wp2_with fail
      go_ret3
      exact post_of HF.out hown hbl

theorem take_eq_step {xs ys : List Nat} {k : Nat} (hx : k < xs.length) (hy : k < ys.length) (h : xs.take k = ys.take k) (he : xs[k]?.getD 0 = ys[k]?.getD 0) : xs.take (k + 1) = ys.take (k + 1) := by
  rw [take_snocN xs k hx, take_snocN ys k hy, h, he]

set_option maxRecDepth 100000 in
theorem same_any (a b : Value) (xs ys : List Nat) (w : World) (ha : Row64 w a xs) (hb : Row64 w b ys) (hxl : xs.length ≤ 9223372036854775807) (hyl : ys.length ≤ 9223372036854775807) :
    Calls Try.prog 24 #[a, b] w fun e w' => e = .returned (.bool (decide (xs = ys))) ∧ Below w.heap.size w w' := by
  by_cases hl : xs.length = ys.length
  · rcases ha with ⟨rfl, a1, c1, rfl⟩ | ⟨b1, o1, c1, rfl, h0, hb1, hc1⟩
    · obtain rfl : ys = [] := List.length_eq_zero_iff.mp hl.symm
      rcases hb with ⟨_, a2, c2, rfl⟩ | ⟨b2, o2, c2, rfl, h0, _⟩
      · go_enter Try.func24, Try.ntmps24
        go_wp2_with fail
        refine wp_loop_rounds 1 ?_
        rw [rounds_succ]
        go_wp2_with fail
        go_ret
        exact ⟨rfl, Below.refl _ _⟩
      · simp at h0
    · rcases hb with ⟨rfl, a2, c2, rfl⟩ | ⟨b2, o2, c2, rfl, _, hb2, hc2⟩
      · simp at hl; subst hl; simp at h0
      · have hl1 : ((xs.length : Int) == (ys.length : Int)) = true := by simp; omega
        have hl2 : ((xs.length : Int) != (ys.length : Int)) = false := by simp; omega
        have HL := Lib.hid hl
        clear hl
        go_enter Try.func24, Try.ntmps24
        go_wp2_with fail
        go_loopw [5] (fun i wr => ∃ k : Nat, i = .int .i64 k ∧ k ≤ xs.length ∧ Hid (xs.take k = ys.take k) ∧ Below w.heap.size w wr) (fun i _ => xs.length - (intOf i).toNat)
        case atStart => exact ⟨0, rfl, Nat.zero_le _, Lib.hid (by simp), Below.refl _ _⟩
        case round =>
          obtain ⟨k, rfl, hk, HT, hbl⟩ := hrel
          by_cases hlt : k < xs.length
          · have hlt' : (k : Int) < (xs.length : Int) := by omega
            have hlt2 : (k : Int) < (ys.length : Int) := by have := HL.out; omega
            have q0 : (0 : Int) ≤ (k : Int) := by omega
            have hx : wr.cell? ⟨b1, o1 + k, none⟩ = some (.int .u64 (xs[k]?.getD 0 : Nat)) := (hbl.cell (p := ⟨b1, o1 + k, none⟩) hb1).trans (hc1 k hlt)
            have hy : wr.cell? ⟨b2, o2 + k, none⟩ = some (.int .u64 (ys[k]?.getD 0 : Nat)) := (hbl.cell (p := ⟨b2, o2 + k, none⟩) hb2).trans (hc2 k (by omega))
            obtain ⟨x, hxe⟩ : ∃ x, x = xs[k]?.getD 0 := ⟨_, rfl⟩
            obtain ⟨y, hye⟩ : ∃ y, y = ys[k]?.getD 0 := ⟨_, rfl⟩
            rw [← hxe] at hx
            rw [← hye] at hy
            have HX := Lib.hid hxe
            have HY := Lib.hid hye
            clear hxe hye hc1 hc2
            by_cases he : x = y
            · subst he
              have HT' := Lib.hid (take_eq_step hlt (by omega) HT.out (HX.out.symm.trans HY.out))
              go_wp2_with fail
              go_quiet (fail)
              go_wp2_with fail
              go_roundw
              case rel => exact ⟨k + 1, by go_num, by omega, HT', below_drewN hbl _⟩
              case measure => simp [intOf]; omega
            · have e1 : ((x : Int) == (y : Int)) = false := by simp; omega
              have e2 : ((x : Int) != (y : Int)) = true := by simp; omega
              have HD : Hid (decide (xs = ys) = false) := Lib.hid (by simp; rintro rfl; exact he (HX.out.trans HY.out.symm))
              clear he
              go_wp2_with fail
              go_quiet (fail)
              go_wp2_with fail
              go_ret
              exact ⟨ret_bool HD.out.symm, below_drewN hbl _⟩
          · have hlt' : ¬ (k : Int) < (xs.length : Int) := by omega
            have HD : Hid (decide (xs = ys) = true) := Lib.hid (by
              have h1 := HT.out
              rw [List.take_of_length_le (by omega), List.take_of_length_le (by have := HL.out; omega)] at h1
              simp [h1])
            clear hc1 hc2
            go_wp2_with fail
            go_ret
            exact ⟨ret_bool HD.out.symm, hbl⟩
  · have hne : ((xs.length : Int) == (ys.length : Int)) = false := by simp; omega
    have hne2 : ((xs.length : Int) != (ys.length : Int)) = true := by simp; omega
    have HD : Hid (decide (xs = ys) = false) := Lib.hid (by simp; rintro rfl; exact hl rfl)
    have ea : ∃ p c, a = .slice p xs.length c := by
      rcases ha with ⟨rfl, a1, c1, rfl⟩ | ⟨b1, o1, c1, rfl, _⟩
      · exact ⟨_, _, rfl⟩
      · exact ⟨_, _, rfl⟩
    have eb : ∃ p c, b = .slice p ys.length c := by
      rcases hb with ⟨rfl, a1, c1, rfl⟩ | ⟨b1, o1, c1, rfl, _⟩
      · exact ⟨_, _, rfl⟩
      · exact ⟨_, _, rfl⟩
    obtain ⟨p1, c1, rfl⟩ := ea
    obtain ⟨p2, c2, rfl⟩ := eb
    clear ha hb hl
    go_enter Try.func24, Try.ntmps24
    go_wp2_with fail
    go_ret
    exact ⟨ret_bool HD.out.symm, Below.refl _ _⟩
end Go.Proofs.Ytmgklpnjcnnnbaa
