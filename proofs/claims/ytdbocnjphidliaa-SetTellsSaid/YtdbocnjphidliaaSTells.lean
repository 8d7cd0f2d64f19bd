/-
  The walk of the law SetTells (made by gen/tells.py: one theorem a way).
-/
import Derived.Test.YtdbocnjphidliaaSAlive
namespace Go.Proofs.Ytdbocnjphidliaa
open Go.RowKit SetM

theorem inB_at {s b : Nat} {x : Bool} (w : World) (hs : s < 18446744073709551616) (hb : b < 18446744073709551616) (h : Hid (inS s b = x)) :
    Calls Try.prog 18 #[.int .u64 (s : Int), .int .u64 (b : Int)] w fun e w' => e = .returned (.bool x) ∧ w' = w := by
  have := rIn_any s b hs hb w
  rw [h.out] at this; exact this
theorem rHasB_at {s : Nat} {k : Int} {b : Bool} (w : World) (hs : s < 18446744073709551616) (h1 : -9223372036854775808 ≤ k) (h2 : k ≤ 9223372036854775807) (h : Hid (has s k = b)) :
    Calls Try.prog 9 #[.int .u64 s, .int .i64 k] w fun e w' => e = .returned (.bool b) ∧ w' = w := by
  have := rHas_any s k hs h1 h2 w
  rw [h.out] at this; exact this
theorem rWith_at {s t : Nat} {k : Int} (w : World) (hs : s < 18446744073709551616) (h1 : -9223372036854775808 ≤ k) (h2 : k ≤ 9223372036854775807) (h : Hid (withN s k = t)) :
    Calls Try.prog 11 #[.int .u64 s, .int .i64 k] w fun e w' => e = .returned (.int .u64 (t : Int)) ∧ w' = w := by
  have := rWith_any s k hs h1 h2 w
  rw [h.out] at this; exact this
theorem rLess_at {s t : Nat} {k : Int} (w : World) (hs : s < 18446744073709551616) (h1 : -9223372036854775808 ≤ k) (h2 : k ≤ 9223372036854775807) (h : Hid (lessN s k = t)) :
    Calls Try.prog 13 #[.int .u64 s, .int .i64 k] w fun e w' => e = .returned (.int .u64 (t : Int)) ∧ w' = w := by
  have := rLess_any s k hs h1 h2 w
  rw [h.out] at this; exact this
theorem rOf_at {v : Value} {xs : List Int} {t : Nat} (w : World) (hr : RowI w v xs) (hx : Ints xs) (hlen : xs.length ≤ 1000) (h : Hid (ofL xs = t)) :
    Calls Try.prog 20 #[v] w fun e w' => e = .returned (.int .u64 (t : Int)) ∧ w' = w := by
  have := rOf_any v xs w hr hx hlen
  rw [h.out] at this; exact this
theorem same_yes (a b : Value) (xs : List Int) (w : World) (ha : RowI w a xs) (hb : RowI w b xs) (hxl : xs.length ≤ 9223372036854775807) :
    Calls Try.prog 15 #[a, b] w fun e w' => e = .returned (.bool true) ∧ Below w.heap.size w w' := by
  have := same_any a b xs xs w ha hb hxl hxl
  simpa using this

/-- An append behind a guard that says yes. -/
theorem append_own_g {P : Program} (w : World) {ops : Array Oper} {rest : List Oper} {o : Oper} {a : Act} {Q : Exit → Act → World → Prop} (hw : Region.wanted o (yielded ops a.tmps) = true) (s x : Operand) (t : TypeId)
    (ho : o.op = .call { callee := .builtin .append, args := #[s, x], argTypes := #[t, t] })
    (base : Nat) (e : TypeId) (i : TypeInfo) (z : Value) (size bytes : Nat) (ht : P.underlying t = some (.slice e)) (hi : P.info? e = some i) (hz : i.zero = some z)
    (hsize : i.size = size) (hby : i.bytes = bytes) (hzs : z.cells.size = size) (hsz : 0 < size)
    (v : Value) (n : Nat) (xs : List Value) (hs : a.eval s = v) (hown : w.ownsRow base e size v n xs)
    (ad : Addr) (m c : Nat) (news : List Value) (hx : a.eval x = .slice (some ad) m c) (hl : news.length = m * size) (hnews : ∀ j u, news[j]? = some u → w.cell? (ad.add j) = some u) (h1 : ∀ u ∈ news, u.oneCell' = true)
    (h63 : n + m ≤ maxLen) (hbytes : (n + m) * bytes ≤ 140737488355328) (hbase : base ≤ w.heap.size)
    (h : ∀ v' w', w'.ownsRow base e size v' (n + m) (xs ++ news) → w.grownBy w' v.ownBlock → wpList P ops Q rest (a.put o.dst v') w') : wpList P ops Q (o :: rest) a w :=
  BigFrame.wpList_want hw fun _ hK => wp_append_own w s x t ho base e i z size bytes ht hi hz hsize hby hzs hsz v n xs hs hown ad m c news hx hl hnews h1 h63 hbytes hbase fun v' w' h2 h3 _ => hK _ _ (h v' w' h2 h3)

set_option maxRecDepth 100000 in
set_option maxHeartbeats 1600000 in
theorem tells_none_nil (s t : Nat) (k : Int) (xs : List Int) (HN : Hid (nums s = [])) (w : World) (hs : s < 18446744073709551616) (ht : t < 18446744073709551616) (hk1 : -9223372036854775808 ≤ k) (hk2 : k ≤ 9223372036854775807)
    (hr : RowI w (.slice none 0 0) xs) (hx : Ints xs) (hxl : xs.length ≤ 300) :
    Calls Try.prog 3 #[.int .u64 (s : Int), .int .u64 (t : Int), .int .i64 k, .slice none 0 0] w fun e w' => e = .returned (.bool true) ∧ Below w.heap.size w w' := by
  obtain ⟨i0, hi, hz0, hz1, hz2⟩ := info_parts info3
  obtain ⟨bh, hbh⟩ : ∃ b, has s k = b := ⟨_, rfl⟩
  obtain ⟨tw, htw⟩ : ∃ x, withN s k = x := ⟨_, rfl⟩
  obtain ⟨tl, htl⟩ : ∃ x, lessN s k = x := ⟨_, rfl⟩
  obtain ⟨bi, hbi⟩ : ∃ b, inS s t = b := ⟨_, rfl⟩
  obtain ⟨to, hto⟩ : ∃ x, ofL xs = x := ⟨_, rfl⟩
  obtain ⟨all, hall⟩ : ∃ l, ints (nums s) = l := ⟨_, rfl⟩
  have hallen : all.length ≤ 64 := by rw [← hall, ints_len]; exact nums_len s
  have Hh := Lib.hid hbh
  have Hw := Lib.hid htw
  have Hl := Lib.hid htl
  have Hi := Lib.hid hbi
  have Ho := Lib.hid hto
  have Ha := Lib.hid hall
  clear hbh htw htl hbi hto hall
  have HLe : Hid (((nums s).head?.map fun k => k.val).getD 0 = 0 ∧ (nums s).head?.isSome = false) := Lib.hid (by rw [HN.out]; exact ⟨rfl, rfl⟩)
  have HC : Hid ((nums s).length = 0) := Lib.hid (by rw [HN.out]; rfl)
  have HA0 : Hid (all = []) := Lib.hid (by rw [← Ha.out, HN.out]; rfl)
  go_enter Try.func3, Try.ntmps3
  go_wp2_with fail
  refine (least_at (s := s) _ hs HLe).mono ?_
  rintro q w1 ⟨rfl, hb1⟩
  go_wp2_with fail
  refine (rList_at (s := s) _ hs Ha).mono ?_
  rintro q w2 ⟨v, rfl, HV, hb2⟩
  have hB2 := below_next hb1 hb2
  obtain ⟨va, vc, rfl⟩ : ∃ a c, v = .slice a 0 c := by
    rcases HV.out with ⟨_, a, c, rfl⟩ | ⟨b, off, c, rfl, h0, _⟩
    · exact ⟨a, c, rfl⟩
    · rw [HA0.out] at h0; simp at h0
  have hV2 := HV
  clear hb1 hb2
  go_wp2_with fail
  refine wp_loop_rounds 1 ?_
  rw [rounds_succ]
  go_wp2_with fail
  refine (has_at (s := s) (k := k) _ hs hk1 hk2 Hh).mono ?_
  rintro q w3 ⟨rfl, rfl⟩
  go_wp2_with fail
  refine (rHasB_at (s := s) (k := k) _ hs hk1 hk2 Hh).mono ?_
  rintro q w3 ⟨rfl, rfl⟩
  go_wp2_with fail
  refine (with_at (s := s) (k := k) _ hs hk1 hk2 Hw).mono ?_
  rintro q w3 ⟨rfl, rfl⟩
  go_wp2_with fail
  refine (rWith_at (s := s) (k := k) _ hs hk1 hk2 Hw).mono ?_
  rintro q w3 ⟨rfl, rfl⟩
  go_wp2_with fail
  refine (less_at (s := s) (k := k) _ hs hk1 hk2 Hl).mono ?_
  rintro q w3 ⟨rfl, rfl⟩
  go_wp2_with fail
  refine (rLess_at (s := s) (k := k) _ hs hk1 hk2 Hl).mono ?_
  rintro q w3 ⟨rfl, rfl⟩
  go_wp2_with fail
  refine (len_at (s := s) _ hs HC).mono ?_
  rintro q w4 ⟨rfl, hb4⟩
  go_wp2_with fail
  refine (list_at (s := s) _ hs Ha).mono ?_
  rintro q w5 ⟨v2, rfl, HV2, hb5⟩
  have hb25 := below_next hb4 hb5
  go_wp2_with fail
  refine (same_yes _ _ all _ HV2.out (hV2.out.below hb25) (by omega)).mono ?_
  rintro q w6 ⟨rfl, hb6⟩
  have hB6 := below_next (below_next hB2 hb25) hb6
  clear HV2 hV2 HV hb25 hb4 hb5 hb6 hB2
  go_wp2_with fail
  refine (in_at (s := s) (b := t) _ hs ht Hi).mono ?_
  rintro q w7 ⟨rfl, hb7⟩
  go_wp2_with fail
  refine (inB_at (s := s) (b := t) _ hs ht Hi).mono ?_
  rintro q w8 ⟨rfl, rfl⟩
  have hB8 := below_next hB6 hb7
  have hr8 := hr.below hB8
  clear hB6 hb7
  go_wp2_with fail
  refine (of_at _ hr8 hx (by omega) Ho).mono ?_
  rintro q w9 ⟨rfl, rfl⟩
  go_wp2_with fail
  refine (rOf_at _ hr8 hx (by omega) Ho).mono ?_
  rintro q w9 ⟨rfl, rfl⟩
  clear hr8 hr
  go_wp2_with fail
  refine (alive_any _).mono ?_
  rintro q w11 ⟨rfl, hb11⟩
  have hB := below_next hB8 hb11
  clear hB8 hb11
  go_wp2_with fail
  go_ret
  exact ⟨rfl, hB⟩

set_option maxRecDepth 100000 in
set_option maxHeartbeats 1600000 in
theorem tells_none_row (s t : Nat) (k : Int) (xs : List Int) (ad : Addr) (len0 cap : Nat) (HL : Hid (xs.length = len0)) (hl0 : len0 ≤ 300) (HN : Hid (nums s = [])) (w : World) (hs : s < 18446744073709551616) (ht : t < 18446744073709551616) (hk1 : -9223372036854775808 ≤ k) (hk2 : k ≤ 9223372036854775807)
    (hr : RowI w (.slice (some ad) len0 cap) xs) (hx : Ints xs) (hxl : xs.length ≤ 300) :
    Calls Try.prog 3 #[.int .u64 (s : Int), .int .u64 (t : Int), .int .i64 k, .slice (some ad) len0 cap] w fun e w' => e = .returned (.bool true) ∧ Below w.heap.size w w' := by
  obtain ⟨i0, hi, hz0, hz1, hz2⟩ := info_parts info3
  have hb1' : decide ((300 : Int) < (len0 : Int)) = false := by simp; omega
  obtain ⟨bh, hbh⟩ : ∃ b, has s k = b := ⟨_, rfl⟩
  obtain ⟨tw, htw⟩ : ∃ x, withN s k = x := ⟨_, rfl⟩
  obtain ⟨tl, htl⟩ : ∃ x, lessN s k = x := ⟨_, rfl⟩
  obtain ⟨bi, hbi⟩ : ∃ b, inS s t = b := ⟨_, rfl⟩
  obtain ⟨to, hto⟩ : ∃ x, ofL xs = x := ⟨_, rfl⟩
  obtain ⟨all, hall⟩ : ∃ l, ints (nums s) = l := ⟨_, rfl⟩
  have hallen : all.length ≤ 64 := by rw [← hall, ints_len]; exact nums_len s
  have Hh := Lib.hid hbh
  have Hw := Lib.hid htw
  have Hl := Lib.hid htl
  have Hi := Lib.hid hbi
  have Ho := Lib.hid hto
  have Ha := Lib.hid hall
  clear hbh htw htl hbi hto hall
  have HLe : Hid (((nums s).head?.map fun k => k.val).getD 0 = 0 ∧ (nums s).head?.isSome = false) := Lib.hid (by rw [HN.out]; exact ⟨rfl, rfl⟩)
  have HC : Hid ((nums s).length = 0) := Lib.hid (by rw [HN.out]; rfl)
  have HA0 : Hid (all = []) := Lib.hid (by rw [← Ha.out, HN.out]; rfl)
  go_enter Try.func3, Try.ntmps3
  go_wp2_with fail
  refine (least_at (s := s) _ hs HLe).mono ?_
  rintro q w1 ⟨rfl, hb1⟩
  go_wp2_with fail
  refine (rList_at (s := s) _ hs Ha).mono ?_
  rintro q w2 ⟨v, rfl, HV, hb2⟩
  have hB2 := below_next hb1 hb2
  obtain ⟨va, vc, rfl⟩ : ∃ a c, v = .slice a 0 c := by
    rcases HV.out with ⟨_, a, c, rfl⟩ | ⟨b, off, c, rfl, h0, _⟩
    · exact ⟨a, c, rfl⟩
    · rw [HA0.out] at h0; simp at h0
  have hV2 := HV
  clear hb1 hb2
  go_wp2_with fail
  refine wp_loop_rounds 1 ?_
  rw [rounds_succ]
  go_wp2_with fail
  refine (has_at (s := s) (k := k) _ hs hk1 hk2 Hh).mono ?_
  rintro q w3 ⟨rfl, rfl⟩
  go_wp2_with fail
  refine (rHasB_at (s := s) (k := k) _ hs hk1 hk2 Hh).mono ?_
  rintro q w3 ⟨rfl, rfl⟩
  go_wp2_with fail
  refine (with_at (s := s) (k := k) _ hs hk1 hk2 Hw).mono ?_
  rintro q w3 ⟨rfl, rfl⟩
  go_wp2_with fail
  refine (rWith_at (s := s) (k := k) _ hs hk1 hk2 Hw).mono ?_
  rintro q w3 ⟨rfl, rfl⟩
  go_wp2_with fail
  refine (less_at (s := s) (k := k) _ hs hk1 hk2 Hl).mono ?_
  rintro q w3 ⟨rfl, rfl⟩
  go_wp2_with fail
  refine (rLess_at (s := s) (k := k) _ hs hk1 hk2 Hl).mono ?_
  rintro q w3 ⟨rfl, rfl⟩
  go_wp2_with fail
  refine (len_at (s := s) _ hs HC).mono ?_
  rintro q w4 ⟨rfl, hb4⟩
  go_wp2_with fail
  refine (list_at (s := s) _ hs Ha).mono ?_
  rintro q w5 ⟨v2, rfl, HV2, hb5⟩
  have hb25 := below_next hb4 hb5
  go_wp2_with fail
  refine (same_yes _ _ all _ HV2.out (hV2.out.below hb25) (by omega)).mono ?_
  rintro q w6 ⟨rfl, hb6⟩
  have hB6 := below_next (below_next hB2 hb25) hb6
  clear HV2 hV2 HV hb25 hb4 hb5 hb6 hB2
  go_wp2_with fail
  refine (in_at (s := s) (b := t) _ hs ht Hi).mono ?_
  rintro q w7 ⟨rfl, hb7⟩
  go_wp2_with fail
  refine (inB_at (s := s) (b := t) _ hs ht Hi).mono ?_
  rintro q w8 ⟨rfl, rfl⟩
  have hB8 := below_next hB6 hb7
  have hr8 := hr.below hB8
  clear hB6 hb7
  have hbw8 := hB8.size
  go_wp2_with (at_builtin; refine append_own_g _ rfl _ _ 24 rfl w.heap.size 3 i0 (.int .i64 0) 1 8 Try.underlying24 hi hz0 hz1 hz2 rfl (by decide) _ 0 [] rfl (World.ownsRow_nil _ _ _ _) ad len0 cap (I64 xs) rfl ?c0 ?c1 ?c2 ?c3 ?c4 ?c5 ?_)
  case c0 => simp [I64]; exact HL.out
  case c1 =>
    intro j x hj
    rcases hr8 with ⟨rfl, _⟩ | ⟨b, off, cap', h1, _, _, hc⟩
    · simp [I64] at hj
    · simp only [Value.slice.injEq, Option.some.injEq] at h1
      obtain ⟨rfl, _, _⟩ := h1
      have hjl : j < xs.length := by
        have := (List.getElem?_eq_some_iff.mp hj).1
        simpa [I64] using this
      have h2 := hc j hjl
      rw [I64, List.getElem?_map, List.getElem?_eq_getElem hjl] at hj
      rw [List.getElem?_eq_getElem hjl] at h2
      simp at hj h2
      rw [← hj, ← h2]
      by_cases h0 : j = 0
      · subst h0; simp [Addr.add]
      · simp [Addr.add, h0]
  case c2 => intro x hx; simp [I64] at hx; obtain ⟨y, _, rfl⟩ := hx; rfl
  case c3 => have := HL.out; unfold maxLen; omega
  case c4 => have := HL.out; omega
  try (case c5 => first | omega | (simp; omega))
  intro V w9 hown hgrow
  have hb9 : Below w8.heap.size w8 w9 := (Below.refl _ _).grown hgrow (Nat.le_refl _) (fun k hk => by cases hk)
  have hr1 : RowI w9 V xs := RowI.of_owns (by have h := HL.out; rw [h]; simpa [I64] using hown)
  have hrl := hr8.below hb9
  have hB9 := below_next hB8 hb9
  clear hr hr8 hown hgrow hB8 hb9
  go_wp2_with fail
  refine (of_at _ hr1 hx (by omega) Ho).mono ?_
  rintro q w10 ⟨rfl, rfl⟩
  go_wp2_with fail
  refine (rOf_at _ hrl hx (by omega) Ho).mono ?_
  rintro q w10 ⟨rfl, rfl⟩
  clear hr1 hrl
  go_wp2_with fail
  refine (alive_any _).mono ?_
  rintro q w11 ⟨rfl, hb11⟩
  have hB := below_next hB9 hb11
  clear hB9 hb11
  go_wp2_with fail
  go_ret
  exact ⟨rfl, hB⟩

set_option maxRecDepth 100000 in
set_option maxHeartbeats 1600000 in
theorem tells_one_nil (s t : Nat) (k : Int) (xs : List Int) (x0 : Fin 64) (HN : Hid (nums s = [x0])) (w : World) (hs : s < 18446744073709551616) (ht : t < 18446744073709551616) (hk1 : -9223372036854775808 ≤ k) (hk2 : k ≤ 9223372036854775807)
    (hr : RowI w (.slice none 0 0) xs) (hx : Ints xs) (hxl : xs.length ≤ 300) :
    Calls Try.prog 3 #[.int .u64 (s : Int), .int .u64 (t : Int), .int .i64 k, .slice none 0 0] w fun e w' => e = .returned (.bool true) ∧ Below w.heap.size w w' := by
  obtain ⟨i0, hi, hz0, hz1, hz2⟩ := info_parts info3
  obtain ⟨bh, hbh⟩ : ∃ b, has s k = b := ⟨_, rfl⟩
  obtain ⟨tw, htw⟩ : ∃ x, withN s k = x := ⟨_, rfl⟩
  obtain ⟨tl, htl⟩ : ∃ x, lessN s k = x := ⟨_, rfl⟩
  obtain ⟨bi, hbi⟩ : ∃ b, inS s t = b := ⟨_, rfl⟩
  obtain ⟨to, hto⟩ : ∃ x, ofL xs = x := ⟨_, rfl⟩
  obtain ⟨all, hall⟩ : ∃ l, ints (nums s) = l := ⟨_, rfl⟩
  have hallen : all.length ≤ 64 := by rw [← hall, ints_len]; exact nums_len s
  have Hh := Lib.hid hbh
  have Hw := Lib.hid htw
  have Hl := Lib.hid htl
  have Hi := Lib.hid hbi
  have Ho := Lib.hid hto
  have Ha := Lib.hid hall
  clear hbh htw htl hbi hto hall
  have HLe : Hid (((nums s).head?.map fun k => k.val).getD 0 = x0.val ∧ (nums s).head?.isSome = true) := Lib.hid (by rw [HN.out]; exact ⟨rfl, rfl⟩)
  have HC : Hid ((nums s).length = 1) := Lib.hid (by rw [HN.out]; rfl)
  have HA0 : Hid (all.length = 1 ∧ all[0]?.getD 0 = (x0.val : Int)) := Lib.hid (by rw [← Ha.out, HN.out]; exact ⟨rfl, rfl⟩)
  have hx64 := x0.isLt
  have hx0 : ((x0.val : Int) == (x0.val : Int)) = true := by simp
  go_enter Try.func3, Try.ntmps3
  go_wp2_with fail
  refine (least_at (s := s) _ hs HLe).mono ?_
  rintro q w1 ⟨rfl, hb1⟩
  go_wp2_with fail
  refine (rList_at (s := s) _ hs Ha).mono ?_
  rintro q w2 ⟨v, rfl, HV, hb2⟩
  have hB2 := below_next hb1 hb2
  obtain ⟨vb, vo, vc, rfl, hcell⟩ : ∃ b o c, v = .slice (some ⟨b, o, none⟩) 1 c ∧ w2.cell? ⟨b, o, none⟩ = some (.int .i64 (x0.val : Int)) := by
    rcases HV.out with ⟨h0, a, c, rfl⟩ | ⟨b, off, c, rfl, h0, _, hc⟩
    · have := HA0.out.1; rw [h0] at this; simp at this
    · refine ⟨b, off, c, by rw [HA0.out.1], ?_⟩
      have := hc 0 h0
      rwa [Nat.add_zero, HA0.out.2] at this
  have hV2 := HV
  clear hb1 hb2
  go_wp2_with fail
  refine wp_loop_rounds 2 ?_
  rw [rounds_succ]
  go_wp2_with fail
  rw [rounds_succ]
  go_wp2_with fail
  refine (has_at (s := s) (k := k) _ hs hk1 hk2 Hh).mono ?_
  rintro q w3 ⟨rfl, rfl⟩
  go_wp2_with fail
  refine (rHasB_at (s := s) (k := k) _ hs hk1 hk2 Hh).mono ?_
  rintro q w3 ⟨rfl, rfl⟩
  go_wp2_with fail
  refine (with_at (s := s) (k := k) _ hs hk1 hk2 Hw).mono ?_
  rintro q w3 ⟨rfl, rfl⟩
  go_wp2_with fail
  refine (rWith_at (s := s) (k := k) _ hs hk1 hk2 Hw).mono ?_
  rintro q w3 ⟨rfl, rfl⟩
  go_wp2_with fail
  refine (less_at (s := s) (k := k) _ hs hk1 hk2 Hl).mono ?_
  rintro q w3 ⟨rfl, rfl⟩
  go_wp2_with fail
  refine (rLess_at (s := s) (k := k) _ hs hk1 hk2 Hl).mono ?_
  rintro q w3 ⟨rfl, rfl⟩
  go_wp2_with fail
  refine (len_at (s := s) _ hs HC).mono ?_
  rintro q w4 ⟨rfl, hb4⟩
  go_wp2_with fail
  refine (list_at (s := s) _ hs Ha).mono ?_
  rintro q w5 ⟨v2, rfl, HV2, hb5⟩
  have hb25 := below_next hb4 hb5
  go_wp2_with fail
  refine (same_yes _ _ all _ HV2.out (hV2.out.below hb25) (by omega)).mono ?_
  rintro q w6 ⟨rfl, hb6⟩
  have hB6 := below_next (below_next hB2 hb25) hb6
  clear HV2 hV2 HV hb25 hb4 hb5 hb6 hB2
  go_wp2_with fail
  refine (in_at (s := s) (b := t) _ hs ht Hi).mono ?_
  rintro q w7 ⟨rfl, hb7⟩
  go_wp2_with fail
  refine (inB_at (s := s) (b := t) _ hs ht Hi).mono ?_
  rintro q w8 ⟨rfl, rfl⟩
  have hB8 := below_next hB6 hb7
  have hr8 := hr.below hB8
  clear hB6 hb7
  go_wp2_with fail
  refine (of_at _ hr8 hx (by omega) Ho).mono ?_
  rintro q w9 ⟨rfl, rfl⟩
  go_wp2_with fail
  refine (rOf_at _ hr8 hx (by omega) Ho).mono ?_
  rintro q w9 ⟨rfl, rfl⟩
  clear hr8 hr
  go_wp2_with fail
  refine (alive_any _).mono ?_
  rintro q w11 ⟨rfl, hb11⟩
  have hB := below_next hB8 hb11
  clear hB8 hb11
  go_wp2_with fail
  go_ret
  exact ⟨rfl, hB⟩

set_option maxRecDepth 100000 in
set_option maxHeartbeats 1600000 in
theorem tells_one_row (s t : Nat) (k : Int) (xs : List Int) (ad : Addr) (len0 cap : Nat) (HL : Hid (xs.length = len0)) (hl0 : len0 ≤ 300) (x0 : Fin 64) (HN : Hid (nums s = [x0])) (w : World) (hs : s < 18446744073709551616) (ht : t < 18446744073709551616) (hk1 : -9223372036854775808 ≤ k) (hk2 : k ≤ 9223372036854775807)
    (hr : RowI w (.slice (some ad) len0 cap) xs) (hx : Ints xs) (hxl : xs.length ≤ 300) :
    Calls Try.prog 3 #[.int .u64 (s : Int), .int .u64 (t : Int), .int .i64 k, .slice (some ad) len0 cap] w fun e w' => e = .returned (.bool true) ∧ Below w.heap.size w w' := by
  obtain ⟨i0, hi, hz0, hz1, hz2⟩ := info_parts info3
  have hb1' : decide ((300 : Int) < (len0 : Int)) = false := by simp; omega
  obtain ⟨bh, hbh⟩ : ∃ b, has s k = b := ⟨_, rfl⟩
  obtain ⟨tw, htw⟩ : ∃ x, withN s k = x := ⟨_, rfl⟩
  obtain ⟨tl, htl⟩ : ∃ x, lessN s k = x := ⟨_, rfl⟩
  obtain ⟨bi, hbi⟩ : ∃ b, inS s t = b := ⟨_, rfl⟩
  obtain ⟨to, hto⟩ : ∃ x, ofL xs = x := ⟨_, rfl⟩
  obtain ⟨all, hall⟩ : ∃ l, ints (nums s) = l := ⟨_, rfl⟩
  have hallen : all.length ≤ 64 := by rw [← hall, ints_len]; exact nums_len s
  have Hh := Lib.hid hbh
  have Hw := Lib.hid htw
  have Hl := Lib.hid htl
  have Hi := Lib.hid hbi
  have Ho := Lib.hid hto
  have Ha := Lib.hid hall
  clear hbh htw htl hbi hto hall
  have HLe : Hid (((nums s).head?.map fun k => k.val).getD 0 = x0.val ∧ (nums s).head?.isSome = true) := Lib.hid (by rw [HN.out]; exact ⟨rfl, rfl⟩)
  have HC : Hid ((nums s).length = 1) := Lib.hid (by rw [HN.out]; rfl)
  have HA0 : Hid (all.length = 1 ∧ all[0]?.getD 0 = (x0.val : Int)) := Lib.hid (by rw [← Ha.out, HN.out]; exact ⟨rfl, rfl⟩)
  have hx64 := x0.isLt
  have hx0 : ((x0.val : Int) == (x0.val : Int)) = true := by simp
  go_enter Try.func3, Try.ntmps3
  go_wp2_with fail
  refine (least_at (s := s) _ hs HLe).mono ?_
  rintro q w1 ⟨rfl, hb1⟩
  go_wp2_with fail
  refine (rList_at (s := s) _ hs Ha).mono ?_
  rintro q w2 ⟨v, rfl, HV, hb2⟩
  have hB2 := below_next hb1 hb2
  obtain ⟨vb, vo, vc, rfl, hcell⟩ : ∃ b o c, v = .slice (some ⟨b, o, none⟩) 1 c ∧ w2.cell? ⟨b, o, none⟩ = some (.int .i64 (x0.val : Int)) := by
    rcases HV.out with ⟨h0, a, c, rfl⟩ | ⟨b, off, c, rfl, h0, _, hc⟩
    · have := HA0.out.1; rw [h0] at this; simp at this
    · refine ⟨b, off, c, by rw [HA0.out.1], ?_⟩
      have := hc 0 h0
      rwa [Nat.add_zero, HA0.out.2] at this
  have hV2 := HV
  clear hb1 hb2
  go_wp2_with fail
  refine wp_loop_rounds 2 ?_
  rw [rounds_succ]
  go_wp2_with fail
  rw [rounds_succ]
  go_wp2_with fail
  refine (has_at (s := s) (k := k) _ hs hk1 hk2 Hh).mono ?_
  rintro q w3 ⟨rfl, rfl⟩
  go_wp2_with fail
  refine (rHasB_at (s := s) (k := k) _ hs hk1 hk2 Hh).mono ?_
  rintro q w3 ⟨rfl, rfl⟩
  go_wp2_with fail
  refine (with_at (s := s) (k := k) _ hs hk1 hk2 Hw).mono ?_
  rintro q w3 ⟨rfl, rfl⟩
  go_wp2_with fail
  refine (rWith_at (s := s) (k := k) _ hs hk1 hk2 Hw).mono ?_
  rintro q w3 ⟨rfl, rfl⟩
  go_wp2_with fail
  refine (less_at (s := s) (k := k) _ hs hk1 hk2 Hl).mono ?_
  rintro q w3 ⟨rfl, rfl⟩
  go_wp2_with fail
  refine (rLess_at (s := s) (k := k) _ hs hk1 hk2 Hl).mono ?_
  rintro q w3 ⟨rfl, rfl⟩
  go_wp2_with fail
  refine (len_at (s := s) _ hs HC).mono ?_
  rintro q w4 ⟨rfl, hb4⟩
  go_wp2_with fail
  refine (list_at (s := s) _ hs Ha).mono ?_
  rintro q w5 ⟨v2, rfl, HV2, hb5⟩
  have hb25 := below_next hb4 hb5
  go_wp2_with fail
  refine (same_yes _ _ all _ HV2.out (hV2.out.below hb25) (by omega)).mono ?_
  rintro q w6 ⟨rfl, hb6⟩
  have hB6 := below_next (below_next hB2 hb25) hb6
  clear HV2 hV2 HV hb25 hb4 hb5 hb6 hB2
  go_wp2_with fail
  refine (in_at (s := s) (b := t) _ hs ht Hi).mono ?_
  rintro q w7 ⟨rfl, hb7⟩
  go_wp2_with fail
  refine (inB_at (s := s) (b := t) _ hs ht Hi).mono ?_
  rintro q w8 ⟨rfl, rfl⟩
  have hB8 := below_next hB6 hb7
  have hr8 := hr.below hB8
  clear hB6 hb7
  have hbw8 := hB8.size
  go_wp2_with (at_builtin; refine append_own_g _ rfl _ _ 24 rfl w.heap.size 3 i0 (.int .i64 0) 1 8 Try.underlying24 hi hz0 hz1 hz2 rfl (by decide) _ 0 [] rfl (World.ownsRow_nil _ _ _ _) ad len0 cap (I64 xs) rfl ?c0 ?c1 ?c2 ?c3 ?c4 ?c5 ?_)
  case c0 => simp [I64]; exact HL.out
  case c1 =>
    intro j x hj
    rcases hr8 with ⟨rfl, _⟩ | ⟨b, off, cap', h1, _, _, hc⟩
    · simp [I64] at hj
    · simp only [Value.slice.injEq, Option.some.injEq] at h1
      obtain ⟨rfl, _, _⟩ := h1
      have hjl : j < xs.length := by
        have := (List.getElem?_eq_some_iff.mp hj).1
        simpa [I64] using this
      have h2 := hc j hjl
      rw [I64, List.getElem?_map, List.getElem?_eq_getElem hjl] at hj
      rw [List.getElem?_eq_getElem hjl] at h2
      simp at hj h2
      rw [← hj, ← h2]
      by_cases h0 : j = 0
      · subst h0; simp [Addr.add]
      · simp [Addr.add, h0]
  case c2 => intro x hx; simp [I64] at hx; obtain ⟨y, _, rfl⟩ := hx; rfl
  case c3 => have := HL.out; unfold maxLen; omega
  case c4 => have := HL.out; omega
  try (case c5 => first | omega | (simp; omega))
  intro V w9 hown hgrow
  have hb9 : Below w8.heap.size w8 w9 := (Below.refl _ _).grown hgrow (Nat.le_refl _) (fun k hk => by cases hk)
  have hr1 : RowI w9 V xs := RowI.of_owns (by have h := HL.out; rw [h]; simpa [I64] using hown)
  have hrl := hr8.below hb9
  have hB9 := below_next hB8 hb9
  clear hr hr8 hown hgrow hB8 hb9
  go_wp2_with fail
  refine (of_at _ hr1 hx (by omega) Ho).mono ?_
  rintro q w10 ⟨rfl, rfl⟩
  go_wp2_with fail
  refine (rOf_at _ hrl hx (by omega) Ho).mono ?_
  rintro q w10 ⟨rfl, rfl⟩
  clear hr1 hrl
  go_wp2_with fail
  refine (alive_any _).mono ?_
  rintro q w11 ⟨rfl, hb11⟩
  have hB := below_next hB9 hb11
  clear hB9 hb11
  go_wp2_with fail
  go_ret
  exact ⟨rfl, hB⟩

set_option maxRecDepth 100000 in
set_option maxHeartbeats 1600000 in
theorem tells_more_nil (s t : Nat) (k : Int) (xs : List Int) (x0 : Fin 64) (HN : Hid (∃ r, nums s = x0 :: r)) (n : Nat) (HC : Hid ((nums s).length = n)) (hn2 : 2 ≤ n) (w : World) (hs : s < 18446744073709551616) (ht : t < 18446744073709551616) (hk1 : -9223372036854775808 ≤ k) (hk2 : k ≤ 9223372036854775807)
    (hr : RowI w (.slice none 0 0) xs) (hx : Ints xs) (hxl : xs.length ≤ 300) :
    Calls Try.prog 3 #[.int .u64 (s : Int), .int .u64 (t : Int), .int .i64 k, .slice none 0 0] w fun e w' => e = .returned (.bool true) ∧ Below w.heap.size w w' := by
  obtain ⟨i0, hi, hz0, hz1, hz2⟩ := info_parts info3
  obtain ⟨bh, hbh⟩ : ∃ b, has s k = b := ⟨_, rfl⟩
  obtain ⟨tw, htw⟩ : ∃ x, withN s k = x := ⟨_, rfl⟩
  obtain ⟨tl, htl⟩ : ∃ x, lessN s k = x := ⟨_, rfl⟩
  obtain ⟨bi, hbi⟩ : ∃ b, inS s t = b := ⟨_, rfl⟩
  obtain ⟨to, hto⟩ : ∃ x, ofL xs = x := ⟨_, rfl⟩
  obtain ⟨all, hall⟩ : ∃ l, ints (nums s) = l := ⟨_, rfl⟩
  have hallen : all.length ≤ 64 := by rw [← hall, ints_len]; exact nums_len s
  have Hh := Lib.hid hbh
  have Hw := Lib.hid htw
  have Hl := Lib.hid htl
  have Hi := Lib.hid hbi
  have Ho := Lib.hid hto
  have Ha := Lib.hid hall
  clear hbh htw htl hbi hto hall
  have HLe : Hid (((nums s).head?.map fun k => k.val).getD 0 = x0.val ∧ (nums s).head?.isSome = true) := Lib.hid (by obtain ⟨r, hr⟩ := HN.out; rw [hr]; exact ⟨rfl, rfl⟩)
  have HA0 : Hid (all.length = n ∧ all[0]?.getD 0 = (x0.val : Int)) := Lib.hid (by
    refine ⟨by rw [← Ha.out, ints_len, HC.out], ?_⟩
    obtain ⟨r, hr⟩ := HN.out; rw [← Ha.out, hr]; rfl)
  have hq1 : (1 : Int) < (n : Int) := by omega
  have hq0 : (0 : Int) < (n : Int) := by omega
  have hq3 : 0 < n := by omega
  have hq4 : (true != decide ((0 : Int) < (n : Int))) = false := by simp; omega
  have hx64 := x0.isLt
  have hx0 : ((x0.val : Int) == (x0.val : Int)) = true := by simp
  go_enter Try.func3, Try.ntmps3
  go_wp2_with fail
  refine (least_at (s := s) _ hs HLe).mono ?_
  rintro q w1 ⟨rfl, hb1⟩
  go_wp2_with fail
  refine (rList_at (s := s) _ hs Ha).mono ?_
  rintro q w2 ⟨v, rfl, HV, hb2⟩
  have hB2 := below_next hb1 hb2
  obtain ⟨vb, vo, vc, rfl, hcell⟩ : ∃ b o c, v = .slice (some ⟨b, o, none⟩) n c ∧ w2.cell? ⟨b, o, none⟩ = some (.int .i64 (x0.val : Int)) := by
    rcases HV.out with ⟨h0, a, c, rfl⟩ | ⟨b, off, c, rfl, h0, _, hc⟩
    · have := HA0.out.1; rw [h0] at this; simp at this; omega
    · refine ⟨b, off, c, by rw [HA0.out.1], ?_⟩
      have := hc 0 h0
      rwa [Nat.add_zero, HA0.out.2] at this
  have hV2 := HV
  clear hb1 hb2
  go_wp2_with fail
  refine wp_loop_rounds 2 ?_
  rw [rounds_succ]
  go_wp2_with fail
  rw [rounds_succ]
  go_wp2_with fail
  refine (has_at (s := s) (k := k) _ hs hk1 hk2 Hh).mono ?_
  rintro q w3 ⟨rfl, rfl⟩
  go_wp2_with fail
  refine (rHasB_at (s := s) (k := k) _ hs hk1 hk2 Hh).mono ?_
  rintro q w3 ⟨rfl, rfl⟩
  go_wp2_with fail
  refine (with_at (s := s) (k := k) _ hs hk1 hk2 Hw).mono ?_
  rintro q w3 ⟨rfl, rfl⟩
  go_wp2_with fail
  refine (rWith_at (s := s) (k := k) _ hs hk1 hk2 Hw).mono ?_
  rintro q w3 ⟨rfl, rfl⟩
  go_wp2_with fail
  refine (less_at (s := s) (k := k) _ hs hk1 hk2 Hl).mono ?_
  rintro q w3 ⟨rfl, rfl⟩
  go_wp2_with fail
  refine (rLess_at (s := s) (k := k) _ hs hk1 hk2 Hl).mono ?_
  rintro q w3 ⟨rfl, rfl⟩
  go_wp2_with fail
  refine (len_at (s := s) _ hs HC).mono ?_
  rintro q w4 ⟨rfl, hb4⟩
  go_wp2_with fail
  refine (list_at (s := s) _ hs Ha).mono ?_
  rintro q w5 ⟨v2, rfl, HV2, hb5⟩
  have hb25 := below_next hb4 hb5
  go_wp2_with fail
  refine (same_yes _ _ all _ HV2.out (hV2.out.below hb25) (by omega)).mono ?_
  rintro q w6 ⟨rfl, hb6⟩
  have hB6 := below_next (below_next hB2 hb25) hb6
  clear HV2 hV2 HV hb25 hb4 hb5 hb6 hB2
  go_wp2_with fail
  refine (in_at (s := s) (b := t) _ hs ht Hi).mono ?_
  rintro q w7 ⟨rfl, hb7⟩
  go_wp2_with fail
  refine (inB_at (s := s) (b := t) _ hs ht Hi).mono ?_
  rintro q w8 ⟨rfl, rfl⟩
  have hB8 := below_next hB6 hb7
  have hr8 := hr.below hB8
  clear hB6 hb7
  go_wp2_with fail
  refine (of_at _ hr8 hx (by omega) Ho).mono ?_
  rintro q w9 ⟨rfl, rfl⟩
  go_wp2_with fail
  refine (rOf_at _ hr8 hx (by omega) Ho).mono ?_
  rintro q w9 ⟨rfl, rfl⟩
  clear hr8 hr
  go_wp2_with fail
  refine (alive_any _).mono ?_
  rintro q w11 ⟨rfl, hb11⟩
  have hB := below_next hB8 hb11
  clear hB8 hb11
  go_wp2_with fail
  go_ret
  exact ⟨rfl, hB⟩

set_option maxRecDepth 100000 in
set_option maxHeartbeats 1600000 in
theorem tells_more_row (s t : Nat) (k : Int) (xs : List Int) (ad : Addr) (len0 cap : Nat) (HL : Hid (xs.length = len0)) (hl0 : len0 ≤ 300) (x0 : Fin 64) (HN : Hid (∃ r, nums s = x0 :: r)) (n : Nat) (HC : Hid ((nums s).length = n)) (hn2 : 2 ≤ n) (w : World) (hs : s < 18446744073709551616) (ht : t < 18446744073709551616) (hk1 : -9223372036854775808 ≤ k) (hk2 : k ≤ 9223372036854775807)
    (hr : RowI w (.slice (some ad) len0 cap) xs) (hx : Ints xs) (hxl : xs.length ≤ 300) :
    Calls Try.prog 3 #[.int .u64 (s : Int), .int .u64 (t : Int), .int .i64 k, .slice (some ad) len0 cap] w fun e w' => e = .returned (.bool true) ∧ Below w.heap.size w w' := by
  obtain ⟨i0, hi, hz0, hz1, hz2⟩ := info_parts info3
  have hb1' : decide ((300 : Int) < (len0 : Int)) = false := by simp; omega
  obtain ⟨bh, hbh⟩ : ∃ b, has s k = b := ⟨_, rfl⟩
  obtain ⟨tw, htw⟩ : ∃ x, withN s k = x := ⟨_, rfl⟩
  obtain ⟨tl, htl⟩ : ∃ x, lessN s k = x := ⟨_, rfl⟩
  obtain ⟨bi, hbi⟩ : ∃ b, inS s t = b := ⟨_, rfl⟩
  obtain ⟨to, hto⟩ : ∃ x, ofL xs = x := ⟨_, rfl⟩
  obtain ⟨all, hall⟩ : ∃ l, ints (nums s) = l := ⟨_, rfl⟩
  have hallen : all.length ≤ 64 := by rw [← hall, ints_len]; exact nums_len s
  have Hh := Lib.hid hbh
  have Hw := Lib.hid htw
  have Hl := Lib.hid htl
  have Hi := Lib.hid hbi
  have Ho := Lib.hid hto
  have Ha := Lib.hid hall
  clear hbh htw htl hbi hto hall
  have HLe : Hid (((nums s).head?.map fun k => k.val).getD 0 = x0.val ∧ (nums s).head?.isSome = true) := Lib.hid (by obtain ⟨r, hr⟩ := HN.out; rw [hr]; exact ⟨rfl, rfl⟩)
  have HA0 : Hid (all.length = n ∧ all[0]?.getD 0 = (x0.val : Int)) := Lib.hid (by
    refine ⟨by rw [← Ha.out, ints_len, HC.out], ?_⟩
    obtain ⟨r, hr⟩ := HN.out; rw [← Ha.out, hr]; rfl)
  have hq1 : (1 : Int) < (n : Int) := by omega
  have hq0 : (0 : Int) < (n : Int) := by omega
  have hq3 : 0 < n := by omega
  have hq4 : (true != decide ((0 : Int) < (n : Int))) = false := by simp; omega
  have hx64 := x0.isLt
  have hx0 : ((x0.val : Int) == (x0.val : Int)) = true := by simp
  go_enter Try.func3, Try.ntmps3
  go_wp2_with fail
  refine (least_at (s := s) _ hs HLe).mono ?_
  rintro q w1 ⟨rfl, hb1⟩
  go_wp2_with fail
  refine (rList_at (s := s) _ hs Ha).mono ?_
  rintro q w2 ⟨v, rfl, HV, hb2⟩
  have hB2 := below_next hb1 hb2
  obtain ⟨vb, vo, vc, rfl, hcell⟩ : ∃ b o c, v = .slice (some ⟨b, o, none⟩) n c ∧ w2.cell? ⟨b, o, none⟩ = some (.int .i64 (x0.val : Int)) := by
    rcases HV.out with ⟨h0, a, c, rfl⟩ | ⟨b, off, c, rfl, h0, _, hc⟩
    · have := HA0.out.1; rw [h0] at this; simp at this; omega
    · refine ⟨b, off, c, by rw [HA0.out.1], ?_⟩
      have := hc 0 h0
      rwa [Nat.add_zero, HA0.out.2] at this
  have hV2 := HV
  clear hb1 hb2
  go_wp2_with fail
  refine wp_loop_rounds 2 ?_
  rw [rounds_succ]
  go_wp2_with fail
  rw [rounds_succ]
  go_wp2_with fail
  refine (has_at (s := s) (k := k) _ hs hk1 hk2 Hh).mono ?_
  rintro q w3 ⟨rfl, rfl⟩
  go_wp2_with fail
  refine (rHasB_at (s := s) (k := k) _ hs hk1 hk2 Hh).mono ?_
  rintro q w3 ⟨rfl, rfl⟩
  go_wp2_with fail
  refine (with_at (s := s) (k := k) _ hs hk1 hk2 Hw).mono ?_
  rintro q w3 ⟨rfl, rfl⟩
  go_wp2_with fail
  refine (rWith_at (s := s) (k := k) _ hs hk1 hk2 Hw).mono ?_
  rintro q w3 ⟨rfl, rfl⟩
  go_wp2_with fail
  refine (less_at (s := s) (k := k) _ hs hk1 hk2 Hl).mono ?_
  rintro q w3 ⟨rfl, rfl⟩
  go_wp2_with fail
  refine (rLess_at (s := s) (k := k) _ hs hk1 hk2 Hl).mono ?_
  rintro q w3 ⟨rfl, rfl⟩
  go_wp2_with fail
  refine (len_at (s := s) _ hs HC).mono ?_
  rintro q w4 ⟨rfl, hb4⟩
  go_wp2_with fail
  refine (list_at (s := s) _ hs Ha).mono ?_
  rintro q w5 ⟨v2, rfl, HV2, hb5⟩
  have hb25 := below_next hb4 hb5
  go_wp2_with fail
  refine (same_yes _ _ all _ HV2.out (hV2.out.below hb25) (by omega)).mono ?_
  rintro q w6 ⟨rfl, hb6⟩
  have hB6 := below_next (below_next hB2 hb25) hb6
  clear HV2 hV2 HV hb25 hb4 hb5 hb6 hB2
  go_wp2_with fail
  refine (in_at (s := s) (b := t) _ hs ht Hi).mono ?_
  rintro q w7 ⟨rfl, hb7⟩
  go_wp2_with fail
  refine (inB_at (s := s) (b := t) _ hs ht Hi).mono ?_
  rintro q w8 ⟨rfl, rfl⟩
  have hB8 := below_next hB6 hb7
  have hr8 := hr.below hB8
  clear hB6 hb7
  have hbw8 := hB8.size
  go_wp2_with (at_builtin; refine append_own_g _ rfl _ _ 24 rfl w.heap.size 3 i0 (.int .i64 0) 1 8 Try.underlying24 hi hz0 hz1 hz2 rfl (by decide) _ 0 [] rfl (World.ownsRow_nil _ _ _ _) ad len0 cap (I64 xs) rfl ?c0 ?c1 ?c2 ?c3 ?c4 ?c5 ?_)
  case c0 => simp [I64]; exact HL.out
  case c1 =>
    intro j x hj
    rcases hr8 with ⟨rfl, _⟩ | ⟨b, off, cap', h1, _, _, hc⟩
    · simp [I64] at hj
    · simp only [Value.slice.injEq, Option.some.injEq] at h1
      obtain ⟨rfl, _, _⟩ := h1
      have hjl : j < xs.length := by
        have := (List.getElem?_eq_some_iff.mp hj).1
        simpa [I64] using this
      have h2 := hc j hjl
      rw [I64, List.getElem?_map, List.getElem?_eq_getElem hjl] at hj
      rw [List.getElem?_eq_getElem hjl] at h2
      simp at hj h2
      rw [← hj, ← h2]
      by_cases h0 : j = 0
      · subst h0; simp [Addr.add]
      · simp [Addr.add, h0]
  case c2 => intro x hx; simp [I64] at hx; obtain ⟨y, _, rfl⟩ := hx; rfl
  case c3 => have := HL.out; unfold maxLen; omega
  case c4 => have := HL.out; omega
  try (case c5 => first | omega | (simp; omega))
  intro V w9 hown hgrow
  have hb9 : Below w8.heap.size w8 w9 := (Below.refl _ _).grown hgrow (Nat.le_refl _) (fun k hk => by cases hk)
  have hr1 : RowI w9 V xs := RowI.of_owns (by have h := HL.out; rw [h]; simpa [I64] using hown)
  have hrl := hr8.below hb9
  have hB9 := below_next hB8 hb9
  clear hr hr8 hown hgrow hB8 hb9
  go_wp2_with fail
  refine (of_at _ hr1 hx (by omega) Ho).mono ?_
  rintro q w10 ⟨rfl, rfl⟩
  go_wp2_with fail
  refine (rOf_at _ hrl hx (by omega) Ho).mono ?_
  rintro q w10 ⟨rfl, rfl⟩
  clear hr1 hrl
  go_wp2_with fail
  refine (alive_any _).mono ?_
  rintro q w11 ⟨rfl, hb11⟩
  have hB := below_next hB9 hb11
  clear hB9 hb11
  go_wp2_with fail
  go_ret
  exact ⟨rfl, hB⟩

set_option maxRecDepth 100000 in
set_option maxHeartbeats 800000 in
theorem tells_walk (a : Option Addr) (len0 cap : Nat) (xs : List Int) (s t : Nat) (k : Int) (w : World) (hn : a = none → len0 = 0 ∧ cap = 0) (hl0 : xs.length = len0) (hr : RowI w (.slice a len0 cap) xs) (hx : Ints xs)
    (hxl : len0 ≤ 9223372036854775807) (hs : s < 18446744073709551616) (ht : t < 18446744073709551616) (hk1 : -9223372036854775808 ≤ k) (hk2 : k ≤ 9223372036854775807) :
    Calls Try.prog 3 #[.int .u64 (s : Int), .int .u64 (t : Int), .int .i64 k, .slice a len0 cap] w fun e w' => e = .returned (.bool true) ∧ Below w.heap.size w w' := by
  by_cases hb1 : 300 < len0
  · have hb1' : (300 : Int) < (len0 : Int) := by omega
    clear hr hn hl0
    go_enter Try.func3, Try.ntmps3
    go_wp2_with fail
    refine (alive_any _).mono ?_
    rintro q w1 ⟨rfl, hb⟩
    go_wp2_with fail
    go_ret
    exact ⟨rfl, hb⟩
  · obtain ⟨l, hl⟩ : ∃ l, nums s = l := ⟨_, rfl⟩
    cases a with
    | none =>
      obtain ⟨rfl, rfl⟩ := hn rfl
      match l, hl with
      | [], hl => exact tells_none_nil s t k xs hl w hs ht hk1 hk2 hr hx (by omega)
      | [x], hl => exact tells_one_nil s t k xs x hl w hs ht hk1 hk2 hr hx (by omega)
      | x :: y :: r, hl => exact tells_more_nil s t k xs x ⟨_, hl⟩ _ (Lib.hid rfl) (by rw [hl]; simp) w hs ht hk1 hk2 hr hx (by omega)
    | some ad =>
      match l, hl with
      | [], hl => exact tells_none_row s t k xs ad len0 cap hl0 (by omega) hl w hs ht hk1 hk2 hr hx (by omega)
      | [x], hl => exact tells_one_row s t k xs ad len0 cap hl0 (by omega) x hl w hs ht hk1 hk2 hr hx (by omega)
      | x :: y :: r, hl => exact tells_more_row s t k xs ad len0 cap hl0 (by omega) x ⟨_, hl⟩ _ (Lib.hid rfl) (by rw [hl]; simp) w hs ht hk1 hk2 hr hx (by omega)
end Go.Proofs.Ytdbocnjphidliaa
