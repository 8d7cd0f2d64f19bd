/-
  The walk of the law MchanOrder.
-/
import Derived.Test.YtbelfcfdgkmnmaaMOrderP
namespace Go.Proofs.Ytbelfcfdgkmnmaa
open Go.RowKit

theorem order_big (q : Nat) (a : Option Addr) (n cap : Nat) (w : World) (hn : 200 < n) :
    Calls Try.prog 3 #[.int .u8 (q : Int), .slice a n cap] w fun e w' => e = .returned (.bool true) ∧ Below w.heap.size w w' := by
  have hl2 : (200 : Int) < (n : Int) := by omega
  go_enter Try.func3, Try.ntmps3
  go_wp2_with fail
  refine (alive_any _).mono ?_
  rintro e w1 ⟨rfl, hb⟩
  go_wp2_with fail
  go_ret
  exact ⟨rfl, hb⟩

set_option maxRecDepth 100000 in
set_option maxHeartbeats 4000000 in
theorem order_loop (q : Nat) (hq : q ≤ 255) (ad : Option Addr) (len cap : Nat) (f : Nat → Bool) (w : World) (hl : len ≤ 200)
    (hc : ∀ j, j < len → ∃ bb off, ad = some ⟨bb, off, none⟩ ∧ bb < w.heap.size ∧ w.cell? ⟨bb, off + j, none⟩ = some (.bool (f j))) :
    Calls Try.prog 3 #[.int .u8 (q : Int), .slice ad len cap] w fun e w' => e = .returned (.bool true) ∧ Below w.heap.size w w' := by
  have hl1 : decide ((200 : Int) < (len : Int)) = false := by simp; omega
  have hl2 : ¬ (200 : Int) < (len : Int) := by omega
  obtain ⟨m, hm⟩ : ∃ m, m = q % 9 := ⟨_, rfl⟩
  have hm9 : m ≤ 8 := by omega
  have hm1 : ((q : Int) % 9) = (m : Int) := by omega
  have hm2 : ((q : Int).tmod 9) = (m : Int) := by rw [Int.tmod_eq_emod_of_nonneg (by omega)]; omega
  have hw : IntKind.i64.wrap (q : Int) = (q : Int) := by rw [IntKind.wrap_i64]; omega
  clear hm
  have hnew := liv_new m w hm9
  go_enter Try.func3, Try.ntmps3
  go_wp2_with fail
  refine hnew.mono ?_
  rintro e w2 ⟨C, F2, rfl, h2⟩
  clear hnew
  go_wp2_with fail
  clear hm1 hm2 hw hl1 hl2
  go_loopw [7, 8, 9, 10, 11] (fun nv gv av bv iv wr => ∃ (i n g : Nat) (a b : Int) (buf : List Int) (S R : List Wt) (F : Nat → Prop), i ≤ len ∧ iv = .int .i64 (i : Int) ∧ nv = .int .i64 (n : Int) ∧ gv = .int .i64 (g : Int) ∧ av = .int .i64 a ∧ bv = .int .i64 b ∧ Liv w wr F C m false buf S R ∧ Hid (Inv m i n g a b buf S R)) (fun _ _ _ _ iv _ => len - (intOf iv).toNat)
  case atStart => exact ⟨0, 0, 0, 0, 0, [], [], [], F2, Nat.zero_le _, rfl, rfl, rfl, rfl, rfl, h2, Lib.hid (Inv.start m)⟩
  case round =>
    clear h2
    obtain ⟨i, n, g, a, b, buf, S, R, F, hi, rfl, rfl, rfl, rfl, rfl, hL, HI⟩ := hrel
    by_cases hlt : i < len
    · have hlt' : (i : Int) < (len : Int) := by omega
      have q0 : (0 : Int) ≤ (i : Int) := by omega
      obtain ⟨bb, off, rfl, hbb, hcj⟩ := hc i hlt
      have hd : wr.cell? ⟨bb, off + i, none⟩ = some (.bool (f i)) := hL.below.cell (p := ⟨bb, off + i, none⟩) hbb |>.trans hcj
      obtain ⟨s, hs⟩ : ∃ s, f i = s := ⟨_, rfl⟩
      rw [hs] at hd
      have hn2 : n ≤ 200 := by have := HI.out.ni; omega
      have hlS : S.length ≤ 200 := by have := HI.out.lenS; omega
      have hlR : R.length ≤ 200 := by have := HI.out.lenR; omega
      have hg2 : g ≤ n := HI.out.count.1
      have ha := HI.out.a0
      have hb := HI.out.b0
      clear hc hcj hs hbb
      cases s with
      | true =>
        cases R with
        | nil =>
          by_cases hr : buf.length < m
          · obtain ⟨rfl, HI1⟩ := HI.out.put hr
            have hq : Calls Try.prog 6 #[.pointer (some ⟨C, 0, none⟩), .bool true] wr fun e w' => e = .returned (.int .u8 3) ∧ Liv w w' F C m false buf [] [] ∧ Below wr.heap.size wr w' := by
              have := hL.what true (by first | omega | (simp; done) | (simp at *; omega)) (by first | omega | (simp; done) | (simp at *; omega))
              rwa [show whatK false m buf [] [] true = 3 from by simp [whatK, toSendK, hr]] at this
            go_wp2_with fail
            refine hq.mono ?_
            clear hq hL hd
            rintro e w1 ⟨rfl, h1, -⟩
            have hsv : Calls Try.prog 8 #[.pointer (some ⟨C, 0, none⟩), .bool true, .int .i64 (n : Int)] w1 fun e w' => e = .returned (.tuple #[.agg #[.int .u8 3, .int .i64 0, .int .i64 0, .int .i64 0, .int .i64 (n : Int), .bool true, .int .i64 0], .int .i64 0]) ∧ Liv w w' (Fs F w1 w') C m false (buf ++ [(n : Int)]) [] [] :=
              (serve_put (S := []) n w1 h1.ch (by simp) (by simp) rfl hr).mono fun _ _ ⟨a, b, c⟩ => ⟨a, by have := h1.step b c; rwa [putL_room hr] at this⟩
            have HI2 : Hid (Inv m (i + 1) (n + 1) g (a) (b) (buf ++ [(n : Int)]) [] []) := Lib.hid (HI1)
            clear HI h1
            go_wp2_with fail
            refine hsv.mono ?_
            rintro e w2 ⟨rfl, h2⟩
            clear hsv
            obtain ⟨w3, hw3⟩ : ∃ w3, w3 = w2.alloc (.cells #[.int .u8 3, .int .i64 0, .int .i64 0, .int .i64 0, .int .i64 (n : Int), .bool true, .int .i64 0] 33) := ⟨_, rfl⟩
            have hg3 : GtAt w3 w2.heap.size ⟨3, .zero, (n : Int), true, 0⟩ := by rw [hw3]; exact gtAt_new w2 ⟨3, .zero, (n : Int), true, 0⟩
            have h3 : Liv w w3 (Fs F w1 w2) C m false (buf ++ [(n : Int)]) [] [] := by rw [hw3]; exact h2.alloc _
            have c0 := hg3.c0
            have c1 := hg3.c1
            have c4 := hg3.c4
            have c5 := hg3.c5
            rw [hw3] at c0 c1 c4 c5
            clear h2 hg3
            go_wp2_with fail
            rw [← hw3]
            clear hw3
            go_roundw
            case rel => exact ⟨i + 1, (n + 1), g, _, _, _, _, _, _, by omega, by go_num, by go_num, by go_num, by first | rfl | go_num, by first | rfl | go_num, h3, HI2⟩
            case measure => simp [intOf]; omega
          · have hq : Calls Try.prog 6 #[.pointer (some ⟨C, 0, none⟩), .bool true] wr fun e w' => e = .returned (.int .u8 6) ∧ Liv w w' F C m false buf S [] ∧ Below wr.heap.size wr w' := by
              have := hL.what true (by first | omega | (simp; done) | (simp at *; omega)) (by first | omega | (simp; done) | (simp at *; omega))
              rwa [show whatK false m buf S [] true = 6 from by simp [whatK, toSendK, hr]] at this
            go_wp2_with fail
            refine hq.mono ?_
            clear hq hL hd
            rintro e w1 ⟨rfl, h1, -⟩
            have hwt : Calls Try.prog 7 #[.pointer (some ⟨C, 0, none⟩), .bool true, .agg #[.int .i64 (i : Int), .int .i64 0, .int .i64 (n : Int)]] w1 fun e w' => e = .returned (.int .i64 0) ∧ Liv w w' (Fs F w1 w') C m false buf (S ++ [⟨i, 0, n⟩]) [] :=
              (wait_any (S := S) (R := []) true ⟨i, 0, n⟩ w1 h1.ch (HI.out.sends.unlike n) (show (S : List Wt).length ≤ 900 by omega)).mono fun _ _ ⟨a, b, c⟩ => ⟨a, h1.step b c⟩
            have HI2 := Lib.hid (HI.out.waitS hr)
            clear HI
            go_wp2_with fail
            refine hwt.mono ?_
            rintro e w2 ⟨rfl, h2⟩
            clear hwt
            go_wp2_with fail
            go_roundw
            case rel => exact ⟨i + 1, n + 1, g, a, b, _, _, _, _, by omega, by go_num, by first | rfl | go_num, rfl, rfl, rfl, h2, HI2⟩
            case measure => simp [intOf]; omega
        | cons x t =>
          obtain ⟨rfl, rfl, hng, hx1, hx2, HI1⟩ := HI.out.hand
          subst hng
          have z1 : ¬ x.t < b := by omega
          have z2 : ¬ (i : Int) ≤ x.t := by omega
          have z3 : decide (x.t < b) = false := by simp; omega
          have z4 : decide ((i : Int) ≤ x.t) = false := by simp; omega
          have z5 : IntKind.i64.wrap (x.t + 1) = x.t + 1 := by rw [IntKind.wrap_i64]; omega
          have hq : Calls Try.prog 6 #[.pointer (some ⟨C, 0, none⟩), .bool true] wr fun e w' => e = .returned (.int .u8 2) ∧ Liv w w' F C m false [] [] (x :: t) ∧ Below wr.heap.size wr w' := by
            have := hL.what true (by first | omega | (simp; done) | (simp at *; omega)) (by first | omega | (simp; done) | (simp at *; omega))
            rwa [show whatK false m [] [] (x :: t) true = 2 from by simp [whatK, toSendK]] at this
          go_wp2_with fail
          refine hq.mono ?_
          clear hq hL hd
          rintro e w1 ⟨rfl, h1, -⟩
          have hsv : Calls Try.prog 8 #[.pointer (some ⟨C, 0, none⟩), .bool true, .int .i64 (n : Int)] w1 fun e w' => e = .returned (.tuple #[.agg #[.int .u8 2, .int .i64 x.t, .int .i64 x.c, .int .i64 x.v, .int .i64 (n : Int), .bool true, .int .i64 0], .int .i64 0]) ∧ Liv w w' (Fs F w1 w') C m false [] [] t :=
            (serve_hand (S := []) (t := t) (x := x) n w1 h1.ch (by simp) (by omega) rfl).mono fun _ _ ⟨a, b, c⟩ => ⟨a, by have := h1.step b c; exact this⟩
          have HI2 : Hid (Inv m (i + 1) (n + 1) (n + 1) (a) (x.t + 1) [] [] t) := Lib.hid (HI1)
          clear HI h1
          go_wp2_with fail
          refine hsv.mono ?_
          rintro e w2 ⟨rfl, h2⟩
          clear hsv
          obtain ⟨w3, hw3⟩ : ∃ w3, w3 = w2.alloc (.cells #[.int .u8 2, .int .i64 x.t, .int .i64 x.c, .int .i64 x.v, .int .i64 (n : Int), .bool true, .int .i64 0] 33) := ⟨_, rfl⟩
          have hg3 : GtAt w3 w2.heap.size ⟨2, ⟨x.t, x.c, x.v⟩, (n : Int), true, 0⟩ := by rw [hw3]; exact gtAt_new w2 ⟨2, ⟨x.t, x.c, x.v⟩, (n : Int), true, 0⟩
          have h3 : Liv w w3 (Fs F w1 w2) C m false [] [] t := by rw [hw3]; exact h2.alloc _
          have c0 := hg3.c0
          have c1 := hg3.c1
          have c4 := hg3.c4
          have c5 := hg3.c5
          rw [hw3] at c0 c1 c4 c5
          clear h2 hg3
          go_wp2_with fail
          rw [← hw3]
          clear hw3
          go_roundw
          case rel => exact ⟨i + 1, (n + 1), (n + 1), _, _, _, _, _, _, by omega, by go_num, by go_num, by go_num, by first | rfl | go_num, by first | rfl | go_num, h3, HI2⟩
          case measure => simp [intOf]; omega
      | false =>
        cases S with
        | cons x t =>
          by_cases h0 : m = 0
          · obtain ⟨rfl, rfl, hxv, hx1, hx2, HI1⟩ := HI.out.fetch h0
            obtain ⟨xt, xc, xv⟩ := x
            simp only at hxv hx1 hx2 HI1
            subst hxv
            have z1 : ¬ xt < a := by omega
            have z2 : ¬ (i : Int) ≤ xt := by omega
            have z3 : decide (xt < a) = false := by simp; omega
            have z4 : decide ((i : Int) ≤ xt) = false := by simp; omega
            have z5 : IntKind.i64.wrap (xt + 1) = xt + 1 := by rw [IntKind.wrap_i64]; omega
            have hq : Calls Try.prog 6 #[.pointer (some ⟨C, 0, none⟩), .bool false] wr fun e w' => e = .returned (.int .u8 2) ∧ Liv w w' F C m false [] (⟨xt, xc, g⟩ :: t) [] ∧ Below wr.heap.size wr w' := by
              have := hL.what false (by first | omega | (simp; done) | (simp at *; omega)) (by first | omega | (simp; done) | (simp at *; omega))
              rwa [show whatK false m [] (⟨xt, xc, g⟩ :: t) [] false = 2 from by simp [whatK, toRecvK, h0]] at this
            have H0 := Lib.hid h0
            clear h0
            go_wp2_with fail
            refine hq.mono ?_
            clear hq hL hd
            rintro e w1 ⟨rfl, h1, -⟩
            have hsv : Calls Try.prog 8 #[.pointer (some ⟨C, 0, none⟩), .bool false, .int .i64 (n : Int)] w1 fun e w' => e = .returned (.tuple #[.agg #[.int .u8 2, .int .i64 xt, .int .i64 xc, .int .i64 (g : Int), .int .i64 (g : Int), .bool true, .int .i64 0], .int .i64 0]) ∧ Liv w w' (Fs F w1 w') C m false [] t [] :=
              (serve_fetch (t := t) (R := []) (x := ⟨xt, xc, g⟩) n w1 h1.ch (by omega) (by simp) H0.out).mono fun _ _ ⟨a, b, c⟩ => ⟨a, by have := h1.step b c; exact this⟩
            have HI2 : Hid (Inv m (i + 1) n (g + 1) (xt + 1) (b) [] t []) := Lib.hid (HI1)
            clear HI h1
            go_wp2_with fail
            refine hsv.mono ?_
            rintro e w2 ⟨rfl, h2⟩
            clear hsv
            obtain ⟨w3, hw3⟩ : ∃ w3, w3 = w2.alloc (.cells #[.int .u8 2, .int .i64 xt, .int .i64 xc, .int .i64 (g : Int), .int .i64 (g : Int), .bool true, .int .i64 0] 33) := ⟨_, rfl⟩
            have hg3 : GtAt w3 w2.heap.size ⟨2, ⟨xt, xc, (g : Int)⟩, (g : Int), true, 0⟩ := by rw [hw3]; exact gtAt_new w2 ⟨2, ⟨xt, xc, (g : Int)⟩, (g : Int), true, 0⟩
            have h3 : Liv w w3 (Fs F w1 w2) C m false [] t [] := by rw [hw3]; exact h2.alloc _
            have c0 := hg3.c0
            have c1 := hg3.c1
            have c4 := hg3.c4
            have c5 := hg3.c5
            rw [hw3] at c0 c1 c4 c5
            clear h2 hg3
            go_wp2_with fail
            rw [← hw3]
            clear hw3
            go_roundw
            case rel => exact ⟨i + 1, n, (g + 1), _, _, _, _, _, _, by omega, by go_num, by go_num, by go_num, by first | rfl | go_num, by first | rfl | go_num, h3, HI2⟩
            case measure => simp [intOf]; omega
          · obtain ⟨rfl, t2, rfl, hlt2, hx1, hx2, HI1⟩ := HI.out.refill h0
            have z1 : ¬ x.t < a := by omega
            have z2 : ¬ (i : Int) ≤ x.t := by omega
            have z3 : decide (x.t < a) = false := by simp; omega
            have z4 : decide ((i : Int) ≤ x.t) = false := by simp; omega
            have z5 : IntKind.i64.wrap (x.t + 1) = x.t + 1 := by rw [IntKind.wrap_i64]; omega
            have hq : Calls Try.prog 6 #[.pointer (some ⟨C, 0, none⟩), .bool false] wr fun e w' => e = .returned (.int .u8 4) ∧ Liv w w' F C m false ((g : Int) :: t2) (x :: t) [] ∧ Below wr.heap.size wr w' := by
              have := hL.what false (by first | omega | (simp; done) | (simp at *; omega)) (by first | omega | (simp; done) | (simp at *; omega))
              rwa [show whatK false m ((g : Int) :: t2) (x :: t) [] false = 4 from by simp [whatK, toRecvK, h0]] at this
            have H0 := Lib.hid h0
            have HT2 := Lib.hid (putL_room hlt2 x.v)
            clear h0 hlt2
            go_wp2_with fail
            refine hq.mono ?_
            clear hq hL hd
            rintro e w1 ⟨rfl, h1, -⟩
            have hsv : Calls Try.prog 8 #[.pointer (some ⟨C, 0, none⟩), .bool false, .int .i64 (n : Int)] w1 fun e w' => e = .returned (.tuple #[.agg #[.int .u8 4, .int .i64 x.t, .int .i64 x.c, .int .i64 x.v, .int .i64 (g : Int), .bool true, .int .i64 x.v], .int .i64 0]) ∧ Liv w w' (Fs F w1 w') C m false (t2 ++ [x.v]) t [] :=
              (serve_refill (t := t) (R := []) (x := x) n w1 h1.ch (by omega) (by simp) H0.out (y := g) rfl).mono fun _ _ ⟨a, b, c⟩ => ⟨a, by have := h1.step b c; rwa [show putL m ((g : Int) :: t2).tail x.v = t2 ++ [x.v] from HT2.out] at this⟩
            have HI2 : Hid (Inv m (i + 1) n (g + 1) (x.t + 1) (b) (t2 ++ [x.v]) t []) := Lib.hid (HI1)
            clear HI h1
            go_wp2_with fail
            refine hsv.mono ?_
            rintro e w2 ⟨rfl, h2⟩
            clear hsv
            obtain ⟨w3, hw3⟩ : ∃ w3, w3 = w2.alloc (.cells #[.int .u8 4, .int .i64 x.t, .int .i64 x.c, .int .i64 x.v, .int .i64 (g : Int), .bool true, .int .i64 x.v] 33) := ⟨_, rfl⟩
            have hg3 : GtAt w3 w2.heap.size ⟨4, ⟨x.t, x.c, x.v⟩, (g : Int), true, x.v⟩ := by rw [hw3]; exact gtAt_new w2 ⟨4, ⟨x.t, x.c, x.v⟩, (g : Int), true, x.v⟩
            have h3 : Liv w w3 (Fs F w1 w2) C m false (t2 ++ [x.v]) t [] := by rw [hw3]; exact h2.alloc _
            have c0 := hg3.c0
            have c1 := hg3.c1
            have c4 := hg3.c4
            have c5 := hg3.c5
            rw [hw3] at c0 c1 c4 c5
            clear h2 hg3
            go_wp2_with fail
            rw [← hw3]
            clear hw3
            go_roundw
            case rel => exact ⟨i + 1, n, (g + 1), _, _, _, _, _, _, by omega, by go_num, by go_num, by go_num, by first | rfl | go_num, by first | rfl | go_num, h3, HI2⟩
            case measure => simp [intOf]; omega
        | nil =>
          cases buf with
          | cons y t2 =>
            obtain ⟨rfl, rfl, HI1⟩ := HI.out.get
            have hq : Calls Try.prog 6 #[.pointer (some ⟨C, 0, none⟩), .bool false] wr fun e w' => e = .returned (.int .u8 3) ∧ Liv w w' F C m false ((g : Int) :: t2) [] [] ∧ Below wr.heap.size wr w' := by
              have := hL.what false (by first | omega | (simp; done) | (simp at *; omega)) (by first | omega | (simp; done) | (simp at *; omega))
              rwa [show whatK false m ((g : Int) :: t2) [] [] false = 3 from by simp [whatK, toRecvK]] at this
            go_wp2_with fail
            refine hq.mono ?_
            clear hq hL hd
            rintro e w1 ⟨rfl, h1, -⟩
            have hsv : Calls Try.prog 8 #[.pointer (some ⟨C, 0, none⟩), .bool false, .int .i64 (n : Int)] w1 fun e w' => e = .returned (.tuple #[.agg #[.int .u8 3, .int .i64 0, .int .i64 0, .int .i64 0, .int .i64 (g : Int), .bool true, .int .i64 0], .int .i64 0]) ∧ Liv w w' (Fs F w1 w') C m false t2 [] [] :=
              (serve_get (R := []) n w1 h1.ch (by simp) (by simp) (by simp) (y := g) rfl).mono fun _ _ ⟨a, b, c⟩ => ⟨a, by have := h1.step b c; exact this⟩
            have HI2 : Hid (Inv m (i + 1) n (g + 1) (a) (b) t2 [] []) := Lib.hid (HI1)
            clear HI h1
            go_wp2_with fail
            refine hsv.mono ?_
            rintro e w2 ⟨rfl, h2⟩
            clear hsv
            obtain ⟨w3, hw3⟩ : ∃ w3, w3 = w2.alloc (.cells #[.int .u8 3, .int .i64 0, .int .i64 0, .int .i64 0, .int .i64 (g : Int), .bool true, .int .i64 0] 33) := ⟨_, rfl⟩
            have hg3 : GtAt w3 w2.heap.size ⟨3, .zero, (g : Int), true, 0⟩ := by rw [hw3]; exact gtAt_new w2 ⟨3, .zero, (g : Int), true, 0⟩
            have h3 : Liv w w3 (Fs F w1 w2) C m false t2 [] [] := by rw [hw3]; exact h2.alloc _
            have c0 := hg3.c0
            have c1 := hg3.c1
            have c4 := hg3.c4
            have c5 := hg3.c5
            rw [hw3] at c0 c1 c4 c5
            clear h2 hg3
            go_wp2_with fail
            rw [← hw3]
            clear hw3
            go_roundw
            case rel => exact ⟨i + 1, n, (g + 1), _, _, _, _, _, _, by omega, by go_num, by go_num, by go_num, by first | rfl | go_num, by first | rfl | go_num, h3, HI2⟩
            case measure => simp [intOf]; omega
          | nil =>
            have hq : Calls Try.prog 6 #[.pointer (some ⟨C, 0, none⟩), .bool false] wr fun e w' => e = .returned (.int .u8 6) ∧ Liv w w' F C m false [] [] R ∧ Below wr.heap.size wr w' := by
              have := hL.what false (by first | omega | (simp; done) | (simp at *; omega)) (by first | omega | (simp; done) | (simp at *; omega))
              rwa [show whatK false m [] [] R false = 6 from by simp [whatK, toRecvK]] at this
            go_wp2_with fail
            refine hq.mono ?_
            clear hq hL hd
            rintro e w1 ⟨rfl, h1, -⟩
            have hwt : Calls Try.prog 7 #[.pointer (some ⟨C, 0, none⟩), .bool false, .agg #[.int .i64 (i : Int), .int .i64 0, .int .i64 (n : Int)]] w1 fun e w' => e = .returned (.int .i64 0) ∧ Liv w w' (Fs F w1 w') C m false [] [] (R ++ [⟨i, 0, n⟩]) :=
              (wait_any (S := []) (R := R) false ⟨i, 0, n⟩ w1 h1.ch (HI.out.recvs.unlike n) (show (R : List Wt).length ≤ 900 by omega)).mono fun _ _ ⟨a, b, c⟩ => ⟨a, h1.step b c⟩
            have HI2 := Lib.hid (HI.out.waitR n)
            clear HI
            go_wp2_with fail
            refine hwt.mono ?_
            rintro e w2 ⟨rfl, h2⟩
            clear hwt
            go_wp2_with fail
            go_roundw
            case rel => exact ⟨i + 1, n, g, a, b, _, _, _, _, by omega, by go_num, by first | rfl | go_num, rfl, rfl, rfl, h2, HI2⟩
            case measure => simp [intOf]; omega
    · obtain rfl : i = len := by omega
      obtain ⟨hgn, hcnt⟩ := HI.out.count
      have hlS : S.length ≤ 200 := by have := HI.out.lenS; omega
      have hn2 : n ≤ 200 := by have := HI.out.ni; omega
      have hbl := hL.below
      obtain ⟨B, v0, v1, hat, -⟩ := hL.ch.at
      have hlt' : ¬ ((i : Int) < (i : Int)) := by omega
      have hsum : (((buf.length : Int) + (S.length : Int)) == ((n : Int) - (g : Int))) = true := by simp; omega
      have w1s : IntKind.i64.wrap ((buf.length : Int) + (S.length : Int)) = (buf.length : Int) + (S.length : Int) := by rw [IntKind.wrap_i64]; omega
      have w2s : IntKind.i64.wrap ((n : Int) - (g : Int)) = (n : Int) - (g : Int) := by rw [IntKind.wrap_i64]; omega
      have hbuf := cbuf_any wr hat
      clear HI hL hc hcnt
      go_wp2_with fail
      refine hbuf.mono ?_
      rintro e x1 ⟨u1, rfl, hr1, hb1⟩
      obtain ⟨a1, c1, rfl⟩ := owns_slice' hr1
      have hat1 := hat.below hb1
      have hrow := crow_any (s := true) x1 hat1.s hat1.sends (by omega)
      clear hbuf hr1 hat
      go_wp2_with fail
      refine hrow.mono ?_
      rintro e x2 ⟨u2, rfl, hr2, hb2⟩
      obtain ⟨a2, c2, rfl⟩ := owns_slice' hr2
      have hb02 := below_nx (below_nx hbl hb1 (Nat.le_refl _)) hb2 (Nat.le_refl _)
      clear hrow hr2 hat1 hb1 hb2 hbl
      go_wp2_with fail
      refine (alive_any _).mono ?_
      rintro e x3 ⟨rfl, hb3⟩
      have hb03 := below_nx hb02 hb3 (Nat.le_refl _)
      go_wp2_with fail
      go_ret
      exact ⟨rfl, hb03⟩
end Go.Proofs.Ytbelfcfdgkmnmaa
