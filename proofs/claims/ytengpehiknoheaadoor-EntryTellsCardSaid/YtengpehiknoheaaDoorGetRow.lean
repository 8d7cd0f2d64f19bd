/-
  The walks of octet.GetRow, tollbarref01.GetRow and tollbarref01.Same.
-/
import Derived.Test.YtengpehiknoheaaDoorRow
namespace Go.Proofs.YtengpehiknoheaaDoor
open Go.RowKit Oct

/-- N numbers more. -/
def rowG : Nat → List Nat → List UInt8 → List Nat × List UInt8 × Nat
  | 0, acc, l => (acc, l, 0)
  | N + 1, acc, l => if (getR l).2.2 ≠ 0 then ([], [], (getR l).2.2) else rowG N (acc ++ [(getR l).1]) (getR l).2.1
def rowR (n : Int) (l : List UInt8) : List Nat × List UInt8 × Nat := rowG n.toNat [] l

theorem numL_ne (u : Nat) : 1 ≤ (numL u).length := numL_pos u
theorem getR_shrinks {l : List UInt8} {u : Nat} {r : List UInt8} (h : getR l = (u, r, 0)) : r.length + 1 ≤ l.length := by
  have h1 := (getR_back h).1
  have h2 := numL_ne u
  have := congrArg List.length h1
  simp at this; omega

theorem info22 : (Tryd.prog.info? 23).map (fun i => (i.zero, i.size, i.bytes)) = some (some (.int .u64 0), 1, 8) := by kernel_rfl

def GetRowPost (w : World) (q : List Nat × List UInt8 × Nat) (e : Ending) (w' : World) : Prop :=
  ∃ v', e = .returned (.tuple #[v', .string ⟨q.2.1.toArray⟩, .int .i64 q.2.2]) ∧ w'.ownsRow w.heap.size 23 1 v' q.1.length (U64 q.1) ∧ Below w.heap.size w w'

theorem post_of {w w' : World} {q : List Nat × List UInt8 × Nat} {xs : List Nat} {l : List UInt8} {e : Nat} {v : Value} (h : q = (xs, l, e)) (h1 : w'.ownsRow w.heap.size 23 1 v xs.length (U64 xs)) (h2 : Below w.heap.size w w') :
    GetRowPost w q (.returned (.tuple #[v, .string ⟨l.toArray⟩, .int .i64 (e : Int)])) w' := by
  subst h; exact ⟨v, rfl, h1, h2⟩

theorem own_below {w w1 : World} {base : Nat} {e : TypeId} {size : Nat} {v : Value} {n : Nat} {xs : List Value} (h : w.ownsRow base e size v n xs) (hb : Below w.heap.size w w1) : w1.ownsRow base e size v n xs := by
  refine ⟨h.1, ?_⟩
  rcases h.2 with h2 | ⟨g, cap, cur, h1, h2, hg, h3⟩
  · exact .inl h2
  · exact .inr ⟨g, cap, cur, h1, h2, (hb.block g (Array.getElem?_eq_some_iff.mp hg).1).trans hg, h3⟩

theorem U64_snoc (xs : List Nat) (x : Nat) : U64 (xs ++ [x]) = U64 xs ++ [.int .u64 (x : Int)] := by simp [U64]

set_option maxRecDepth 100000 in
set_option maxHeartbeats 800000 in
theorem getRow_any (s : ByteArray) (n : Int) (w : World) (hs : s.size ≤ 1000000) (hn1 : -9223372036854775808 ≤ n) (hn2 : n ≤ 9223372036854775807) :
    Calls Tryd.prog 54 #[.string s, .int .i64 n] w (GetRowPost w (rowR n s.data.toList)) := by
  obtain ⟨i0, hi, hz0, hz1, hz2⟩ := info_parts info22
  obtain ⟨q, hq⟩ : ∃ q, q = rowR n s.data.toList := ⟨_, rfl⟩
  rw [← hq]
  have HQ := Lib.hid hq
  clear hq
  go_enter Tryd.func54, Tryd.ntmps54
  go_wp2_with fail
  go_loopw [4, 5, 6, 10] (fun lv rv ev i wr => ∃ (k : Nat) (acc : List Nat) (r : List UInt8), i = .int .i64 k ∧ k ≤ n.toNat ∧ rv = .string ⟨r.toArray⟩ ∧ ev = .int .i64 0 ∧ wr.ownsRow w.heap.size 23 1 lv acc.length (U64 acc) ∧
      acc.length + r.length ≤ 1000000 ∧ Hid (q = rowG (n.toNat - k) acc r) ∧ Below w.heap.size w wr) (fun _ _ _ i _ => n.toNat - (intOf i).toNat)
  case atStart => exact ⟨0, [], s.data.toList, rfl, Nat.zero_le _, rfl, rfl, World.ownsRow_nil _ _ _ _, by simpa using hs, HQ, Below.refl _ _⟩
  case round =>
    obtain ⟨k, acc, r, rfl, hk, rfl, rfl, hown, hal, HG, hbl⟩ := hrel
    by_cases hlt : k < n.toNat
    · have hlt' : (k : Int) < n := by omega
      obtain ⟨N, hN⟩ : ∃ N, n.toNat - k = N + 1 := ⟨n.toNat - k - 1, by omega⟩
      have hN' : n.toNat - (k + 1) = N := by omega
      obtain ⟨u, r', e, hr⟩ : ∃ u r' e, getR r = (u, r', e) := ⟨_, _, _, rfl⟩
      have hu : u < 18446744073709551616 := by have := getR_lt r; rwa [hr] at this
      have HR := Lib.hid hr
      by_cases he : e = 0
      · subst he
        have hsh := getR_shrinks hr
        have HG' : Hid (q = rowG N (acc ++ [u]) r') := Lib.hid (by rw [HG.out, hN, rowG, hr]; simp)
        clear hr hN HG
        have hsz : (⟨r.toArray⟩ : ByteArray).size ≤ maxLen := by simp [ByteArray.size, maxLen]; omega
        go_wp2_with fail
        refine (get_at _ _ hsz (by simpa using HR)).mono ?_
        rintro x w1 ⟨rfl, hb'⟩
        have hown1 := own_below hown hb'
        have hbl1 := below_next hbl hb'
        have hbw : w.heap.size ≤ w1.heap.size := hbl1.size
        clear hown hbl hb'
        go_wp2_with (at_builtin; refine wpList_append_own _ rfl _ _ 82 rfl w.heap.size 23 i0 (.int .u64 0) 1 8 Tryd.underlying82 hi hz0 hz1 hz2 rfl (by decide) _ _ _ rfl (hown1.alloc _) ⟨w1.heap.size, 0, none⟩ 1 1 [.int .u64 (u : Int)] rfl rfl ?c1 ?c2 ?c3 ?c4 ?c5 ?_)
        case c1 => exact cell_one_new _ _ _
        case c2 => first | rfl | (intro x hx; simp at hx; subst hx; rfl)
        case c3 => unfold maxLen; omega
        case c4 => omega
        case c5 => first | omega | (simp; omega)
        intro v' w2 hown' hgrow _
        have hb2 : Below w.heap.size w w2 := (hbl1.alloc hbw _).grown hgrow (by simp; omega) (fun k hk => by have := (hown1.lt k hk).1; omega)
        have HU := Lib.hid (U64_snoc acc u)
        have hown2 : w2.ownsRow w.heap.size 23 1 v' (acc ++ [u]).length (U64 (acc ++ [u])) := by rw [HU.out]; simpa using hown'
        clear hown' hgrow hown1
        go_wp2_with fail
        go_roundw
        case rel => exact ⟨k + 1, _, _, by go_num, by omega, rfl, rfl, hown2, by simp; omega, by rw [hN']; exact HG', hb2⟩
        case measure => simp [intOf]; omega
      · have hre := getR_err hr he
        obtain ⟨rfl, rfl⟩ := hre
        have HF : Hid (q = ([], [], e)) := Lib.hid (by rw [HG.out, hN, rowG, hr]; simp [he])
        have he' : ((e : Int) == 0) = false := by simp; omega
        have he'' : ((e : Int) != 0) = true := by simp; omega
        clear hr hN HG he
        have hsz : (⟨r.toArray⟩ : ByteArray).size ≤ maxLen := by simp [ByteArray.size, maxLen]; omega
        go_wp2_with fail
        refine (get_at _ _ hsz (by simpa using HR)).mono ?_
        rintro x w1 ⟨rfl, hb'⟩
        go_wp2_with fail
        go_ret3
        exact post_of HF.out (World.ownsRow_nil _ _ _ _) (below_next hbl hb')
    · have hlt' : ¬ (k : Int) < n := by omega
      have hN : n.toNat - k = 0 := by omega
      have HF : Hid (q = (acc, r, 0)) := Lib.hid (by rw [HG.out, hN, rowG])
      go_wp2_with fail
      go_ret3
      exact post_of HF.out hown hbl
end Go.Proofs.YtengpehiknoheaaDoor
