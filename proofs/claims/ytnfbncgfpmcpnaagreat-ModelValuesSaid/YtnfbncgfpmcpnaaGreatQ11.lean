/-
  ReplayNext: its walks, part 11.
-/
import Derived.Test.YtnfbncgfpmcpnaaGreatQ10
set_option maxRecDepth 100000
set_option maxHeartbeats 12800000
namespace Go.Proofs.YtnfbncgfpmcpnaaGreat.Ent
open Go.RowKit Go.Shelf SetM
attribute [local go_sem] Oper.semAt_some
def nsTo:Nat->Nat->List (Fin 13)
 | 0,_=>[]
 | n+1,m=>nsTo n m ++ (if m.testBit n=true then [Fin.ofNat 13 n] else [])
theorem nsTo_hit {n m:Nat} (h:m.testBit n=true):nsTo (n+1) m=nsTo n m ++ [Fin.ofNat 13 n]:=by rw [nsTo,if_pos h]
theorem nsTo_miss {n m:Nat} (h:m.testBit n=false):nsTo (n+1) m=nsTo n m:=by rw [nsTo,if_neg (by rw [h];decide)];simp
theorem nsTo_len (n m:Nat):(nsTo n m).length<=n:=by
 induction n with
 | zero=>simp [nsTo]
 | succ n ih=>rw [nsTo];split <;> simp <;> omega
theorem nsTo_prefix (m i j:Nat):nsTo i m <+: nsTo (i+j) m:=by
 induction j with
 | zero=>exact List.prefix_refl _
 | succ j ih=>exact ih.trans ⟨_,rfl⟩
theorem val_of13 {n:Nat} (h:n<13):(Fin.ofNat 13 n).val=n:=Nat.mod_eq_of_lt h
def nsOf (k:Nat):List (Fin 13):=nsTo 13 (maskN k)
theorem nsOf_map (k:Nat):(nsOf k).map (·.val)=namesOf k:=by
 cases h:known k with
 | false=>unfold nsOf;rw [namesOf_out h,maskN_out h];decide
 | true=>rcases known_cases h with rfl | rfl | rfl | rfl | rfl | rfl | rfl | rfl | rfl | rfl | rfl | rfl | rfl | rfl | rfl | rfl | rfl <;> decide
def KdAt (W:World) (B:Nat) (wd:ByteArray) (m:Nat):Prop:=Two W B 136 (.string wd) (.int .u64 (m:Int))
def KeepK (n:Nat) (W W':World):Prop:=W'.heap[n]?=W.heap[n]?
section
variable {W W':World} {n:Nat} {wd:ByteArray} {m:Nat}
theorem KdAt.keep (h:KdAt W n wd m) (k:KeepK n W W'):KdAt W' n wd m:=Two.of_block h k
theorem KeepK.trans {A B C:World} (h:KeepK n A B) (k:KeepK n B C):KeepK n A C:=Eq.trans k h
theorem KdAt.lt (h:KdAt W n wd m):n<W.heap.size:=Two.lt h
theorem KdAt.but (h:KdAt W n wd m) {S:List Nat} (hb:But S W W') (hn:n ∉ S):KdAt W' n wd m:=Two.of_block h (hb.block n (Two.lt h) hn)
theorem KdAt.keeps (h:KdAt W n wd m) {S:List Nat} (hb:But S W W') (hn:n ∉ S):KeepK n W W':=hb.block n (Two.lt h) hn
theorem keepK_putObj (W:World) (l:Nat) (o o':Obj) (hn:n<l) (h:W.heap[l]?=some o) (_:o.isCells=false):KeepK n W (W.putObj l o'):=
 (grownBy_putObj' W l o').block n (by have:=(Array.getElem?_eq_some_iff.1 h).1;omega) (fun e=>by have:=Option.some.inj e;omega)
end
theorem named_any (wd:ByteArray) (m:Nat) (w:World) :
  Calls Tryz.prog 95 #[.agg #[.string wd,.int .u64 (m:Int)]] w fun e w'=>e=.returned (.func (.func 134) #[] #[.pointer (some ⟨w.heap.size,0,none⟩)])/\w'=w.alloc (.cells #[.string wd,.int .u64 (m:Int)] 136):=by
 go_enter Tryz.func95,Tryz.ntmps95
 go_wp2_with fail
 go_ret
 exact ⟨rfl,rfl⟩
theorem has_bit {m i:Nat} (hi:i<13):has m (i:Int)=m.testBit i:=by
 unfold has
 rw [decide_eq_true (by omega),Bool.true_and,Int.toNat_natCast]
theorem named1_in (n:Nat) (hn:2<=n) (l n0:Nat) (wd:ByteArray) (m:Nat) (hm:m<18446744073709551616) (J Jx:List (Fin 13)->World->Prop)
  (hY:∀ pre (p:Fin 13) W,J pre W->pre.length<13->YieldAt Fence.wide (n - 1) Tryz.prog l #[.int .i64 (p.val:Int)] W fun e W'=>
   (e=.returned (.bool true)/\J (pre ++ [p]) W'/\KeepK n0 W W') \/ (e=.returned (.bool false)/\Jx (pre ++ [p]) W'))
  (W:World) (hN:KdAt W n0 wd m) (h0:J [] W) :
  CallsIn Fence.wide n Tryz.prog 134 #[.func (.yield l) #[] #[],.pointer (some ⟨n0,0,none⟩)] W fun e W'=>(∃ v,e=.returned v) /\
   ((∃ ys,ys=nsTo 13 m/\J ys W') \/ (∃ pre,pre <+: nsTo 13 m/\Jx pre W')):=by
 refine callsIn_of_wp Tryz.func134 rfl trivial ?_ rfl
 simp only [Tryz.ntmps134,List.size_toArray,List.length_cons,List.length_nil,Nat.reduceAdd,Nat.reduceSub,Array.replicate_succ,Array.replicate_zero,List.push_toArray,List.append_toArray,List.nil_append,List.cons_append]
 gi_wp2
 gi_loopw [4] (fun iv wr=>∃ i:Nat,i<=13/\iv=.int .i64 i/\J (nsTo i m) wr/\KdAt wr n0 wd m) (fun iv _=>13 - (intOf iv).toNat)
 case atStart=>exact ⟨0,Nat.zero_le _,rfl,h0,hN⟩
 case round=>
  clear hN h0
  obtain ⟨i,hi,rfl,hJi,hN⟩:=hrel
  by_cases hlt:i<13
  ·have hlt':(i:Int)<13:=by omega
   have i0:(0:Int)<=(i:Int):=by omega
   have c1:=Two.c1 hN
   have hcall:=has_any m (i:Int) hm (by omega) (by omega) wr
   rw [has_bit hlt] at hcall
   have hval:((Fin.ofNat 13 i).val:Int)=(i:Int):=by rw [val_of13 hlt]
   obtain ⟨fn,tmps,assign,body,hy,hR⟩:=hY (nsTo i m) (Fin.ofNat 13 i) wr hJi (by have:=nsTo_len i m;omega)
   rw [hval] at hy
   cases hb:m.testBit i with
   | true=>
    have HT:=Lib.hid (nsTo_hit hb)
    have HP:Hid (nsTo i m ++ [Fin.ofNat 13 i] <+: nsTo 13 m):=Lib.hid (by
     have h2:=nsTo_prefix m (i+1) (12 - i)
     rw [show i+1+(12 - i)=13 by omega,HT.out] at h2
     exact h2)
    rw [hb] at hcall
    clear hb
    gi_wp2_with (first | (refine ⟨trivial,fun _=>by omega,?_⟩;gi_at_call 135;refine (callsIn_wide.2 hcall).mono ?_;rintro e w' ⟨rfl,rfl⟩))
    refine ⟨fun _=>by omega,hR.mono ?_⟩
    clear hcall hy hR
    rintro e W3 (⟨rfl,hJ3,hK⟩ | ⟨rfl,hJx3⟩)
    ·have hN3:=hN.keep hK
     clear hN hK
     gi_wp2
     go_roundw
     case rel=>exact ⟨i+1,by omega,by go_num,by rw [HT.out];exact hJ3,hN3⟩
     case measure=>simp [intOf];omega
    ·gi_wp2
     refine bodyPost_ret (results_none rfl _ _ _) rfl ?_
     exact ⟨⟨_,rfl⟩,.inr ⟨_,HP.out,hJx3⟩⟩
   | false=>
    have HT:=Lib.hid (nsTo_miss hb)
    rw [hb] at hcall
    clear hb hy hR
    gi_wp2_with (first | (refine ⟨trivial,fun _=>by omega,?_⟩;gi_at_call 135;refine (callsIn_wide.2 hcall).mono ?_;rintro e w' ⟨rfl,rfl⟩))
    refine ⟨fun _ h=>(by cases h),?_⟩
    gi_wp2
    go_roundw
    case rel=>exact ⟨i+1,by omega,by go_num,by rw [HT.out];exact hJi,hN⟩
    case measure=>simp [intOf];omega
  ·obtain rfl:i=13:=by omega
   gi_wp2
   go_end0
   exact ⟨⟨_,rfl⟩,.inl ⟨_,rfl,hJi⟩⟩
theorem iter_named {w:World} {n0:Nat} {wd:ByteArray} {m:Nat} (hm:m<18446744073709551616) (hN:KdAt w n0 wd m) :
  SeqStopsK Fence.wide 3 Tryz.prog 134 #[.pointer (some ⟨n0,0,none⟩)] (fun p:Fin 13=>#[Value.int .i64 (p.val:Int)]) (KeepK n0) (fun xs=>xs=nsTo 13 m) (fun pre=>pre <+: nsTo 13 m) 13 w:=
 fun l J Jx W hW _ _ hY h0=>named1_in 3 (by omega) l n0 wd m hm J Jx hY W (hN.but (But.of_below hW []) (by simp)) h0
open Go.RowKit Go.Shelf SetM
attribute [local go_sem] Oper.semAt_some
theorem cells_kept {A W':World} {row:Option Nat} (hg:A.grownBy W' row) (hr:∀ r,row=some r->∃ o,A.heap[r]?=some o/\o.isCells=false) {k:Nat} {cs:Array Value} {t:TypeId} {z:Nat × Nat} (hs:A.heap[k]?=some (.cells cs t z)):W'.heap[k]?=A.heap[k]?:=
 hg.block k (Array.getElem?_eq_some_iff.1 hs).1 (fun e=>by
  obtain ⟨o,ho,hc⟩:=hr k e.symm
  rw [hs] at ho
  obtain rfl:=Option.some.inj ho
  cases hc)
theorem blk_abides {β:Type} (B:Nat) (t:TypeId) (cs:β->Array Value) (z:Nat × Nat) (m:Nat):OwnFrom m (fun (s:β) W=>W.heap[B]?=some (.cells (cs s) t z)):=
 Own.from (I:=fun (s:β) (W:World)=>W.heap[B]?=some (.cells (cs s) t z)) (fun _ _ _ _ hs hg hr=>(cells_kept hg hr hs).trans hs) m
theorem keepsFrom_but {W W':World} {S:List Nat} {B:Nat} (h:But S W W') (hS:∀ k ∈ S,k<B):KeepsFrom B W W':=
 ⟨h.size,fun k o hk hko _=>(h.block k (Array.getElem?_eq_some_iff.1 hko).1 (fun hm=>by have:=hS k hm;omega)).trans hko⟩
theorem eq_run (y x:En) (W:World):(binOp .eql 39 (.agg #[.int .i64 y.a,.int .u8 (y.k:Int),.int .i64 y.w,.int .i64 y.t,.int .i64 y.p,.int .i64 y.c,.int .i64 y.b,.int .i64 y.q,.int .i64 y.v,.int .i64 y.u,.bool y.o,.int .i64 y.e,.int .u64 (y.s:Int)]) (.agg #[.int .i64 x.a,.int .u8 (x.k:Int),.int .i64 x.w,.int .i64 x.t,.int .i64 x.p,.int .i64 x.c,.int .i64 x.b,.int .i64 x.q,.int .i64 x.v,.int .i64 x.u,.bool x.o,.int .i64 x.e,.int .u64 (x.s:Int)])).run Tryz.prog W=.ok (.bool (En.eq y x)) W:=by
 have u:=Tryz.underlying39
 simp [go_sem]
 cases h:En.eq y x with
 | true=>
  obtain rfl:=En.eq_iff.1 h
  simp
 | false=>
  have hne:y ≠ x:=fun e=>by rw [En.eq_iff.2 e] at h;cases h
  by_cases q_a:y.a=x.a
  case neg=>simp only [if_neg q_a]
  simp only [if_pos q_a]
  by_cases q_k:(y.k:Int)=(x.k:Int)
  case neg=>simp only [if_neg q_k]
  simp only [if_pos q_k]
  by_cases q_w:y.w=x.w
  case neg=>simp only [if_neg q_w]
  simp only [if_pos q_w]
  by_cases q_t:y.t=x.t
  case neg=>simp only [if_neg q_t]
  simp only [if_pos q_t]
  by_cases q_p:y.p=x.p
  case neg=>simp only [if_neg q_p]
  simp only [if_pos q_p]
  by_cases q_c:y.c=x.c
  case neg=>simp only [if_neg q_c]
  simp only [if_pos q_c]
  by_cases q_b:y.b=x.b
  case neg=>simp only [if_neg q_b]
  simp only [if_pos q_b]
  by_cases q_q:y.q=x.q
  case neg=>simp only [if_neg q_q]
  simp only [if_pos q_q]
  by_cases q_v:y.v=x.v
  case neg=>simp only [if_neg q_v]
  simp only [if_pos q_v]
  by_cases q_u:y.u=x.u
  case neg=>simp only [if_neg q_u]
  simp only [if_pos q_u]
  by_cases q_o:y.o=x.o
  case neg=>simp only [if_neg q_o]
  simp only [if_pos q_o]
  by_cases q_e:y.e=x.e
  case neg=>simp only [if_neg q_e]
  simp only [if_pos q_e]
  by_cases q_s:(y.s:Int)=(x.s:Int)
  case neg=>simp only [if_neg q_s]
  simp only [if_pos q_s]
  have r1:y.k=x.k:=by omega
  have r12:y.s=x.s:=by omega
  clear q_k q_s
  exact absurd (by
   cases y;cases x
   simp only at q_a q_w q_t q_p q_c q_b q_q q_v q_u q_o q_e r1 r12
   subst q_a q_w q_t q_p q_c q_b q_q q_v q_u q_o q_e r1 r12
   rfl) hne
structure Got (w W:World) (x:En) (wd:ByteArray) (m:Nat) (b:Bool) (y:En):Prop where
 x:EnAt W (w.heap.size) x
 r:Two W (w.heap.size+1) 136 (.string ⟨#[]⟩) (.int .u64 0)
 k:Two W (w.heap.size+1+1) 136 (.string wd) (.int .u64 (m:Int))
 i:Boxed W (w.heap.size+1+1+1) 4 (.bool b)
 y:EnAt W (w.heap.size+1+1+1+1) y
 n:KdAt W (w.heap.size+1+1+1+1+1) wd m
 below:Below w.heap.size w W
section
variable {w W W':World} {x y:En} {wd:ByteArray} {m:Nat} {b:Bool}
theorem Got.lt (h:Got w W x wd m b y):w.heap.size+1+1+1+1+1<W.heap.size:=h.n.lt
theorem Got.fresh (h:Got w W x wd m b y) (hb:But [] W W'):Got w W' x wd m b y:=
 ⟨h.x.but hb (by simp),h.r.of_block (hb.block _ h.r.lt (by simp)),h.k.of_block (hb.block _ h.k.lt (by simp)),(hb.block _ (Boxed.lt h.i) (by simp)).trans h.i,h.y.but hb (by simp),h.n.but hb (by simp),h.below.trans (hb.below h.below.size (by simp))⟩
theorem Got.setI (h:Got w W x wd m b y) (z:Bool):Got w (W.setCell ⟨w.heap.size+1+1+1,0,none⟩ (.bool z)) x wd m z y:=by
 have hb:=(But.refl [w.heap.size+1+1+1] W).set (p:=⟨w.heap.size+1+1+1,0,none⟩) (.inl (by simp)) (.bool z)
 exact ⟨h.x.but hb (by simp <;> omega),h.r.of_block (hb.block _ h.r.lt (by simp <;> omega)),h.k.of_block (hb.block _ h.k.lt (by simp <;> omega)),Boxed.set _ h.i,h.y.but hb (by simp),h.n.but hb (by simp <;> omega),h.below.trans (hb.below h.below.size (by simp <;> omega))⟩
theorem Got.setY (h:Got w W x wd m b y) (z:En):Got w (put13 W (w.heap.size+1+1+1+1) z) x wd m b z:=by
 have hb:=but_put13 W (w.heap.size+1+1+1+1) z
 exact ⟨h.x.but hb (by simp <;> omega),h.r.of_block (hb.block _ h.r.lt (by simp <;> omega)),h.k.of_block (hb.block _ h.k.lt (by simp <;> omega)),(hb.block _ (Boxed.lt h.i) (by simp)).trans h.i,h.y.put13 z,h.n.but hb (by simp),h.below.trans (hb.below h.below.size (by simp <;> omega))⟩
theorem Got.abides {β:Type} (w:World) (x:En) (wd:ByteArray) (m:Nat) (f:β->Bool) (g:β->En) (base:Nat) (hm:w.heap.size<=base):OwnFrom base (fun (s:β) W=>Got w W x wd m (f s) (g s)):=fun s A W' row hs hg hr=>by
 have hk:∀ {k:Nat} {cs:Array Value} {t:TypeId} {z:Nat × Nat},A.heap[k]?=some (.cells cs t z)->W'.heap[k]?=A.heap[k]?:=fun h=>cells_kept hg (fun r e=>(hr r e).2) h
 exact ⟨hs.x.of_block (hk hs.x),hs.r.of_block (hk hs.r),hs.k.of_block (hk hs.k),(hk hs.i).trans hs.i,hs.y.of_block (hk hs.y),Two.of_block hs.n (hk hs.n),ownFrom_below (β:=Unit) (Nat.le_refl _) hm () A W' row hs.below hg hr⟩
end
theorem kindOf_end (w W:World) (D:Nat) (T:Array Value) (r:Bool) (x y:En) (wd:ByteArray) (m:Nat) (b:Bool) (h2:T[4]?.getD undef=.pointer (some ⟨w.heap.size+1,0,none⟩)) (h3:T[5]?.getD undef=.bool r) (hb:r=okB x)
  (hG:Got w W x wd m b y) (hw:w.heap.size<=D) (hK:W.heap[D]?=some (.deferred (some []))) :
  bodyPostM Fence.wide 4 Tryz.prog Tryz.f58 (fun e w'=>e=.returned (.tuple #[.agg #[.string wd,.int .u64 (m:Int)],.bool (okB x)])/\Below w.heap.size w w') .ret
   { tmps:=T,defers:=[{ target:=Target.collected D,args:=#[] }] } ((W.setCell ⟨w.heap.size+1,0,none⟩ (.string wd)).setCell ⟨w.heap.size+1,1,none⟩ (.int .u64 (m:Int))).drew:=by
 have hk:=(((KeepsOthers.setCell W ⟨w.heap.size+1,0,none⟩ (.string wd)).trans (KeepsOthers.setCell _ ⟨w.heap.size+1,1,none⟩ (.int .u64 (m:Int)))).trans (KeepsOthers.drew _)).same D _ hK rfl
 have hb5:=((But.refl [w.heap.size+1] W).set (p:=⟨w.heap.size+1,0,none⟩) (.inl (by simp)) (.string wd)).set (p:=⟨w.heap.size+1,1,none⟩) (.inl (by simp)) (.int .u64 (m:Int))
 have hT5:=hG.r.set (.string wd) (.int .u64 (m:Int))
 have hB5:=hG.below.trans (hb5.below hG.below.size (by simp))
 clear hb5
 generalize (W.setCell ⟨w.heap.size+1,0,none⟩ (.string wd)).setCell ⟨w.heap.size+1,1,none⟩ (.int .u64 (m:Int))=W5 at hk hT5 hB5 ⊢
 refine ⟨by simp,.inl ⟨_,_,rfl,run_takeDeferred hk,?_⟩⟩
 have c0:=cell_kept (show W5.drew.cell? ⟨w.heap.size+1,0,none⟩=some (.string wd) from hT5.c0) (grownBy_putObj' _ D (.deferred none)) (fun r e=>by cases e;exact ⟨_,hk,rfl⟩)
 have c1:=cell_kept (show W5.drew.cell? ⟨w.heap.size+1,1,none⟩=some (.int .u64 (m:Int)) from hT5.c1) (grownBy_putObj' _ D (.deferred none)) (fun r e=>by cases e;exact ⟨_,hk,rfl⟩)
 refine ⟨.tuple #[.agg #[.string wd,.int .u64 (m:Int)],.bool r],?_,by rw [hb],?_⟩
 ·simp [results,Tryz.f58,go_sem,c0,c1,h2,h3]
 ·exact (below_drewN hB5 1).trans (belowK_b (w:=w) (Nat.le_refl _) _ D _ _ hw hk rfl rfl)
theorem kindOf_any (M:Nat) (x:En) (hx:x.ok) (w:World) (hM:KMap w M kindsL) :
  Calls Tryz.prog 58 #[.map (some M),x.val] w fun e w'=>e=.returned (.tuple #[kinV x.k,.bool (okB x)])/\Below w.heap.size w w':=by
 obtain ⟨wd,hwd⟩:∃ wd:ByteArray,wd=⟨(wordL x.k).toArray⟩:=⟨_,rfl⟩
 obtain ⟨m,hm⟩:∃ m,m=maskN x.k:=⟨_,rfl⟩
 have hm64:m<18446744073709551616:=by have:=maskN_lt x.k;omega
 have HN:Hid ((nsTo 13 m).map (·.val)=namesOf x.k):=Lib.hid (by rw [hm];exact nsOf_map x.k)
 have hkv:kinV x.k=.agg #[.string wd,.int .u64 (m:Int)]:=by rw [hwd,hm];rfl
 have hlk:=fun W (hW:But [] w W)=>(hM.fresh hW).look hx.k
 rw [hkv] at hlk ⊢
 clear hkv hwd hm
 have HX:=Lib.hid hx
 unfold En.val
 refine (callsIn_wide (n:=4)).1 ?_
 refine callsIn_of_wp_marks Tryz.func58 rfl trivial ?_ rfl
 simp only [Tryz.ntmps58,List.size_toArray,List.length_cons,List.length_nil,Nat.reduceAdd,Nat.reduceSub,Array.replicate_succ,Array.replicate_zero,List.push_toArray,List.append_toArray,List.nil_append,List.cons_append]
 refine wpIn_wide.2 ?_
 have hb2:∀ o1 o2,But [] w ((w.alloc o1).alloc o2):=fun o1 o2=>((But.refl [] w).alloc o1).alloc o2
 have l2:=fun o1 o2=>hlk _ (hb2 o1 o2)
 go_wp2_with fail
 refine (named_any wd m _).mono ?_
 rintro e w6 ⟨rfl,hw6⟩
 have hG:Got w w6 x wd m (known x.k) (En.only x.a x.k):=by
  obtain ⟨W1,h1⟩:∃ W1,W1=w.alloc (.cells #[.int .i64 x.a,.int .u8 (x.k:Int),.int .i64 x.w,.int .i64 x.t,.int .i64 x.p,.int .i64 x.c,.int .i64 x.b,.int .i64 x.q,.int .i64 x.v,.int .i64 x.u,.bool x.o,.int .i64 x.e,.int .u64 (x.s:Int)] 39):=⟨_,rfl⟩
  obtain ⟨W2,h2⟩:∃ W2,W2=W1.alloc (.cells #[.string ⟨#[]⟩,.int .u64 0] 136):=⟨_,rfl⟩
  obtain ⟨W3,h3⟩:∃ W3,W3=W2.alloc (.cells #[.string wd,.int .u64 (m:Int)] 136):=⟨_,rfl⟩
  obtain ⟨W4,h4⟩:∃ W4,W4=W3.alloc (.cells #[.bool (known x.k)] 4):=⟨_,rfl⟩
  obtain ⟨W5,h5⟩:∃ W5,W5=W4.alloc (.cells #[.int .i64 x.a,.int .u8 (x.k:Int),.int .i64 0,.int .i64 0,.int .i64 0,.int .i64 0,.int .i64 0,.int .i64 0,.int .i64 0,.int .i64 0,.bool false,.int .i64 0,.int .u64 0] 39):=⟨_,rfl⟩
  have e6:w6=W5.alloc (.cells #[.string wd,.int .u64 (m:Int)] 136):=by rw [hw6,h5,h4,h3,h2,h1]
  have b1:But [] w W1:=by rw [h1];exact (But.refl [] w).alloc _
  have b2:But [] W1 W2:=by rw [h2];exact (But.refl [] W1).alloc _
  have b3:But [] W2 W3:=by rw [h3];exact (But.refl [] W2).alloc _
  have b4:But [] W3 W4:=by rw [h4];exact (But.refl [] W3).alloc _
  have b5:But [] W4 W5:=by rw [h5];exact (But.refl [] W4).alloc _
  have b6:But [] W5 w6:=by rw [e6];exact (But.refl [] W5).alloc _
  have s1:W1.heap.size=w.heap.size+1:=by rw [h1];simp
  have s2:W2.heap.size=w.heap.size+1+1:=by rw [h2];simp [s1]
  have s3:W3.heap.size=w.heap.size+1+1+1:=by rw [h3];simp [s2]
  have s4:W4.heap.size=w.heap.size+1+1+1+1:=by rw [h4];simp [s3]
  have s5:W5.heap.size=w.heap.size+1+1+1+1+1:=by rw [h5];simp [s4]
  have x1:EnAt W1 w.heap.size x:=by rw [h1];exact enAt_new w x
  have x2:Two W2 (w.heap.size+1) 136 (.string ⟨#[]⟩) (.int .u64 0):=by rw [<- s1,h2];exact two_new W1 _ _ _
  have x3:Two W3 (w.heap.size+1+1) 136 (.string wd) (.int .u64 (m:Int)):=by rw [<- s2,h3];exact two_new W2 _ _ _
  have x4:Boxed W4 (w.heap.size+1+1+1) 4 (.bool (known x.k)):=by rw [<- s3,h4];exact Boxed.new W3 _ _
  have x5:EnAt W5 (w.heap.size+1+1+1+1) (En.only x.a x.k):=by rw [<- s4,h5];exact enAt_new W4 (En.only x.a x.k)
  have x6:KdAt w6 (w.heap.size+1+1+1+1+1) wd m:=by rw [<- s5,e6];exact two_new W5 _ _ _
  have b36:=((b4.next b5).next b6)
  exact ⟨x1.but ((b2.next b3).next b36) (by simp),x2.of_block ((b3.next b36).block _ x2.lt (by simp)),x3.of_block (b36.block _ x3.lt (by simp)),((b5.next b6).block _ (Boxed.lt x4) (by simp)).trans x4,x5.but b6 (by simp),x6,(((b1.next b2).next b3).next b36).below (Nat.le_refl _) (by simp)⟩
 have hlt6:=hG.lt
 clear hlk l2 hb2 hw6 hM
 go_wp2_with fail
 refine (wpIn_wide (n:=4)).1 ?_
 refine wpIn_rangeFunc_ownG rfl (by omega) (gf:=134) (lb:=#[.pointer (some ⟨w.heap.size+1+1+1+1+1,0,none⟩)]) rfl trivial (enters_of Tryz.func134 (by kernel_rfl) rfl)
  (iter_named hm64 hG.n) (fun h k=>KeepK.trans h k) (fun W l o o' hl ho hc _=>keepK_putObj W l o o' (by omega) ho hc) (Below.refl _ _) (fun _=>rfl)
  (fun pre W=>Got w W x wd m ((pre.map (·.val)).foldl (mayStep x) (known x.k)) ((pre.map (·.val)).foldl (bareStep x) (En.only x.a x.k)))
  (fun _ _ _=>False)
  (Got.abides w x wd m (fun pre:List (Fin 13)=>(pre.map (·.val)).foldl (mayStep x) (known x.k)) (fun pre:List (Fin 13)=>(pre.map (·.val)).foldl (bareStep x) (En.only x.a x.k)) _ (by omega))
  (fun _ _ _ _ _ hs _ _=>hs)
  hG ?a1 ?assign ?body ?done ?stop
 case assign=>
  intro l p W K hK
  gi_wp2
  exact hK
 case body=>
  rintro l pre p W hG hlt
  obtain ⟨b,hb⟩:∃ b,b=(pre.map (·.val)).foldl (mayStep x) (known x.k):=⟨_,rfl⟩
  obtain ⟨y,hy⟩:∃ y,y=(pre.map (·.val)).foldl (bareStep x) (En.only x.a x.k):=⟨_,rfl⟩
  obtain ⟨v,hv⟩:∃ v,v=x.get p.val:=⟨_,rfl⟩
  obtain ⟨z,hz⟩:∃ z,z=y.put p.val v:=⟨_,rfl⟩
  have HZ:Hid (((pre ++ [p]).map (·.val)).foldl (bareStep x) (En.only x.a x.k)=z):=Lib.hid (by rw [hz,hv,hy];simp [bareStep])
  have HB:Hid (((pre ++ [p]).map (·.val)).foldl (mayStep x) (known x.k)=(b && mayN p.val v)):=Lib.hid (by rw [hv,hb];simp [mayStep])
  rw [<- hb, <- hy] at hG
  have ht:=tell_any x p.val hx p.isLt W
  rw [<- hv] at ht
  have hv64:I64b v:=by rw [hv];exact hx.get p.val
  have hmay:=fun W=>may_any p.val v p.isLt W
  have hwith:=fun W=>with_any y p.val v hv64 p.isLt W
  rw [<- hz] at hwith
  unfold En.val at ht hwith
  clear hb hy hv hz
  obtain ⟨u,hu⟩:∃ u,u=mayN p.val v:=⟨_,rfl⟩
  rw [<- hu] at hmay HB
  clear hu
  have x0:=hG.x.c0;have x1:=hG.x.c1;have x2:=hG.x.c2;have x3:=hG.x.c3;have x4:=hG.x.c4;have x5:=hG.x.c5;have x6:=hG.x.c6;have x7:=hG.x.c7;have x8:=hG.x.c8;have x9:=hG.x.c9;have x10:=hG.x.c10;have x11:=hG.x.c11;have x12:=hG.x.c12
  have hlt7:=hG.lt
  cases b with
  | true=>
   gi_wp2_with (first
    | (refine ⟨trivial,?_⟩;gi_at_call 96;refine (callsIn_wide.2 ht).mono ?_;rintro e W1 ⟨rfl,hb1⟩;have hG1:=hG.fresh (But.of_below hb1 []);have i1:=Boxed.cell hG1.i)
    | (refine ⟨trivial,?_⟩;gi_at_call 97;refine (callsIn_wide.2 (hmay _)).mono ?_;rintro e W2 ⟨rfl,hb2⟩;have hG2:=hG1.fresh (But.of_below hb2 []);have i2:=Boxed.frozen hG2.i;have hG3:=hG2.setI u;have i3:=Boxed.cell hG2.i;have y0:=hG3.y.c0;have y1:=hG3.y.c1;have y2:=hG3.y.c2;have y3:=hG3.y.c3;have y4:=hG3.y.c4;have y5:=hG3.y.c5;have y6:=hG3.y.c6;have y7:=hG3.y.c7;have y8:=hG3.y.c8;have y9:=hG3.y.c9;have y10:=hG3.y.c10;have y11:=hG3.y.c11;have y12:=hG3.y.c12)
    | (refine ⟨trivial,?_⟩;gi_at_call 98;refine (callsIn_wide.2 (hwith _)).mono ?_;rintro e W4 ⟨rfl,hb4⟩;have hG4:=hG3.fresh (But.of_below hb4 []);have f0:=hG4.y.frozen 0;have f1:=hG4.y.frozen 1;have f2:=hG4.y.frozen 2;have f3:=hG4.y.frozen 3;have f4:=hG4.y.frozen 4;have f5:=hG4.y.frozen 5;have f6:=hG4.y.frozen 6;have f7:=hG4.y.frozen 7;have f8:=hG4.y.frozen 8;have f9:=hG4.y.frozen 9;have f10:=hG4.y.frozen 10;have f11:=hG4.y.frozen 11;have f12:=hG4.y.frozen 12;have z0:=hG4.y.c0;have z1:=hG4.y.c1;have z2:=hG4.y.c2;have z3:=hG4.y.c3;have z4:=hG4.y.c4;have z5:=hG4.y.c5;have z6:=hG4.y.c6;have z7:=hG4.y.c7;have z8:=hG4.y.c8;have z9:=hG4.y.c9;have z10:=hG4.y.c10;have z11:=hG4.y.c11;have z12:=hG4.y.c12))
   have c1:But [w.heap.size+1+1+1,w.heap.size+1+1+1+1] W W2:=(But.of_below hb1 _).next (But.of_below hb2 _)
   have c2:=c1.set (p:=⟨w.heap.size+1+1+1,0,none⟩) (.inl (by simp)) (.bool u)
   have c4:=(c2.next (But.of_below hb4 _)).next ((but_put13 W4 (w.heap.size+1+1+1+1) z).mono (by simp))
   refine ⟨keepsFrom_but c4 (by simp;omega),hG.n.keeps c4 (by simp;omega),?_⟩
   show Got w _ x wd m (((pre ++ [p]).map (·.val)).foldl (mayStep x) (known x.k)) (((pre ++ [p]).map (·.val)).foldl (bareStep x) (En.only x.a x.k))
   rw [HZ.out,HB.out]
   exact hG4.setY z
  | false=>
   gi_wp2_with (first
    | (refine ⟨trivial,?_⟩;gi_at_call 96;refine (callsIn_wide.2 ht).mono ?_;rintro e W1 ⟨rfl,hb1⟩;have hG2:=hG.fresh (But.of_below hb1 []);have i2:=Boxed.frozen hG2.i;have hG3:=hG2.setI false;have i3:=Boxed.cell hG2.i;have y0:=hG3.y.c0;have y1:=hG3.y.c1;have y2:=hG3.y.c2;have y3:=hG3.y.c3;have y4:=hG3.y.c4;have y5:=hG3.y.c5;have y6:=hG3.y.c6;have y7:=hG3.y.c7;have y8:=hG3.y.c8;have y9:=hG3.y.c9;have y10:=hG3.y.c10;have y11:=hG3.y.c11;have y12:=hG3.y.c12))
   refine ⟨trivial,?_⟩
   gi_wp2_with (first
    | (refine ⟨trivial,?_⟩;gi_at_call 98;refine (callsIn_wide.2 (hwith _)).mono ?_;rintro e W4 ⟨rfl,hb4⟩;have hG4:=hG3.fresh (But.of_below hb4 []);have f0:=hG4.y.frozen 0;have f1:=hG4.y.frozen 1;have f2:=hG4.y.frozen 2;have f3:=hG4.y.frozen 3;have f4:=hG4.y.frozen 4;have f5:=hG4.y.frozen 5;have f6:=hG4.y.frozen 6;have f7:=hG4.y.frozen 7;have f8:=hG4.y.frozen 8;have f9:=hG4.y.frozen 9;have f10:=hG4.y.frozen 10;have f11:=hG4.y.frozen 11;have f12:=hG4.y.frozen 12;have z0:=hG4.y.c0;have z1:=hG4.y.c1;have z2:=hG4.y.c2;have z3:=hG4.y.c3;have z4:=hG4.y.c4;have z5:=hG4.y.c5;have z6:=hG4.y.c6;have z7:=hG4.y.c7;have z8:=hG4.y.c8;have z9:=hG4.y.c9;have z10:=hG4.y.c10;have z11:=hG4.y.c11;have z12:=hG4.y.c12))
   have c1:But [w.heap.size+1+1+1,w.heap.size+1+1+1+1] W W1:=But.of_below hb1 _
   have c2:=c1.set (p:=⟨w.heap.size+1+1+1,0,none⟩) (.inl (by simp)) (.bool false)
   have c4:=(c2.next (But.of_below hb4 _)).next ((but_put13 W4 (w.heap.size+1+1+1+1) z).mono (by simp))
   refine ⟨keepsFrom_but c4 (by simp;omega),hG.n.keeps c4 (by simp;omega),?_⟩
   show Got w _ x wd m (((pre ++ [p]).map (·.val)).foldl (mayStep x) (known x.k)) (((pre ++ [p]).map (·.val)).foldl (bareStep x) (En.only x.a x.k))
   rw [HZ.out,HB.out]
   exact hG4.setY z
 case done=>
  rintro D xs W hD hxs hG hK
  have HX1:Hid ((xs.map (·.val)).foldl (mayStep x) (known x.k)=mayAll x):=Lib.hid (by rw [show xs=_ from hxs,HN.out];rfl)
  have HX2:Hid ((xs.map (·.val)).foldl (bareStep x) (En.only x.a x.k)=bareOf x):=Lib.hid (by rw [show xs=_ from hxs,HN.out];rfl)
  rw [HX1.out,HX2.out] at hG
  clear hxs
  obtain ⟨y,hy⟩:∃ y,y=bareOf x:=⟨_,rfl⟩
  obtain ⟨b,hb⟩:∃ b,b=mayAll x:=⟨_,rfl⟩
  rw [<- hy, <- hb] at hG
  have HO:Hid (okB x=(b && (decide (0<=x.a) && En.eq y x))):=Lib.hid (by rw [hb,hy];rfl)
  clear hy hb
  have hq:=eq_run y x
  obtain ⟨eq,heq⟩:∃ eq,eq=En.eq y x:=⟨_,rfl⟩
  rw [<- heq] at hq HO
  clear heq
  have y0:=hG.y.c0;have y1:=hG.y.c1;have y2:=hG.y.c2;have y3:=hG.y.c3;have y4:=hG.y.c4;have y5:=hG.y.c5;have y6:=hG.y.c6;have y7:=hG.y.c7;have y8:=hG.y.c8;have y9:=hG.y.c9;have y10:=hG.y.c10;have y11:=hG.y.c11;have y12:=hG.y.c12
  have x0:=hG.x.c0;have x1:=hG.x.c1;have x2:=hG.x.c2;have x3:=hG.x.c3;have x4:=hG.x.c4;have x5:=hG.x.c5;have x6:=hG.x.c6;have x7:=hG.x.c7;have x8:=hG.x.c8;have x9:=hG.x.c9;have x10:=hG.x.c10;have x11:=hG.x.c11;have x12:=hG.x.c12
  have k0:=hG.k.c0
  have k1:=hG.k.c1
  have r0:=hG.r.c0
  have r1:=hG.r.c1
  have e0:=hG.r.frozen 0
  have e1:=hG.r.frozen 1
  have i0:=Boxed.cell hG.i
  cases b with
  | false=>
   have HO2:Hid (false=okB x):=Lib.hid (by rw [HO.out];rfl)
   clear HO
   go_wp2_with fail
   go_region
   go_wp2_with fail
   exact kindOf_end w W D _ _ x y wd m false rfl rfl HO2.out hG (by omega) hK
  | true=>
   by_cases ha:0<=x.a
   ·have HO2:Hid (eq=okB x):=Lib.hid (by rw [HO.out,decide_eq_true ha];simp)
    have had:decide (x.a >= 0)=true:=decide_eq_true ha
    clear HO
    go_wp2_with fail
    go_region
    go_wp2_with fail
    exact kindOf_end w W D _ _ x y wd m true rfl rfl HO2.out hG (by omega) hK
   ·have HO2:Hid (false=okB x):=Lib.hid (by rw [HO.out,decide_eq_false ha];simp)
    have had:decide (x.a >= 0)=false:=decide_eq_false ha
    clear HO
    go_wp2_with fail
    go_region
    go_wp2_with fail
    exact kindOf_end w W D _ _ x y wd m true rfl rfl HO2.out hG (by omega) hK
 case stop=>
  rintro D c pre W _ _ h _
  exact h.elim
open Go.RowKit SetM
def checkE (x:En):Int:=if okB x then 0 else 2
theorem below_two {n B:Nat} {w W:World} (h:Below n w W) (hB:n<=B) (a b:Value):Below n w ((W.setCell ⟨B,0,none⟩ a).setCell ⟨B,1,none⟩ b):=(h.setCell (p:=⟨B,0,none⟩) hB a).setCell (p:=⟨B,1,none⟩) hB b
theorem sz1 (W:World) (o:Obj):(W.alloc o).drew.heap.size=W.heap.size+1:=World.size_alloc W o
theorem lt_al (w:World) (o:Obj):w.heap.size<(w.alloc o).heap.size:=by simp
theorem Below.al {n:Nat} {w W:World} (h:Below n w W) (hn:n<=W.heap.size) (o:Obj):Below n w (W.alloc o):=h.alloc hn o
theorem check_any (x:En) (hx:x.ok) (w:World) :
  Calls Tryz.prog 31 #[x.val] w fun e w'=>e=.returned (.int .i64 (checkE x))/\Below w.heap.size w w':=by
 obtain ⟨wf,hwf⟩:∃ wf,wf=w.alloc (.cells #[.int .i64 x.a,.int .u8 (x.k:Int),.int .i64 x.w,.int .i64 x.t,.int .i64 x.p,.int .i64 x.c,.int .i64 x.b,.int .i64 x.q,.int .i64 x.v,.int .i64 x.u,.bool x.o,.int .i64 x.e,.int .u64 (x.s:Int)] 39):=⟨_,rfl⟩
 have hB0:Below w.heap.size w wf:=by rw [hwf];exact below1 w _
 have hX:EnAt wf w.heap.size x:=by rw [hwf];exact enAt_new w x
 obtain ⟨wd,hwd⟩:∃ wd:ByteArray,wd=⟨(wordL x.k).toArray⟩:=⟨_,rfl⟩
 obtain ⟨m,hm⟩:∃ m,m=maskN x.k:=⟨_,rfl⟩
 have hkv:kinV x.k=.agg #[.string wd,.int .u64 (m:Int)]:=by rw [hwd,hm];rfl
 clear hwd hm
 have hkX:∀ W,Below wf.heap.size wf W->EnAt W w.heap.size x:=fun W hW=>hX.of_block (hW.block _ hX.lt)
 have hkS:∀ W,Below wf.heap.size wf W->W.cell? ⟨w.heap.size,0,none⟩=some (.int .i64 x.a)/\W.cell? ⟨w.heap.size,1,none⟩=some (.int .u8 (x.k:Int))/\W.cell? ⟨w.heap.size,2,none⟩=some (.int .i64 x.w)/\W.cell? ⟨w.heap.size,3,none⟩=some (.int .i64 x.t)/\W.cell? ⟨w.heap.size,4,none⟩=some (.int .i64 x.p)/\W.cell? ⟨w.heap.size,5,none⟩=some (.int .i64 x.c)/\W.cell? ⟨w.heap.size,6,none⟩=some (.int .i64 x.b)/\W.cell? ⟨w.heap.size,7,none⟩=some (.int .i64 x.q)/\W.cell? ⟨w.heap.size,8,none⟩=some (.int .i64 x.v)/\W.cell? ⟨w.heap.size,9,none⟩=some (.int .i64 x.u)/\W.cell? ⟨w.heap.size,10,none⟩=some (.bool x.o)/\W.cell? ⟨w.heap.size,11,none⟩=some (.int .i64 x.e)/\W.cell? ⟨w.heap.size,12,none⟩=some (.int .u64 (x.s:Int))/\Below wf.heap.size wf W:=fun W hW=>by
  have h:=hkX W hW
  exact ⟨h.c0,h.c1,h.c2,h.c3,h.c4,h.c5,h.c6,h.c7,h.c8,h.c9,h.c10,h.c11,h.c12,hW⟩
 have ck:∀ W M,M=W.heap.size->Below wf.heap.size wf W->Calls Tryz.prog 59 #[] W fun e w'=>e=.returned (.map (some M))/\(∀ W',Below w'.heap.size w' W'->KMap W' M kindsL)/\Below wf.heap.size wf w'/\Below W.heap.size W w':=fun W M hM hW=>
  (kinds_any W).mono fun e w' ⟨h1,h2,h3⟩=>by
   subst hM
   exact ⟨h1,fun W' hW'=>h2.fresh (But.of_below hW' []),below_nx hW h3 (Nat.le_refl _),h3⟩
 have co:∀ W M,Below wf.heap.size wf W->KMap W M kindsL->Calls Tryz.prog 58 #[.map (some M),.agg #[.int .i64 x.a,.int .u8 (x.k:Int),.int .i64 x.w,.int .i64 x.t,.int .i64 x.p,.int .i64 x.c,.int .i64 x.b,.int .i64 x.q,.int .i64 x.v,.int .i64 x.u,.bool x.o,.int .i64 x.e,.int .u64 (x.s:Int)]] W fun e w'=>e=.returned (.tuple #[.agg #[.string wd,.int .u64 (m:Int)],.bool (okB x)])/\Below wf.heap.size wf w'/\Below W.heap.size W w':=fun W M hW hM=>by
  have:=kindOf_any M x hx W hM
  rw [hkv] at this
  exact this.mono fun e w' ⟨h1,h2⟩=>⟨h1,below_nx hW h2 (Nat.le_refl _),h2⟩
 have r0:Below wf.heap.size wf wf.drew:=(Below.refl _ _).drew
 have r1:∀ o,Below wf.heap.size wf (wf.alloc o).drew:=fun o=>((Below.refl _ _).alloc (Nat.le_refl _) o).drew
 have tw:Two (wf.alloc (.cells #[.string ⟨#[]⟩,.int .u64 0] 136)).drew wf.heap.size 136 (.string ⟨#[]⟩) (.int .u64 0):=two_new wf _ _ _
 have tl:=tw.lt
 unfold En.val
 go_enter Tryz.func31,Tryz.ntmps31
 go_upto_region 1 with fail
 rw [<- hwf]
 clear hwf hkv
 go_cut [3,4] from 5 to 10 (fun kv bv W=>∃ B,kv=.pointer (some ⟨B,0,none⟩)/\bv=.bool (okB x)/\KdAt W B wd m/\w.heap.size<B/\Below wf.heap.size wf W)
 case first=>
  go_region_held3 (fun w'=>w'.cell? ⟨w.heap.size,0,none⟩=some (.int .i64 x.a)/\w'.cell? ⟨w.heap.size,1,none⟩=some (.int .u8 (x.k:Int))/\w'.cell? ⟨w.heap.size,2,none⟩=some (.int .i64 x.w)/\w'.cell? ⟨w.heap.size,3,none⟩=some (.int .i64 x.t)/\w'.cell? ⟨w.heap.size,4,none⟩=some (.int .i64 x.p)/\w'.cell? ⟨w.heap.size,5,none⟩=some (.int .i64 x.c)/\w'.cell? ⟨w.heap.size,6,none⟩=some (.int .i64 x.b)/\w'.cell? ⟨w.heap.size,7,none⟩=some (.int .i64 x.q)/\w'.cell? ⟨w.heap.size,8,none⟩=some (.int .i64 x.v)/\w'.cell? ⟨w.heap.size,9,none⟩=some (.int .i64 x.u)/\w'.cell? ⟨w.heap.size,10,none⟩=some (.bool x.o)/\w'.cell? ⟨w.heap.size,11,none⟩=some (.int .i64 x.e)/\w'.cell? ⟨w.heap.size,12,none⟩=some (.int .u64 (x.s:Int))/\Below wf.heap.size wf w')
   ((refine hkS _ ?_;with_reducible first | exact r0 | exact r1 _ | exact hb2 | exact hb3 | exact Below.al hb2 hb2.size _ | exact Below.al hb3 hb3.size _ | exact below_two hb3 hb2.size _ _ | exact below_two hb3 (Nat.le_refl _) _ _))
   ((first
    | (go_at_call 59;with_reducible refine (ck wf.drew wf.heap.size rfl r0).mono ?_;rintro e w2 ⟨rfl,hK,hb2,hn2⟩)
    | (go_at_call 59;with_reducible refine (ck (wf.alloc _).drew (wf.heap.size+1) (sz1 _ _).symm (r1 _)).mono ?_;rintro e w2 ⟨rfl,hK,hb2,hn2⟩;have t2:Two w2 wf.heap.size 136 (.string ⟨#[]⟩) (.int .u64 0):=tw.of_block (hn2.block _ tl))
    | (go_at_call 58;with_reducible refine (co _ _ (by with_reducible first | exact hb2 | exact Below.al hb2 hb2.size _) (hK _ (by with_reducible first | exact Below.refl _ _ | exact below1 _ _))).mono ?_;rintro e w3 ⟨rfl,hb3,hn3⟩;first | (have t3:=(by with_reducible exact t2.of_block (hn3.block _ t2.lt):Two w3 wf.heap.size 136 (.string ⟨#[]⟩) (.int .u64 0));have q0:=t3.c0;have q1:=t3.c1;have f0:=t3.frozen 0;have f1:=t3.frozen 1) | (have t3:Two w3 w2.heap.size 136 (.string ⟨#[]⟩) (.int .u64 0):=(by with_reducible exact (two_new w2 _ _ _).of_block (hn3.block _ (lt_al w2 _)));have q0:=t3.c0;have q1:=t3.c1;have f0:=t3.frozen 0;have f1:=t3.frozen 1) | skip)))
  all_goals go_wp2_with fail
  all_goals go_meet
  all_goals first
   | exact ⟨_,rfl,rfl,t3.set _ _,Nat.lt_of_lt_of_le hX.lt hb2.size,below_two hb3 hb2.size _ _⟩
   | exact ⟨_,rfl,rfl,t3.set _ _,hX.lt,below_two hb3 (Nat.le_refl _) _ _⟩
   | exact ⟨_,rfl,rfl,two_new w3 _ _ _,Nat.lt_of_lt_of_le hX.lt hb3.size,Below.al hb3 hb3.size _⟩
 case rest=>
  obtain ⟨B,rfl,rfl,_,_,hb⟩:=hcut
  have hB:=below_nx hB0 hb (Nat.le_refl _)
  cases hok:okB x with
  | true=>
   have HE:Hid (checkE x=0):=Lib.hid (by unfold checkE;rw [hok];rfl)
   clear hok
   go_wp2_with fail
   go_ret
   exact ⟨ret_v (by rw [HE.out];rfl),hB⟩
  | false=>
   have HE:Hid (checkE x=2):=Lib.hid (by unfold checkE;rw [hok];rfl)
   clear hok
   go_wp2_with fail
   go_ret
   exact ⟨ret_v (by rw [HE.out];rfl),hB⟩
end Go.Proofs.YtnfbncgfpmcpnaaGreat.Ent
