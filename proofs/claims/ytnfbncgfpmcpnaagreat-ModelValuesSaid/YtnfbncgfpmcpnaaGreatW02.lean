/-
  ModelValues: its walks, part W2.
-/
import Derived.Test.YtnfbncgfpmcpnaaGreatW01
set_option maxRecDepth 100000
set_option maxHeartbeats 12800000
namespace Go.Proofs.YtnfbncgfpmcpnaaGreat.Mdl
open Go.RowKit
open Ent (En EnRow okB en_one en_len)
open Mch (below1 below_nx owns_slice')
def allF (M:Mod) (n:Nat):List En:=(List.range n).flatMap fun (i:Nat)=>M.moves (i:Int)
def allM (M:Mod):List En:=allF M M.T.length
theorem allF_snoc (M:Mod) (n:Nat):allF M (n+1)=allF M n ++ M.moves (n:Int):=by simp [allF,List.range_succ]
theorem allF_len {M:Mod} (h:Inv M) (n:Nat):(allF M n).length<=n * 1000:=by
 induction n with
 | zero=>simp [allF]
 | succ n ih=>rw [allF_snoc,List.length_append];have:=moves_len h (n:Int);omega
theorem allM_mem {M:Mod} {x:En} (h:x ∈ allM M):∃ t,x ∈ M.moves t:=by
 unfold allM allF at h
 rw [List.mem_flatMap] at h
 obtain ⟨i,_,h⟩:=h
 exact ⟨_,h⟩
theorem flatE_app (a b:List En):flatE (a ++ b)=flatE a ++ flatE b:=by simp [flatE]
theorem flatE_len (a:List En):(flatE a).length=a.length * 13:=by
 induction a with
 | nil=>rfl
 | cons x t ih=>rw [flatE,List.flatMap_cons,List.length_append, <- flatE,ih,en_len,List.length_cons];omega
theorem en_news {W:World} {a:Option Addr} {c:Nat} {l:List En} (h:EnRow W (.slice a l.length c) l) (hl:0<l.length) :
  ∃ b off,a=some ⟨b,off,none⟩/\∀ j u,(flatE l)[j]?=some u->W.cell? ((⟨b,off,none⟩:Addr).add j)=some u:=by
 obtain ⟨a',c',h1,h2⟩:=h
 simp only [Value.slice.injEq] at h1
 rcases h2 with h2 | ⟨b,off,h3,_,h5⟩
 ·omega
 ·refine ⟨b,off,h1.1.trans h3,fun j u hj=>?_⟩
  have hadd:(⟨b,off,none⟩:Addr).add j=⟨b,off+j,none⟩:=by unfold Addr.add;split <;> simp_all
  have hj13:j % 13<13:=Nat.mod_lt _ (by omega)
  have hf:=Ent.flat_get En.cellsL 13 en_len l (j / 13) (j % 13) hj13
  have hjj:j / 13 * 13+j % 13=j:=by omega
  rw [hjj] at hf
  unfold flatE at hj
  rw [hf] at hj
  cases hx:l[j / 13]? with
  | none=>rw [hx] at hj;simp at hj
  | some x=>
   rw [hx,Option.bind_some] at hj
   rw [hadd, <- h5 (j / 13) x hx (j % 13) u hj]
   congr 2
   omega
theorem run_append_nothing {P:Program} (w:World) (t ty e:TypeId) (i:TypeInfo) (ht:P.underlying t=some (.slice e)) (hi:P.info? e=some i) (b a:Option Addr) (n cap c:Nat) (h:n<=cap) :
  (Builtin.append_ #[t,t] ty #[.slice b n cap,.slice a 0 c]).run P w=.ok (.slice b n cap) w:=by
 cases b <;> cases a <;> simp [Builtin.append_,run_underlying ht,sizeOf,typeInfo,hi,Builtin.lenOf,Builtin.firstCells,loadCells,loadCellsFrom,h,storeCells]
theorem wpList_append_nothing {P:Program} {w:World} {ops:Array Oper} {rest:List Oper} {o:Oper} {a:Act} {Q:Exit->Act->World->Prop} (hgd:o.guard=none) (s x:Operand) (t:TypeId)
  (ho:o.op=.call { callee:=.builtin .append,args:=#[s,x],argTypes:=#[t,t] }) (e:TypeId) (i:TypeInfo) (ht:P.underlying t=some (.slice e)) (hi:P.info? e=some i)
  (b:Option Addr) (n cap:Nat) (hs:a.eval s=.slice b n cap) (ad:Option Addr) (c:Nat) (hx:a.eval x=.slice ad 0 c) (hn:n<=cap)
  (h:wpList P ops Q rest (a.put o.dst (.slice b n cap)) w):wpList P ops Q (o::rest) a w:=by
 refine wpList_plain hgd fun K hK=>?_
 have hr:=run_append_nothing (P:=P) w t o.type e i ht hi b ad n cap c hn
 unfold Oper.wp execOp
 simp only [ho,resolve,invoke,builtin,Sem.run_bind,Sem.run_pure,Result.andThen_ok,List.map_toArray,List.map_cons,List.map_nil,hs,hx,hr]
 exact hK _ _ h
theorem owns_cap {W:World} {base:Nat} {e:TypeId} {size n cap:Nat} {a:Option Addr} {m:Nat} {xs:List Value} (h:W.ownsRow base e size (.slice a m cap) n xs):m=n/\n<=cap:=by
 rcases h.2 with ⟨h1,h0⟩ | ⟨g,cap',cur,hv,_,_,hn,_⟩
 ·simp only [Value.slice.injEq] at h1;omega
 ·simp only [Value.slice.injEq] at hv;omega
theorem alls_any {o:Nat->Nat} {B:Nat} {M:Mod} (w:World) (h:Md w o B M) (hI:Inv M) :
  Calls Tryz.prog 28 #[ptrV B] w fun e w'=>∃ a c,e=.returned (.slice a (allM M).length c)/\EnNew w.heap.size w' (.slice a (allM M).length c) (allM M)/\Below w.heap.size w w':=by
 obtain ⟨i0,hi,hz0,hz1,hz2⟩:=info_parts infoEnt
 have hta:=fun (W:World) (hW:Below w.heap.size w W)=>tasks_any W (h.below hW) (by have:=hI.tl;have:=hI.mo;omega)
 have hmv:=fun (t:Int) (W:World) (hW:Below w.heap.size w W)=>mmoves_any t W (h.below hW) hI.sane
 have hln:=fun k=>allF_len hI k
 have hml:=fun t=>moves_len hI t
 have hTn:M.T.length<=32:=Nat.le_trans hI.tl hI.mo
 obtain ⟨n,hn⟩:∃ n,n=M.T.length:=⟨_,rfl⟩
 have hD:Hid (allM M=allF M n):=Lib.hid (by rw [hn];rfl)
 rw [<- hn] at hTn
 simp only [<- hn] at hta
 clear hn h hI
 go_enter Tryz.func28,Tryz.ntmps28
 go_wp2_with fail
 go_loopw [3,4] (fun lv iv wr=>∃ k:Nat,k<=n/\iv=.int .i64 (k:Int)/\Below w.heap.size w wr/\wr.ownsRow w.heap.size 39 13 lv (allF M k).length (flatE (allF M k))) (fun _ iv _=>n - (intOf iv).toNat)
 case atStart=>exact ⟨0,by omega,rfl,Below.refl _ _,World.ownsRow_nil _ _ _ _⟩
 case round=>
  obtain ⟨k,hk,rfl,hB,hR⟩:=hrel
  have ht:=hta wr hB
  by_cases hlt:k<n
  ·have hlt':(k:Int)<(n:Int):=by omega
   have h32:(k:Int)<32:=by omega
   have d1:decide ((k:Int)<(n:Int))=true:=by simpa using hlt'
   have d2:decide ((k:Int)<32)=true:=by simpa using h32
   have hwk:IntKind.i64.wrap ((k:Int)+1)=(k:Int)+1:=by rw [IntKind.wrap_i64];omega
   have hm:=hmv (k:Int)
   have HS:Hid (allF M (k+1)=allF M k ++ M.moves (k:Int)):=Lib.hid (allF_snoc M k)
   have hl1:=hln k
   have hl2:=hml (k:Int)
   obtain ⟨L,hL⟩:∃ L,L=M.moves (k:Int):=⟨_,rfl⟩
   rw [<- hL] at HS hl2
   simp only [<- hL] at hm
   obtain ⟨D,hDD⟩:∃ D,D=allF M k:=⟨_,rfl⟩
   rw [<- hDD] at HS hl1 hR
   clear hL hDD hta hmv hln hml hlt
   go_wp2_with fail
   refine ht.mono ?_
   clear ht
   rintro e w1 ⟨rfl,hb1⟩
   have hB1:=below_nx hB hb1 (Nat.le_refl _)
   have hR1:=owns_fresh hR hb1
   have hm1:=hm w1 hB1
   clear hR hb1 hm
   go_wp2_with fail
   refine hm1.mono ?_
   clear hm1
   rintro e w2 ⟨v,rfl,hE,hb2⟩
   have hB2:=below_nx hB1 hb2 (Nat.le_refl _)
   have hR2:=owns_fresh hR1 hb2
   obtain ⟨sa,sc,rfl⟩:=hE.slice
   obtain ⟨ra,rc,rfl⟩:=owns_slice' hR2
   have hcap:=(owns_cap hR2).2
   clear hR1 hb2
   have hone:=en_one L
   by_cases hz:L = []
   ·subst hz
    have HS2:Hid (allF M (k+1)=D):=Lib.hid (by rw [HS.out,List.append_nil])
    rw [<- HS2.out] at hR2
    go_wp2_with (at_builtin;refine wpList_append_nothing rfl _ _ 51 rfl 39 i0 Tryz.underlying51 hi ra D.length rc rfl sa sc rfl hcap ?_)
    go_wp2_with fail
    go_roundw
    case rel=>exact ⟨k+1,by omega,by go_num,hB2,by rw [HS2.out] at hR2 ⊢;exact hR2⟩
    case measure=>simp [intOf];omega
   ·obtain ⟨b,off,rfl,hnews⟩:=en_news hE.1 (List.length_pos_iff.mpr hz)
    have hfl:=flatE_len L
    go_wp2_with (at_builtin;refine wpList_append_own_at _ rfl _ _ 51 rfl w.heap.size 39 i0 (.agg #[.int .i64 0,.int .u8 0,.int .i64 0,.int .i64 0,.int .i64 0,.int .i64 0,.int .i64 0,.int .i64 0,.int .i64 0,.int .i64 0,.bool false,.int .i64 0,.int .u64 0]) 13 104 Tryz.underlying51 hi hz0 hz1 hz2 rfl (by decide) _ D.length (flatE D) rfl hR2 ⟨b,off,none⟩ L.length sc (flatE L) rfl hfl hnews hone ?c3 ?c4 ?c5 ?_)
    case c3=>unfold maxLen;omega
    case c4=>omega
    case c5=>exact hB2.size
    intro v8 w8 hown hgrow _ _
    have hb8:=hB2.grown hgrow hB2.size (fun g e=>by have:=Mch.owns_ge hR2 g e;omega)
    have hown':w8.ownsRow w.heap.size 39 13 v8 (allF M (k+1)).length (flatE (allF M (k+1))):=by
     rw [HS.out,flatE_app,List.length_append]
     exact hown
    clear hown hgrow hnews hR2 hone
    go_wp2_with fail
    go_roundw
    case rel=>exact ⟨k+1,by omega,by go_num,hb8,hown'⟩
    case measure=>simp [intOf];omega
  ·obtain rfl:k=n:=by omega
   have d1:decide ((k:Int)<(k:Int))=false:=by simp
   have hk0 : ¬ (k:Int)<(k:Int):=by omega
   clear hta hmv hln hml hlt
   go_wp2_with fail
   refine ht.mono ?_
   clear ht
   rintro e w1 ⟨rfl,hb1⟩
   have hB1:=below_nx hB hb1 (Nat.le_refl _)
   have hR1:=owns_fresh hR hb1
   obtain ⟨ra,rc,rfl⟩:=owns_slice' hR1
   have hE:=EnNew.of_owns hR1
   clear hR hR1 hb1
   go_wp2_with fail
   go_ret
   rw [hD.out]
   exact ⟨_,_,rfl,hE,hB1⟩
open Go.RowKit
open Ent (En EnRow okB en_one en_len)
open Mch (below1 below_nx owns_slice')
structure Stp where
 n:Nat
 raw:Bool
 cp:Bool
 x:En
def Stp.ok (s:Stp):Prop:=s.n<65536/\s.x.ok
abbrev stpA (s:Stp):Array Value:=#[.int .u16 (s.n:Int),.bool s.raw,.bool s.cp,.int .i64 s.x.a,.int .u8 (s.x.k:Int),.int .i64 s.x.w,.int .i64 s.x.t,.int .i64 s.x.p,.int .i64 s.x.c,.int .i64 s.x.b,.int .i64 s.x.q,.int .i64 s.x.v,.int .i64 s.x.u,.bool s.x.o,.int .i64 s.x.e,.int .u64 (s.x.s:Int)]
abbrev stpV (s:Stp):Value:=.agg #[.int .u16 (s.n:Int),.bool s.raw,.bool s.cp,.int .i64 s.x.a,.int .u8 (s.x.k:Int),.int .i64 s.x.w,.int .i64 s.x.t,.int .i64 s.x.p,.int .i64 s.x.c,.int .i64 s.x.b,.int .i64 s.x.q,.int .i64 s.x.v,.int .i64 s.x.u,.bool s.x.o,.int .i64 s.x.e,.int .u64 (s.x.s:Int)]
def zeroE:En:=⟨0,0,0,0,0,0,0,0,0,0,false,0,0⟩
def nextM (M:Mod) (s:Stp):En × Bool:=
 if s.raw then (s.x,true) else if (allM M).length=0 then (zeroE,false) else ((allM M)[s.n % (allM M).length]?.getD zeroE,true)
theorem allM_len {M:Mod} (h:Inv M):(allM M).length<=32000:=by
 have:=allF_len h M.T.length
 have:=h.tl;have:=h.mo
 unfold allM;omega
theorem zeroE_ok:zeroE.ok:=⟨i64_zero,by decide,i64_zero,i64_zero,i64_zero,i64_zero,i64_zero,i64_zero,i64_zero,i64_zero,i64_zero,by decide⟩
theorem allM_ok {M:Mod} (h:Inv M) {x:En} (hx:x ∈ allM M):x.ok:=by
 obtain ⟨t,ht⟩:=allM_mem hx
 exact (moves_ok h x ht).1.wf
theorem nextM_ok {M:Mod} (h:Inv M) {s:Stp} (hs:s.ok):(nextM M s).1.ok:=by
 unfold nextM
 split
 ·exact hs.2
 ·split
  ·exact zeroE_ok
  ·rename_i hl
   have hlt:s.n % (allM M).length<(allM M).length:=Nat.mod_lt _ (by omega)
   simp only [List.getElem?_eq_getElem hlt,Option.getD_some]
   exact allM_ok h (List.getElem_mem hlt)
theorem rem_nat (a b:Nat):Int.tmod (a:Int) (b:Int)=((a % b:Nat):Int):=by
 rw [Int.tmod_eq_emod_of_nonneg (by omega)];rfl
theorem next_any {o:Nat->Nat} {B:Nat} {M:Mod} (s:Stp) (w:World) (h:Md w o B M) (hI:Inv M) (hs:s.ok) :
  Calls Tryz.prog 8 #[ptrV B,stpV s] w fun e w'=>e=.returned (.tuple #[enV (nextM M s).1,.bool (nextM M s).2])/\Below w.heap.size w w':=by
 obtain ⟨w2,hw2⟩:∃ w2,w2=(w.alloc (.cells (stpA s) 44)).alloc (.cells #[.int .i64 0,.int .u8 0,.int .i64 0,.int .i64 0,.int .i64 0,.int .i64 0,.int .i64 0,.int .i64 0,.int .i64 0,.int .i64 0,.bool false,.int .i64 0,.int .u64 0] 39):=⟨_,rfl⟩
 have hB2:Below w.heap.size w w2:=by rw [hw2];exact below2 w _ _
 have hX:Blk w2 w.heap.size 44 (stpA s):=by rw [hw2];exact (blk_new w _ _).alloc _
 have hZ:Blk w2 (w.heap.size+1) 39 (enA zeroE):=by
  have:=blk_new (w.alloc (.cells (stpA s) 44)) 39 (enA zeroE)
  rw [World.size_alloc] at this
  rw [hw2];exact this
 have hal:=fun (W:World) (hW:Below w.heap.size w W)=>alls_any W (h.below hW) hI
 have hll:=allM_len hI
 have hn16:=hs.1
 have x0:w2.cell? ⟨w.heap.size,0,none⟩=some (.int .u16 (s.n:Int)):=hX.cell rfl
 have x1:w2.cell? ⟨w.heap.size,1,none⟩=some (.bool s.raw):=hX.cell rfl
 have x2:w2.cell? ⟨w.heap.size,2,none⟩=some (.bool s.cp):=hX.cell rfl
 have x3:w2.cell? ⟨w.heap.size,3,none⟩=some (.int .i64 s.x.a):=hX.cell rfl
 have x4:w2.cell? ⟨w.heap.size,4,none⟩=some (.int .u8 (s.x.k:Int)):=hX.cell rfl
 have x5:w2.cell? ⟨w.heap.size,5,none⟩=some (.int .i64 s.x.w):=hX.cell rfl
 have x6:w2.cell? ⟨w.heap.size,6,none⟩=some (.int .i64 s.x.t):=hX.cell rfl
 have x7:w2.cell? ⟨w.heap.size,7,none⟩=some (.int .i64 s.x.p):=hX.cell rfl
 have x8:w2.cell? ⟨w.heap.size,8,none⟩=some (.int .i64 s.x.c):=hX.cell rfl
 have x9:w2.cell? ⟨w.heap.size,9,none⟩=some (.int .i64 s.x.b):=hX.cell rfl
 have x10:w2.cell? ⟨w.heap.size,10,none⟩=some (.int .i64 s.x.q):=hX.cell rfl
 have x11:w2.cell? ⟨w.heap.size,11,none⟩=some (.int .i64 s.x.v):=hX.cell rfl
 have x12:w2.cell? ⟨w.heap.size,12,none⟩=some (.int .i64 s.x.u):=hX.cell rfl
 have x13:w2.cell? ⟨w.heap.size,13,none⟩=some (.bool s.x.o):=hX.cell rfl
 have x14:w2.cell? ⟨w.heap.size,14,none⟩=some (.int .i64 s.x.e):=hX.cell rfl
 have x15:w2.cell? ⟨w.heap.size,15,none⟩=some (.int .u64 (s.x.s:Int)):=hX.cell rfl
 clear h hI hs
 cases hr:s.raw with
 | true=>
  have HN:Hid (nextM M s=(s.x,true)):=Lib.hid (by unfold nextM;rw [if_pos hr])
  rw [hr] at x1
  clear hal hll hn16 hr
  go_enter Tryz.func8,Tryz.ntmps8
  go_upto_region 1 with fail
  rw [<- hw2]
  clear hw2
  go_wp2_with (refine wpList_put rfl _ _ _ rfl (w.heap.size+1) (enA s.x) rfl rfl hZ szEn rfl (by simp [Value.oneCell']) ?_;intro w5 E1 E2;go_frame)
  refine bodyPost_ret (v:=.tuple #[enV s.x,.bool true]) (results_cell_row2 rfl _ _ (w.heap.size+1) 39 _ _ _ rfl rfl E1 Tryz.underlying39 rfl szEn) rfl ?_
  rw [HN.out]
  exact ⟨rfl,hB2.trans (E2.below hB2.size (by simp))⟩
 | false=>
  rw [hr] at x1
  have HR:=Lib.hid hr
  have ha2:=hal w2 hB2
  obtain ⟨L,hL⟩:∃ L,L=allM M:=⟨_,rfl⟩
  rw [<- hL] at ha2 hll
  have HL:=Lib.hid hL
  clear hal hr hL
  go_enter Tryz.func8,Tryz.ntmps8
  go_upto_region 1 with fail
  rw [<- hw2]
  clear hw2
  go_wp2_with fail
  refine ha2.mono ?_
  clear ha2 x0 x1 x2 x3 x4 x5 x6 x7 x8 x9 x10 x11 x12 x13 x14 x15
  rintro e w3 ⟨a,c,rfl,hE,hb3⟩
  have hX3:=hX.later hb3 hX.lt
  have hZ3:=hZ.later hb3 hZ.lt
  have hB3:=below_nx hB2 hb3 (Nat.le_refl _)
  have x0:w3.cell? ⟨w.heap.size,0,none⟩=some (.int .u16 (s.n:Int)):=hX3.cell rfl
  clear hX hZ hb3 hX3
  by_cases hz:L.length=0
  ·have HN:Hid (nextM M s=(zeroE,false)):=Lib.hid (by unfold nextM;rw [<- HL.out,if_neg (by rw [HR.out];decide),if_pos hz])
   have dz:((L.length:Int) == 0)=true:=beq_iff_eq.mpr (by omega)
   clear hE
   go_wp2_with (refine wpList_put rfl _ _ _ rfl (w.heap.size+1) (enA zeroE) rfl rfl hZ3 szEn rfl (by simp [Value.oneCell']) ?_;intro w5 E1 E2;go_frame)
   refine bodyPost_ret (v:=.tuple #[enV zeroE,.bool false]) (results_cell_row2 rfl _ _ (w.heap.size+1) 39 _ _ _ rfl rfl E1 Tryz.underlying39 rfl szEn) rfl ?_
   rw [HN.out]
   exact ⟨rfl,hB3.trans (E2.below hB3.size (by simp))⟩
  ·have dz:((L.length:Int) == 0)=false:=beq_eq_false_iff_ne.mpr (by omega)
   have hlt:s.n % L.length<L.length:=Nat.mod_lt _ (by omega)
   obtain ⟨y,hy⟩:∃ y,L[s.n % L.length]?=some y:=⟨_,List.getElem?_eq_getElem hlt⟩
   have HN:Hid (nextM M s=(y,true)):=Lib.hid (by unfold nextM;rw [<- HL.out,if_neg (by rw [HR.out];decide),if_neg hz,hy];rfl)
   have hrem:=rem_nat s.n L.length
   obtain ⟨q,hq⟩:∃ q,q=s.n % L.length:=⟨_,rfl⟩
   rw [<- hq] at hrem hlt hy
   obtain ⟨b,off,rfl,_,y0,y1,y2,y3,y4,y5,y6,y7,y8,y9,y10,y11,y12⟩:=hE.1.at hy
   have q0:(0:Int)<=(q:Int):=by omega
   have q1:(q:Int)<(L.length:Int):=by omega
   have hl0 : ¬ (L.length:Int)=0:=by omega
   have hw16:IntKind.i64.wrap (s.n:Int)=(s.n:Int):=by rw [IntKind.wrap_i64];omega
   clear hE hq hy hz
   go_wp2_with (refine wpList_put rfl _ _ _ rfl (w.heap.size+1) (enA y) rfl rfl hZ3 szEn rfl (by simp [Value.oneCell']) ?_;intro w5 E1 E2;go_frame)
   refine bodyPost_ret (v:=.tuple #[enV y,.bool true]) (results_cell_row2 rfl _ _ (w.heap.size+1) 39 _ _ _ rfl rfl E1 Tryz.underlying39 rfl szEn) rfl ?_
   rw [HN.out]
   exact ⟨rfl,hB3.trans (E2.below hB3.size (by simp))⟩
open Go.RowKit
open Ent (En EnRow okB en_one en_len)
open Mch (below1 below_nx owns_slice')
structure Runs (w:World) (o:Nat->Nat) (A:Nat) (M:Mod) (W:World):Prop where
 md:Md W o A M
 inv:Inv M
 bel:Below w.heap.size w W
 new:∀ k,o k ≠ 0->w.heap.size<=k
section
variable {w W W':World} {o o':Nat->Nat} {A:Nat} {M N:Mod}
theorem Runs.below (h:Runs w o A M W) (hb:Below W.heap.size W W'):Runs w o A M W':=⟨h.md.below hb,h.inv,below_nx h.bel hb (Nat.le_refl _),h.new⟩
theorem Runs.goes (h:Runs w o A M W) (hm:Md W' o' A N) (hi:Inv N) (hG:Goes o o' W W'):Runs w o' A N W':=
 ⟨hm,hi,frm_low h.bel hG.frm h.new,fun k hk=>by
  by_cases hl:k<W.heap.size
  ·exact h.new k (by rw [<- hG.old k hl];exact hk)
  ·have:=h.bel.size;omega⟩
theorem Runs.apply {x:En} (h:Runs w o A M W) (hx:x.ok) :
  Calls Tryz.prog 9 #[ptrV A,enV x] W fun e w'=>e=.returned (.int .i64 (M.applyE x))/\∃ o',Goes o o' W w'/\Runs w o' A (M.apply x) w':=
 (apply_any x W h.md h.inv hx).mono fun _ _ ⟨e1,o',hm,hG⟩=>⟨e1,o',hG,h.goes hm (inv_apply h.inv) hG⟩
end
def stpL (s:Stp):List Value:=[.int .u16 (s.n:Int),.bool s.raw,.bool s.cp,.int .i64 s.x.a,.int .u8 (s.x.k:Int),.int .i64 s.x.w,.int .i64 s.x.t,.int .i64 s.x.p,.int .i64 s.x.c,.int .i64 s.x.b,.int .i64 s.x.q,.int .i64 s.x.v,.int .i64 s.x.u,.bool s.x.o,.int .i64 s.x.e,.int .u64 (s.x.s:Int)]
def StRow (W:World) (v:Value) (l:List Stp):Prop:=
 ∃ a c,v=.slice a l.length c/\(l.length=0 \/ ∃ b off,a=some ⟨b,off,none⟩/\b<W.heap.size/\∀ k s,l[k]?=some s->s.ok/\∀ i u,(stpL s)[i]?=some u->W.cell? ⟨b,off+k * 16+i,none⟩=some u)
theorem StRow.slice {W:World} {v:Value} {l:List Stp} (h:StRow W v l):∃ a c,v=.slice a l.length c:=by obtain ⟨a,c,h,_⟩:=h;exact ⟨a,c,h⟩
theorem StRow.below {w W:World} {v:Value} {l:List Stp} (h:StRow w v l) (hb:Below w.heap.size w W):StRow W v l:=by
 obtain ⟨a,c,h1,h2⟩:=h
 refine ⟨a,c,h1,?_⟩
 rcases h2 with h2 | ⟨b,off,h3,h4,h5⟩
 ·exact .inl h2
 ·exact .inr ⟨b,off,h3,Nat.lt_of_lt_of_le h4 hb.size,fun k s hk=>⟨(h5 k s hk).1,fun i u hi=>(hb.cell (p:=⟨b,off+k * 16+i,none⟩) h4).trans ((h5 k s hk).2 i u hi)⟩⟩
theorem StRow.at {W:World} {a:Option Addr} {n c:Nat} {l:List Stp} (h:StRow W (.slice a n c) l) {k:Nat} {s:Stp} (hk:l[k]?=some s) :
  ∃ b off,a=some ⟨b,off,none⟩/\b<W.heap.size/\s.ok/\W.cell? ⟨b,off+k * 16,none⟩=some (.int .u16 (s.n:Int))/\W.cell? ⟨b,off+k * 16+1,none⟩=some (.bool s.raw)/\W.cell? ⟨b,off+k * 16+2,none⟩=some (.bool s.cp)/\W.cell? ⟨b,off+k * 16+3,none⟩=some (.int .i64 s.x.a)/\W.cell? ⟨b,off+k * 16+4,none⟩=some (.int .u8 (s.x.k:Int))/\W.cell? ⟨b,off+k * 16+5,none⟩=some (.int .i64 s.x.w)/\W.cell? ⟨b,off+k * 16+6,none⟩=some (.int .i64 s.x.t)/\W.cell? ⟨b,off+k * 16+7,none⟩=some (.int .i64 s.x.p)/\W.cell? ⟨b,off+k * 16+8,none⟩=some (.int .i64 s.x.c)/\W.cell? ⟨b,off+k * 16+9,none⟩=some (.int .i64 s.x.b)/\W.cell? ⟨b,off+k * 16+10,none⟩=some (.int .i64 s.x.q)/\W.cell? ⟨b,off+k * 16+11,none⟩=some (.int .i64 s.x.v)/\W.cell? ⟨b,off+k * 16+12,none⟩=some (.int .i64 s.x.u)/\W.cell? ⟨b,off+k * 16+13,none⟩=some (.bool s.x.o)/\W.cell? ⟨b,off+k * 16+14,none⟩=some (.int .i64 s.x.e)/\W.cell? ⟨b,off+k * 16+15,none⟩=some (.int .u64 (s.x.s:Int)):=by
 obtain ⟨a',c',h1,h2⟩:=h
 have hlt:=(List.getElem?_eq_some_iff.1 hk).1
 simp only [Value.slice.injEq] at h1
 rcases h2 with h2 | ⟨b,off,h3,h4,h5⟩
 ·omega
 ·have h6:=(h5 k s hk).2
  exact ⟨b,off,h1.1.trans h3,h4,(h5 k s hk).1,by simpa using h6 0 _ rfl,h6 1 _ rfl,h6 2 _ rfl,h6 3 _ rfl,h6 4 _ rfl,h6 5 _ rfl,h6 6 _ rfl,h6 7 _ rfl,h6 8 _ rfl,h6 9 _ rfl,h6 10 _ rfl,h6 11 _ rfl,h6 12 _ rfl,h6 13 _ rfl,h6 14 _ rfl,h6 15 _ rfl⟩
open Go.RowKit
open Mch (below1 below_nx)
theorem two_chk:checkW twoP=none:=by decide
theorem two_small:Small twoP:=⟨by decide,by decide,by decide,by decide,by decide⟩
theorem two_fit:Fit twoP:=by
 refine ⟨?_,?_,?_⟩
 ·intro x hx
  simp only [twoP,List.mem_singleton] at hx
  subst hx;exact i64_zero
 ·intro c hc x hx
  simp only [twoP,List.mem_cons,List.not_mem_nil,or_false] at hc
  rcases hc with rfl | rfl
  ·simp only [List.mem_cons,List.not_mem_nil,or_false] at hx
   rcases hx with rfl | rfl | rfl <;> exact ins_fit (by decide) (by decide) (by decide) (by decide) (by decide)
  ·simp only [List.mem_cons,List.not_mem_nil,or_false] at hx
   rcases hx with rfl | rfl <;> exact ins_fit (by decide) (by decide) (by decide) (by decide) (by decide)
 ·intro s hs;simp [twoP] at hs
theorem two_at {W:World} {b r0 r1 r2 r3:Nat} (h0:Blk W r0 3 #[.int .i64 0]) (h1:Blk W r1 95 #[.int .u8 9,.int .i64 0,.int .i64 0,.int .i64 0,.int .i64 1,.int .u8 5,.int .i64 0,.int .i64 0,.int .i64 0,.int .i64 0,.int .u8 10,.int .i64 0,.int .i64 0,.int .i64 0,.int .i64 0]) (h2:Blk W r2 95 #[.int .u8 6,.int .i64 1,.int .i64 2,.int .i64 0,.int .i64 0,.int .u8 10,.int .i64 0,.int .i64 0,.int .i64 0,.int .i64 0])
  (h3:Blk W r3 96 #[.slice (some ⟨r1,0,none⟩) 3 3,.slice (some ⟨r2,0,none⟩) 2 2]) (b0:b<=r0) (b1:b<=r1) (b2:b<=r2) (b3:b<=r3) :
  PrgAt b W.heap.size W (.slice (some ⟨r0,0,none⟩) 1 1) (.slice (some ⟨r3,0,none⟩) 2 2) (.slice none 0 0) twoP:=by
 refine OwnPrg.at ?_ two_fit
 refine ⟨?_,⟨_,owns_row h3 rfl (by decide) (by decide) b3,?_⟩,⟨[],World.ownsRow_nil _ _ _ _,fun k x hx=>by simp [twoP] at hx⟩⟩
 ·exact owns_row h0 rfl (by decide) (by decide) b0
 ·intro k u x hu hx
  have hk:k<2:=by have:=(List.getElem?_eq_some_iff.1 hx).1;simpa [twoP] using this
  have:k=0 \/ k=1:=by omega
  rcases this with rfl | rfl
  ·simp only [List.getElem?_cons_zero,Option.some.injEq,twoP] at hu hx
   subst hu hx
   exact owns_row h1 rfl (by decide) (by decide) b1
  ·simp only [List.getElem?_cons_succ,List.getElem?_cons_zero,Option.some.injEq,twoP] at hu hx
   subst hu hx
   exact owns_row h2 rfl (by decide) (by decide) b2
theorem two_any (w:World):Calls Tryz.prog 19 #[] w fun e w'=>∃ u1 u2 u3 lo,e=.returned (.agg #[u1,u2,u3])/\PrgAt lo w'.heap.size w' u1 u2 u3 twoP/\Below w.heap.size w w':=by
 go_enter Tryz.func19,Tryz.ntmps19
 go_wp2_with fail
 have hz:(Tryz.prog.info? 26).map (·.size)=some 3:=by kernel_rfl
 obtain ⟨P,hP⟩:∃ P:Array Value,P=#[.slice (some ⟨w.heap.size+1,0,none⟩) 1 1,.slice (some ⟨w.heap.size+1+1+1+1,0,none⟩) 2 2,.slice none 0 0]:=⟨_,rfl⟩
 obtain ⟨w1,hw1⟩:∃ w1,w1=w.alloc (.cells P 26):=⟨_,rfl⟩
 obtain ⟨w2,hw2⟩:∃ w2,w2=w1.alloc (.cells #[.int .i64 0] 3):=⟨_,rfl⟩
 obtain ⟨w3,hw3⟩:∃ w3,w3=w2.alloc (.cells #[.int .u8 9,.int .i64 0,.int .i64 0,.int .i64 0,.int .i64 1,.int .u8 5,.int .i64 0,.int .i64 0,.int .i64 0,.int .i64 0,.int .u8 10,.int .i64 0,.int .i64 0,.int .i64 0,.int .i64 0] 95):=⟨_,rfl⟩
 obtain ⟨w4,hw4⟩:∃ w4,w4=w3.alloc (.cells #[.int .u8 6,.int .i64 1,.int .i64 2,.int .i64 0,.int .i64 0,.int .u8 10,.int .i64 0,.int .i64 0,.int .i64 0,.int .i64 0] 95):=⟨_,rfl⟩
 obtain ⟨w5,hw5⟩:∃ w5,w5=w4.alloc (.cells #[.slice (some ⟨w.heap.size+1+1,0,none⟩) 3 3,.slice (some ⟨w.heap.size+1+1+1,0,none⟩) 2 2] 96):=⟨_,rfl⟩
 have s1:w1.heap.size=w.heap.size+1:=by rw [hw1];exact World.size_alloc _ _
 have s2:w2.heap.size=w.heap.size+1+1:=by rw [hw2,World.size_alloc,s1]
 have s3:w3.heap.size=w.heap.size+1+1+1:=by rw [hw3,World.size_alloc,s2]
 have s4:w4.heap.size=w.heap.size+1+1+1+1:=by rw [hw4,World.size_alloc,s3]
 have b1:Below w1.heap.size w1 w2:=by rw [hw2];exact below1 _ _
 have b2:Below w2.heap.size w2 w3:=by rw [hw3];exact below1 _ _
 have b3:Below w3.heap.size w3 w4:=by rw [hw4];exact below1 _ _
 have b4:Below w4.heap.size w4 w5:=by rw [hw5];exact below1 _ _
 have b0:Below w.heap.size w w1:=by rw [hw1];exact below1 _ _
 have B0:Blk w1 w.heap.size 26 P:=by rw [hw1];exact blk_new _ _ _
 have B1:Blk w2 (w.heap.size+1) 3 #[.int .i64 0]:=by rw [hw2];exact blk_at s1.symm
 have B2:Blk w3 (w.heap.size+1+1) 95 #[.int .u8 9,.int .i64 0,.int .i64 0,.int .i64 0,.int .i64 1,.int .u8 5,.int .i64 0,.int .i64 0,.int .i64 0,.int .i64 0,.int .u8 10,.int .i64 0,.int .i64 0,.int .i64 0,.int .i64 0]:=by rw [hw3];exact blk_at s2.symm
 have B3:Blk w4 (w.heap.size+1+1+1) 95 #[.int .u8 6,.int .i64 1,.int .i64 2,.int .i64 0,.int .i64 0,.int .u8 10,.int .i64 0,.int .i64 0,.int .i64 0,.int .i64 0]:=by rw [hw4];exact blk_at s3.symm
 have B4:Blk w5 (w.heap.size+1+1+1+1) 96 #[.slice (some ⟨w.heap.size+1+1,0,none⟩) 3 3,.slice (some ⟨w.heap.size+1+1+1,0,none⟩) 2 2]:=by rw [hw5];exact blk_at s4.symm
 have D3:=Blk.later B3 b4 B3.lt
 have D2:=Blk.later (Blk.later B2 b3 B2.lt) b4 (Blk.later B2 b3 B2.lt).lt
 have D1a:=Blk.later B1 b2 B1.lt
 have D1b:=Blk.later D1a b3 D1a.lt
 have D1:=Blk.later D1b b4 D1b.lt
 have D0a:=Blk.later B0 b1 B0.lt
 have D0b:=Blk.later D0a b2 D0a.lt
 have D0c:=Blk.later D0b b3 D0b.lt
 have D0:=Blk.later D0c b4 D0c.lt
 have hB:Below w.heap.size w w5:=below_nx (below_nx (below_nx (below_nx b0 b1 (Nat.le_refl _)) b2 (Nat.le_refl _)) b3 (Nat.le_refl _)) b4 (Nat.le_refl _)
 have hA:=two_at (b:=w.heap.size) D1 D2 D3 B4 (by omega) (by omega) (by omega) (by omega)
 rw [hP] at D0
 have hfin:∃ u1 u2 u3 lo,Ending.returned (.agg #[.slice (some ⟨w.heap.size+1,0,none⟩) 1 1,.slice (some ⟨w.heap.size+1+1+1+1,0,none⟩) 2 2,.slice none 0 0])=.returned (.agg #[u1,u2,u3])/\PrgAt lo w5.heap.size w5 u1 u2 u3 twoP/\Below w.heap.size w w5:=⟨_,_,_,_,rfl,hA,hB⟩
 rw [<- hP, <- hw1, <- hw2, <- hw3, <- hw4, <- hw5]
 exact bodyPost_ret (v:=.agg #[.slice (some ⟨w.heap.size+1,0,none⟩) 1 1,.slice (some ⟨w.heap.size+1+1+1+1,0,none⟩) 2 2,.slice none 0 0]) (results_cell_row rfl _ _ w.heap.size 26 _ (0,0) _ rfl D0 Tryz.underlying26 rfl hz) rfl hfin
open Go.RowKit
open Ent (En EnRow okB)
def m0:Mod:=newM twoP 4
def e0:En:=⟨0,9,0,0,1,0,1,0,0,0,false,0,0⟩
def e1:En:=⟨3,9,0,0,1,0,1,0,0,0,false,0,0⟩
def e2:En:=⟨0,8,0,0,0,0,0,0,0,0,false,0,0⟩
def e3:En:=⟨0,3,0,1,0,0,-1,-1,0,0,false,0,0⟩
def e4:En:=⟨0,10,0,1,0,0,0,0,0,0,false,0,0⟩
def p5:Pla:=⟨1,⟨1,1,0,0,1,0,0,0,0,0⟩⟩
theorem a_moves:m0.moves 0 = [e0]:=by kernel_rfl
def m1:Mod:=m0.apply e1
theorem a_g:m0.applyE e1=0:=by kernel_rfl
def m2:Mod:=m1.apply e2
theorem a_h:m1.applyE e2=0:=by kernel_rfl
theorem a_b:m2.moves 1 = [e3]:=by kernel_rfl
theorem a_i:m2.applyE e4=171:=by kernel_rfl
def m3:Mod:=m2.apply e4
theorem a_j:m3.applyE e3=0:=by kernel_rfl
def m4:Mod:=m3.apply e3
theorem a_x:(m4.task 1).getD Pla.zero=p5:=by kernel_rfl
theorem a_is:(m4.task 1).isSome=true:=by kernel_rfl
theorem a_n:m4.T.length=2:=by kernel_rfl
theorem i64_neg:Ent.I64b (-1):=by unfold Ent.I64b;omega
theorem i64_sm {n:Nat} (h:n<100):Ent.I64b (n:Int):=by unfold Ent.I64b;omega
theorem e1_ok:e1.ok:=⟨i64_sm (n:=3) (by decide),by decide,Ent.i64_zero,Ent.i64_zero,i64_sm (n:=1) (by decide),Ent.i64_zero,i64_sm (n:=1) (by decide),Ent.i64_zero,Ent.i64_zero,Ent.i64_zero,Ent.i64_zero,by decide⟩
theorem e2_ok:e2.ok:=⟨Ent.i64_zero,by decide,Ent.i64_zero,Ent.i64_zero,Ent.i64_zero,Ent.i64_zero,Ent.i64_zero,Ent.i64_zero,Ent.i64_zero,Ent.i64_zero,Ent.i64_zero,by decide⟩
theorem e3_ok:e3.ok:=⟨Ent.i64_zero,by decide,Ent.i64_zero,i64_sm (n:=1) (by decide),Ent.i64_zero,Ent.i64_zero,i64_neg,i64_neg,Ent.i64_zero,Ent.i64_zero,Ent.i64_zero,by decide⟩
theorem e4_ok:e4.ok:=⟨Ent.i64_zero,by decide,Ent.i64_zero,i64_sm (n:=1) (by decide),Ent.i64_zero,Ent.i64_zero,Ent.i64_zero,Ent.i64_zero,Ent.i64_zero,Ent.i64_zero,Ent.i64_zero,by decide⟩
theorem inv0:Inv m0:=inv_new two_chk two_small two_fit (by decide) (by decide)
def Lies (o:Nat->Nat) (W:World) (v:Value) (l:List En):Prop:=EnRow W v l/\∀ g,v.ownBlock=some g->o g=0
theorem Lies.of_new {n:Nat} {o:Nat->Nat} {W:World} {v:Value} {l:List En} (h:EnNew n W v l) (ho:∀ k,n<=k->o k=0):Lies o W v l:=⟨h.1,fun g e=>ho g (h.2 g e)⟩
theorem Lies.below {o:Nat->Nat} {W W':World} {v:Value} {l:List En} (h:Lies o W v l) (hb:Below W.heap.size W W'):Lies o W' v l:=⟨h.1.below hb,h.2⟩
theorem enrow_goes {o o':Nat->Nat} {W W':World} {v:Value} {l:List En} (h:EnRow W v l) (ho:∀ g,v.ownBlock=some g->o g=0) (hG:Goes o o' W W'):EnRow W' v l:=by
 obtain ⟨a,c,h1,h2⟩:=h
 refine ⟨a,c,h1,?_⟩
 rcases h2 with h2 | ⟨b,off,h3,h4,h5⟩
 ·exact .inl h2
 ·refine .inr ⟨b,off,h3,Nat.lt_of_lt_of_le h4 hG.frm.size,fun k x hk i u hi=>?_⟩
  rw [World.cell?_of_block (hG.frm.block b h4 (fun e=>e (ho b (by rw [h1,h3];rfl))))]
  exact h5 k x hk i u hi
theorem Lies.goes {o o':Nat->Nat} {W W':World} {v:Value} {x:En} {l:List En} (h:Lies o W v (x::l)) (hG:Goes o o' W W'):Lies o' W' v (x::l):=by
 refine ⟨enrow_goes h.1 h.2 hG,fun g e=>?_⟩
 obtain ⟨a,c,h1,h2⟩:=h.1
 rcases h2 with h2 | ⟨b,off,h3,h4,_⟩
 ·simp at h2
 ·have:g=b:=by rw [h1,h3] at e;simpa [Value.ownBlock] using e.symm
  rw [this,hG.old b h4]
  exact h.2 b (by rw [h1,h3];rfl)
theorem eq_run (y x:En) (W:World):(binOp .eql 39 (enV y) (enV x)).run Tryz.prog W=.ok (.bool (En.eq y x)) W:=by
 have u:=Tryz.underlying39
 simp [go_sem]
 cases h:En.eq y x with
 | true=>
  obtain rfl:=Ent.En.eq_iff.1 h
  simp
 | false=>
  have hne:y ≠ x:=fun e=>by rw [Ent.En.eq_iff.2 e] at h;cases h
  by_cases q_a:y.a=x.a
  case neg=>simp only [if_neg q_a]
  simp only [if_pos q_a]
  by_cases q_k:(y.k:Int)=(x.k:Int)
  case neg=>simp only [if_neg q_k]
  simp only [if_pos q_k]
  by_cases q_w:y.w=x.w
  case neg=>simp only [if_neg q_w]
  simp only [if_pos q_w]
  by_cases q_t:y.t=x.t
  case neg=>simp only [if_neg q_t]
  simp only [if_pos q_t]
  by_cases q_p:y.p=x.p
  case neg=>simp only [if_neg q_p]
  simp only [if_pos q_p]
  by_cases q_c:y.c=x.c
  case neg=>simp only [if_neg q_c]
  simp only [if_pos q_c]
  by_cases q_b:y.b=x.b
  case neg=>simp only [if_neg q_b]
  simp only [if_pos q_b]
  by_cases q_q:y.q=x.q
  case neg=>simp only [if_neg q_q]
  simp only [if_pos q_q]
  by_cases q_v:y.v=x.v
  case neg=>simp only [if_neg q_v]
  simp only [if_pos q_v]
  by_cases q_u:y.u=x.u
  case neg=>simp only [if_neg q_u]
  simp only [if_pos q_u]
  by_cases q_o:y.o=x.o
  case neg=>simp only [if_neg q_o]
  simp only [if_pos q_o]
  by_cases q_e:y.e=x.e
  case neg=>simp only [if_neg q_e]
  simp only [if_pos q_e]
  by_cases q_s:(y.s:Int)=(x.s:Int)
  case neg=>simp only [if_neg q_s]
  simp only [if_pos q_s]
  have r1:y.k=x.k:=by omega
  have r12:y.s=x.s:=by omega
  clear q_k q_s
  exact absurd (by
   cases y;cases x
   simp only at q_a q_w q_t q_p q_c q_b q_q q_v q_u q_o q_e r1 r12
   subst q_a q_w q_t q_p q_c q_b q_q q_v q_u q_o q_e r1 r12
   rfl) hne
open Go.RowKit
attribute [local go_sem] eqRegs
theorem pla_eq (y:Pla) (W:World):(binOp .eql 63 (plaV y) (plaV y)).run Tryz.prog W=.ok (.bool true) W:=by
 have u:=Tryz.underlying63
 have v:=Tryz.underlying61
 simp [go_sem]
end Go.Proofs.YtnfbncgfpmcpnaaGreat.Mdl
