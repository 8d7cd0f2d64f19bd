/-
  ReplayNext: its walks, part 33.
-/
import Derived.Test.YtnfbncgfpmcpnaaGreatQ32
set_option maxRecDepth 100000
set_option maxHeartbeats 12800000
namespace Go.Proofs.YtnfbncgfpmcpnaaGreat.Mdl
open Go.RowKit
open Ent (En)
open Mch (Wt)
open Mch (Chn Frm Fw Fl below1 below_nx owns_slice' boxed_below)
section
variable {o:Nat->Nat} {B:Nat} {M:Mod} {t:Int} {x:En}
theorem not_ready (h:Inv M) {l:List Opn} (hc:commits M t l = []) {q:Opn} (hm:q ∈ l):q.c = -1 \/ ((q.s=true->(M.ch q.c).buf.length=(M.ch q.c).m)/\(q.s=false->(M.ch q.c).buf = [])):=by
 by_cases hc1:q.c = -1
 ·exact .inl hc1
 ·refine .inr ?_
  have hnr:ready M q=false:=by
   cases hr:ready M q with
   | false=>rfl
   | true=>
    have:moveE t q (M.ch q.c) ∈ commits M t l:=List.mem_map.2 ⟨q,List.mem_filter.2 ⟨hm,hr⟩,rfl⟩
    rw [hc] at this;cases this
  have h6:(M.ch q.c).what q.s=6:=by
   unfold ready at hnr
   simp only [Bool.and_eq_false_imp,bne_iff_ne,ne_eq,hc1,not_false_eq_true,forall_const,bne_eq_false_iff_eq] at hnr
   exact hnr
  exact (what_six (h.chan q.c) h6).2
theorem blk_goes {W W':World} {o o':Nat->Nat} {A:Nat} {ty:TypeId} {cs:Array Value} (h:Blk W A ty cs) (hA:o A=0) (hg:Goes o o' W W'):Blk W' A ty cs:=(hg.frm.block A h.lt (fun e=>e hA)).trans h
theorem take_fold (t:Int) (N:Mod) {l:List Opn} {k:Nat} {q:Opn} (h:l[k]?=some q):(l.take (k+1)).foldl (waitAt t) N=waitAt t ((l.take k).foldl (waitAt t) N) q:=by
 rw [take_snoc' l h,List.foldl_append];rfl
theorem block_any (w:World) (h:Md w o B M) (hI:Inv M) (hx:MvOk M t x) (ht:0<=t/\t<(M.T.length:Int)) (hk:x.k=8) :
  Calls Tryz.prog 68 #[ptrV B,enV x] w (Deed o B (M.do_ x) w):=by
 obtain ⟨wa,hwa⟩:∃ wa,wa=w.alloc (.cells (enA x) 39):=⟨_,rfl⟩
 have hBa:Below w.heap.size w wa:=by rw [hwa];exact below1 w _
 have hX:EnO wa o w.heap.size x:=⟨by rw [hwa];exact blk_new w _ _,h.off (Nat.le_refl _)⟩
 have hh:=h.below hBa
 have hxt:=hx.tt
 have hxb:0<=x.t/\x.t<(M.T.length:Int):=by rw [hxt];exact ht
 have hst:=hx.st (.inr hk)
 obtain ⟨ho,hcm⟩:=hx.s8 hk
 rw [<- hxt] at hst ho hcm
 obtain ⟨ha,-⟩:=does_at hI.chk hst
 have hTr0:=tries_in hI.chk hI.cl (hI.sfr x.t) ha ho
 have hops0:=tries_ok hI.chk hI.cl (hI.sfr x.t) ha ho
 obtain ⟨f,hf⟩:∃ f,f=(M.stand x.t).1:=⟨_,rfl⟩
 obtain ⟨d,hd⟩:∃ d,d=M.does x.t:=⟨_,rfl⟩
 rw [<- hf, <- hd] at ha hTr0 hops0 hcm
 rw [<- hd] at ho
 have hst0:M.stand x.t=(f,0):=by rw [hf, <- hst]
 have hsa:=standAt_ok x.t wa hh (by have:=hI.t32;omega) hI.chk hI.small hst0 ha
 have hru:=fun W=>rule_any B x.t f d W (by omega) (by omega)
 obtain ⟨F2,hF2⟩:∃ F2,F2=mayF B x.t f d d.o:=⟨_,rfl⟩
 have hrv:rulV B x.t f d d.o=.agg #[.func (.func (triesK d.o)) #[stdV B x.t f d] #[],F2]:=by unfold rulV;rw [tryF_eq hTr0,hF2]
 simp only [hrv] at hru
 have htr:=fun (W:World) (hW:Below wa.heap.size wa W)=>tries_any x.t f d W (hh.below hW) hTr0
 have hlen:=hTr0.len
 have HD:Hid (M.do_ x=((tries M f d).foldl (waitAt x.t) M).setT x.t ⟨2,f⟩):=Lib.hid (by unfold Mod.do_;simp only [hk];unfold Mod.block;rw [hf,hd])
 have hWk:∀ k,Waits M (((tries M f d).take k).foldl (waitAt x.t) M):=fun k=>Waits.fold hxb _ _ hI.waits (fun q hq=>⟨hops0 q (List.mem_of_mem_take hq),not_ready hI hcm (List.mem_of_mem_take hq)⟩)
 obtain ⟨L,hL⟩:∃ L,L=tries M f d:=⟨_,rfl⟩
 rw [<- hL] at hops0 hlen HD
 simp only [<- hL] at htr hWk
 obtain ⟨n,hn⟩:∃ n,n=L.length:=⟨_,rfl⟩
 rw [<- hn] at hlen
 simp only [<- hn] at htr
 have HN:=Lib.hid hn
 obtain ⟨i,hi⟩:∃ i:Nat,(i:Int)=x.t:=⟨x.t.toNat,by omega⟩
 have hiT:i<M.T.length:=by omega
 obtain ⟨y,hy⟩:∃ y,M.T[i]?=some y:=⟨_,List.getElem?_eq_getElem hiT⟩
 have hen:=tries_enters d.o
 have qf:∀ W:World,(Instr.field 113 (.agg #[.func (.func (triesK d.o)) #[stdV B x.t f d] #[],F2]) 0).run Tryz.prog W=.ok (.func (.func (triesK d.o)) #[stdV B x.t f d] #[]) W:=fun W=>rul_tries _ _ W
 obtain ⟨KF,hKF⟩:∃ KF,KF=triesK d.o:=⟨_,rfl⟩
 rw [<- hKF] at hen
 simp only [<- hKF] at hru htr qf
 have e3:=hX.c3
 clear hk hxt hx ht h hst ho hcm ha hTr0 hf hd hst0 hF2 hrv hL hn hKF
 go_enter Tryz.func68,Tryz.ntmps68
 go_upto_region 1 with fail
 rw [<- hwa]
 clear hwa
 go_wp2_with fail
 refine hsa.mono ?_
 rintro e w2 ⟨rfl,hb2⟩
 go_upto_region 2 with fail
 obtain ⟨w3,hw3⟩:∃ w3,w3=w2.alloc (.cells (stdA B x.t f d) 107):=⟨_,rfl⟩
 have hb3:Below wa.heap.size wa w3:=by rw [hw3];exact Mch.Below.al hb2 hb2.size _
 have hS3:StAt w3 w2.heap.size B x.t f d:=by rw [hw3];exact blk_new w2 _ _
 have hz3:wa.heap.size<=w2.heap.size:=hb2.size
 rw [<- hw3]
 obtain ⟨P,hP⟩:∃ P,P=w2.heap.size:=⟨_,rfl⟩
 rw [<- hP] at hS3 hz3 ⊢
 clear hw3 hP hb2 hsa e3
 have hP0:o P=0:=hh.off hz3
 obtain ⟨s0,s1,s2,s3,s4,s5,s6,s7,s8,s9,s10,s11,s12,s13,s14,s15,s16⟩:=std_cells (show StAt w3 P B x.t f d from hS3)
 go_wp2_with fail
 refine (hru _).mono ?_
 clear s0 s1 s2 s3 s4 s5 s6 s7 s8 s9 s10 s11 s12 s13 s14 s15 s16 hru
 rintro e w4 ⟨rfl,hb4⟩
 have hB4:=below_nx hb3 hb4 (Nat.le_refl _)
 have htc:=htr w4 hB4
 have hS4:=Blk.later hS3 hb4 hS3.lt
 clear hS3 hb3 hb4 htr
 go_wp2_with fail
 refine htc.mono ?_
 clear htc qf
 rintro e w5 ⟨v3,rfl,hO5,hb5⟩
 have hB5:=below_nx hB4 hb5 (Nat.le_refl _)
 have hS5:=Blk.later hS4 hb5 hS4.lt
 have hX5:=hX.below hB5
 have hM5:=hh.below hB5
 have hO0:∀ g,v3.ownBlock=some g->o g=0:=fun g e=>(hh.below hB4).off (Mch.owns_ge hO5 g e)
 have hG5:=Goes.of_below (o:=o) (hBa.trans (hB5.mono hBa.size))
 clear hS4 hb5 hB4 hB5 hX hh hBa
 obtain ⟨oa,oc,rfl⟩:=owns_slice' hO5
 go_wp2_with fail
 go_loopw [20] (fun iv wr=>∃ k:Nat,k<=n/\iv=.int .i64 (k:Int)/\∃ o1,Md wr o1 B ((L.take k).foldl (waitAt x.t) M)/\Goes o o1 w5 wr) (fun iv _=>n - (intOf iv).toNat)
 case atStart=>exact ⟨0,by omega,rfl,o,hM5,Goes.refl _ _⟩
 case round=>
  obtain ⟨k,hk,rfl,o1,hr,hgo⟩:=hrel
  have hXr:=hX5.goes hgo
  by_cases hlt:k<n
  ·have hlt':(k:Int)<(n:Int):=by omega
   have q0:(0:Int)<=(k:Int):=by omega
   have hwr:IntKind.i64.wrap ((k:Int)+1)=(k:Int)+1:=by rw [IntKind.wrap_i64];omega
   obtain ⟨q,hq⟩:∃ q,L[k]?=some q:=⟨_,List.getElem?_eq_getElem (by rw [<- HN.out];exact hlt)⟩
   have hqo:=hops0 q (List.mem_of_getElem? hq)
   have hOr:=keep_row (Mch.owns_zero hO5) hgo.frm (fun g e hk=>hk (hO0 g e))
   obtain ⟨qb,rfl,hcq⟩:=ops_at (by rw [<- HN.out];exact hOr) hq
   have hWN:=hWk k
   have hIN:=hWN.inv hI
   have HT:=Lib.hid (take_fold x.t M hq)
   obtain ⟨Nk,hNk⟩:∃ Nk,Nk=(L.take k).foldl (waitAt x.t) M:=⟨_,rfl⟩
   rw [<- hNk] at hr hWN hIN HT
   clear hNk hq hOr
   obtain ⟨qb',qs,qc,qv⟩:=q
   have c0:wr.cell? ⟨qb,k * 4,none⟩=some (.int .i64 qb'):=by simpa using hcq 0 _ rfl
   have c1:wr.cell? ⟨qb,k * 4+1,none⟩=some (.bool qs):=hcq 1 _ rfl
   have c2:wr.cell? ⟨qb,k * 4+2,none⟩=some (.int .i64 qc):=hcq 2 _ rfl
   have c3:wr.cell? ⟨qb,k * 4+3,none⟩=some (.int .i64 qv):=hcq 3 _ rfl
   obtain ⟨w6,hw6⟩:∃ w6,w6=wr.alloc (.cells (opA ⟨qb',qs,qc,qv⟩) 193):=⟨_,rfl⟩
   have hb6:Below wr.heap.size wr w6:=by rw [hw6];exact below1 wr _
   have hQ6:Blk w6 wr.heap.size 193 (opA ⟨qb',qs,qc,qv⟩):=by rw [hw6];exact blk_new wr _ _
   have hQ0:o1 wr.heap.size=0:=hr.off (Nat.le_refl _)
   obtain ⟨Q,hQ⟩:∃ Q,Q=wr.heap.size:=⟨_,rfl⟩
   rw [<- hQ] at hQ6 hQ0
   clear hcq
   go_upto_region 5 with fail
   rw [<- hw6, <- hQ]
   clear hw6 hQ c0 c1 c2 c3
   have hM6:=hr.below hb6
   have hX6:=hXr.below hb6
   have hg6:=hgo.trans (Goes.of_below hb6)
   have c2:w6.cell? ⟨Q,2,none⟩=some (.int .i64 qc):=Blk.cell hQ6 rfl
   by_cases hc1:qc = -1
   ·have HW:Hid ((L.take (k+1)).foldl (waitAt x.t) M=Nk):=Lib.hid (by rw [HT.out];unfold waitAt;rw [if_pos hc1])
    have t1:(qc != -1)=false:=by rw [hc1];rfl
    have t2:(qc == -1)=true:=by rw [hc1];rfl
    clear hqo hX6 hQ6
    rw [hc1] at c2
    clear hc1 t1 t2
    go_wp2_with fail
    go_roundw
    case rel=>exact ⟨k+1,by omega,by go_num,o1,by rw [HW.out];exact hM6,hg6⟩
    case measure=>simp [intOf];omega
   ·have hqc:=hqo.c.resolve_left hc1
    obtain ⟨c,rfl⟩:∃ c:Nat,qc=(c:Int):=⟨qc.toNat,by have:(0:Int)<=qc:=hqc.1;omega⟩
    have HW:Hid ((L.take (k+1)).foldl (waitAt x.t) M=Nk.setC (c:Int) (Cha.wait qs ⟨x.t,qb',qv⟩)):=Lib.hid (by rw [HT.out];unfold waitAt;rw [if_neg hc1])
    have hcl:c<Nk.C.length:=by rw [hWN.len];have:((c:Int))<(M.C.length:Int):=hqc.2;omega
    obtain ⟨C,g,cap,hser⟩:=hM6.chan_do hcl (fn:=105) (args:=#[.bool qs,Wt.val ⟨x.t,qb',qv⟩]) (f:=Cha.wait qs ⟨x.t,qb',qv⟩) (R:=fun e=>∃ u,e=.returned u)
     (fun F C V hc=>(await_any _ qs ⟨x.t,qb',qv⟩ V hc (by have:=hIN.wl (c:Int);cases qs <;> simp [Mch.sel] <;> omega)).mono fun e w' ⟨v,h1,h2,h3⟩=>⟨⟨_,h1⟩,h2,h3⟩)
    have r0:Below w6.heap.size w6 w6.drew:=(Below.refl _ _).drew
    obtain ⟨n5,ng,hcall⟩:=hser _ r0
    have hcall':Calls Tryz.prog 105 #[ptrV C,.bool qs,.agg #[.int .i64 x.t,.int .i64 qb',.int .i64 qv]] w6.drew _:=hcall
    have hkS:∀ W,Blk W Q 193 (opA ⟨qb',qs,(c:Int),qv⟩)->EnO W o1 w.heap.size x \/ (∃ o2,EnO W o2 w.heap.size x)->W.cell? ⟨B,5,none⟩=some (.slice (some ⟨g,0,none⟩) Nk.C.length cap)->W.cell? ⟨g,c,none⟩=some (ptrV C)->W.cell? ⟨Q,0,none⟩=some (.int .i64 qb')/\W.cell? ⟨Q,1,none⟩=some (.bool qs)/\W.cell? ⟨Q,2,none⟩=some (.int .i64 (c:Int))/\W.cell? ⟨Q,3,none⟩=some (.int .i64 qv)/\W.cell? ⟨w.heap.size,3,none⟩=some (.int .i64 x.t)/\W.cell? ⟨B,5,none⟩=some (.slice (some ⟨g,0,none⟩) Nk.C.length cap)/\W.cell? ⟨g,c,none⟩=some (ptrV C):=fun W h1 h2 h3 h4=>⟨h1.cell rfl,h1.cell rfl,h1.cell rfl,h1.cell rfl,by rcases h2 with h2 | ⟨_,h2⟩ <;> exact h2.c3,h3,h4⟩
    have e0:=hkS w6.drew (hQ6.later r0 hQ6.lt) (.inl (hX6.below r0)) n5 ng
    obtain ⟨z0,z1,z2,z3,z4,z5,z6⟩:=id e0
    have t1:((c:Int) != -1)=true:=by simp
    have t2 : ¬ (c:Int) = -1:=hc1
    have u0:(0:Int)<=(c:Int):=by omega
    have u1:(c:Int)<(Nk.C.length:Int):=by omega
    clear hqo hqc hcl hser hcall hc1 n5 ng
    go_upto_region 6 with fail
    go_region_held3 (fun W=>W.cell? ⟨Q,0,none⟩=some (.int .i64 qb')/\W.cell? ⟨Q,1,none⟩=some (.bool qs)/\W.cell? ⟨Q,2,none⟩=some (.int .i64 (c:Int))/\W.cell? ⟨Q,3,none⟩=some (.int .i64 qv)/\W.cell? ⟨w.heap.size,3,none⟩=some (.int .i64 x.t)/\W.cell? ⟨B,5,none⟩=some (.slice (some ⟨g,0,none⟩) Nk.C.length cap)/\W.cell? ⟨g,c,none⟩=some (ptrV C))
     (with_reducible first | exact f7 | exact e0)
     ((go_at_call 105;refine hcall'.mono ?_;rintro e w7 ⟨⟨u,rfl⟩,⟨o2,h2,g2⟩,c5,c6⟩;have f7:=hkS w7 (blk_goes (hQ6.later r0 hQ6.lt) hQ0 g2) (.inr ⟨o2,(hX6.below r0).goes g2⟩) c5 c6))
    have hg7:=(hg6.trans (Goes.of_below r0)).trans g2
    clear hkS e0 f7 z0 z1 z2 z3 z4 z5 z6 c5 c6 hX6 hQ6 t1 t2 u0 u1 r0 hcall'
    go_wp2_with fail
    go_roundw
    case rel=>exact ⟨k+1,by omega,by go_num,o2,by rw [HW.out];exact h2,hg7⟩
    case measure=>simp [intOf];omega
  ·obtain rfl:k=n:=by omega
   have hLk:L.take k=L:=by rw [HN.out];exact List.take_length
   have hWN:=hWk k
   rw [hLk] at hr hWN
   obtain ⟨N,hN⟩:∃ N,N=L.foldl (waitAt x.t) M:=⟨_,rfl⟩
   rw [<- hN] at hr hWN HD
   have hTN:N.T=M.T:=hWN.T
   have hSr:=blk_goes hS5 hP0 hgo
   obtain ⟨lo,hi',v1,v2,v3',vT,vC,Cs,hM⟩:=hr
   have hyN:N.T[i]?=some y:=by rw [hTN];exact hy
   have hiN:i<N.T.length:=by rw [hTN];exact hiT
   obtain ⟨g,cap,rfl,-⟩:=hM.place hyN
   obtain ⟨pz,p1,p2,p3,p4,p5,p6,p7,p8,p9,p10,pf⟩:=hM.cells11 hyN
   have q0:(0:Int)<=(i:Int):=by omega
   have q1:(i:Int)<(N.T.length:Int):=by omega
   have tk:wr.cell? ⟨B,4,none⟩=some (.slice (some ⟨g,0,none⟩) N.T.length cap):=hM.tk
   have tkd:wr.drew.cell? ⟨B,4,none⟩=some (.slice (some ⟨g,0,none⟩) N.T.length cap):=hM.tk
   have e3:wr.drew.cell? ⟨w.heap.size,3,none⟩=some (.int .i64 (i:Int)):=by rw [hi];exact hXr.c3
   obtain ⟨s0,s1,s2,s3,s4,s5,s6,s7,s8,s9,s10,s11,-⟩:=std_cells (show StAt wr.drew P B x.t f d from hSr)
   obtain ⟨hT1,hF1⟩:=hM.tasked hiN ⟨2,f⟩ rfl
   have hT2:=hT1.drew
   have hG:Goes o o1 w (putFrom wr g (i * 11) (Pla.cellsL ⟨2,f⟩)).drew:=((hG5.trans hgo).trans (Goes.of_frm hF1 (fun k e=>by rw [e];omega))).trans (Goes.of_below (Below.refl _ _).drew)
   have HD2:Hid (M.do_ x = { N with T:=N.T.set i ⟨2,f⟩ }):=Lib.hid (by rw [HD.out];unfold Mod.setT;rw [<- hi,Int.toNat_natCast])
   clear hT1 hF1 hM hSr hXr hgo hG5 hN hTN hWN hWk hLk hy hyN hiN hiT HD hX5 hM5 hO5 hO0 hops0 hI hi
   go_upto_region 8 with fail
   go_region
   rw [put11]
   go_wp2_with fail
   go_end0
   rw [HD2.out]
   exact ⟨rfl,o1,⟨_,_,_,_,_,_,_,_,hT2⟩,hG⟩
end
open Go.RowKit
open Ent (En)
open Mch (below1 below_nx)
def deedK:Nat->FuncId
 | 1=>61
 | 2=>62
 | 3=>63
 | 4=>64
 | 5=>65
 | 6=>66
 | 7=>67
 | 8=>68
 | 9=>69
 | 10=>70
 | _=>71
def deeF (B:Nat) (k:Nat):Value:=.func (.func (deedK k)) #[ptrV B] #[]
theorem deed_enters (k:Nat):∀ (args:Array Value) (W:World),(callFunc (deedK k) args).run Tryz.prog W=.ok (.enter (deedK k) args) W:=by
 unfold deedK
 split
 ·exact enters_of Tryz.func61 (by kernel_rfl) rfl
 ·exact enters_of Tryz.func62 (by kernel_rfl) rfl
 ·exact enters_of Tryz.func63 (by kernel_rfl) rfl
 ·exact enters_of Tryz.func64 (by kernel_rfl) rfl
 ·exact enters_of Tryz.func65 (by kernel_rfl) rfl
 ·exact enters_of Tryz.func66 (by kernel_rfl) rfl
 ·exact enters_of Tryz.func67 (by kernel_rfl) rfl
 ·exact enters_of Tryz.func68 (by kernel_rfl) rfl
 ·exact enters_of Tryz.func69 (by kernel_rfl) rfl
 ·exact enters_of Tryz.func70 (by kernel_rfl) rfl
 ·exact enters_of Tryz.func71 (by kernel_rfl) rfl
theorem deeds_any (B:Nat) (w:World) :
  Calls Tryz.prog 34 #[ptrV B] w fun e w'=>∃ M g,e=.returned (.map (some M))/\DeeMap w' M g 11/\(∀ k,1<=k->k<=11->g k=some (deeF B k))/\Below w.heap.size w w':=by
 have hmf:∀ (fn:Fn) (first cap:Array Value) (w:World),(Instr.makeFunc fn first cap).run Tryz.prog w=.ok (.func fn first cap) w:=fun _ _ _ _=>rfl
 have hmm:=@run_makeMap Tryz.prog
 obtain ⟨w2,hw2⟩:∃ w2,w2=w.alloc (.map #[] 0):=⟨_,rfl⟩
 have hS:Below w.heap.size w w2:=by rw [hw2];exact below1 w _
 have hM:DeeMap w2 w.heap.size (fun _=>none) 0:=by rw [hw2];exact Deemap_made w
 have hkeep:∀ W W',Below w.heap.size w W->W.grownBy W' (some w.heap.size)->Below w.heap.size w W':=fun W W' h hg=>rul_below h (Nat.le_refl _) (Nat.le_refl _) hg
 rw [hw2] at hM hS
 clear hw2
 go_enter Tryz.func34,Tryz.ntmps34
 go_wp2_with (first
  | (refine wpList_insDee _ rfl _ _ _ rfl w.heap.size _ _ 1 (deeF B 1) rfl hM (by decide) rfl (by decide) rfl (by rfl) ?_;intro wx hMx hgx;have hSx:=hkeep _ _ hS hgx;clear hM hS hgx;have hM:=hMx;have hS:=hSx;clear hMx hSx;go_frame)
  | (refine wpList_insDee _ rfl _ _ _ rfl w.heap.size _ _ 2 (deeF B 2) rfl hM (by decide) rfl (by decide) rfl (by rfl) ?_;intro wx hMx hgx;have hSx:=hkeep _ _ hS hgx;clear hM hS hgx;have hM:=hMx;have hS:=hSx;clear hMx hSx;go_frame)
  | (refine wpList_insDee _ rfl _ _ _ rfl w.heap.size _ _ 3 (deeF B 3) rfl hM (by decide) rfl (by decide) rfl (by rfl) ?_;intro wx hMx hgx;have hSx:=hkeep _ _ hS hgx;clear hM hS hgx;have hM:=hMx;have hS:=hSx;clear hMx hSx;go_frame)
  | (refine wpList_insDee _ rfl _ _ _ rfl w.heap.size _ _ 4 (deeF B 4) rfl hM (by decide) rfl (by decide) rfl (by rfl) ?_;intro wx hMx hgx;have hSx:=hkeep _ _ hS hgx;clear hM hS hgx;have hM:=hMx;have hS:=hSx;clear hMx hSx;go_frame)
  | (refine wpList_insDee _ rfl _ _ _ rfl w.heap.size _ _ 5 (deeF B 5) rfl hM (by decide) rfl (by decide) rfl (by rfl) ?_;intro wx hMx hgx;have hSx:=hkeep _ _ hS hgx;clear hM hS hgx;have hM:=hMx;have hS:=hSx;clear hMx hSx;go_frame)
  | (refine wpList_insDee _ rfl _ _ _ rfl w.heap.size _ _ 6 (deeF B 6) rfl hM (by decide) rfl (by decide) rfl (by rfl) ?_;intro wx hMx hgx;have hSx:=hkeep _ _ hS hgx;clear hM hS hgx;have hM:=hMx;have hS:=hSx;clear hMx hSx;go_frame)
  | (refine wpList_insDee _ rfl _ _ _ rfl w.heap.size _ _ 7 (deeF B 7) rfl hM (by decide) rfl (by decide) rfl (by rfl) ?_;intro wx hMx hgx;have hSx:=hkeep _ _ hS hgx;clear hM hS hgx;have hM:=hMx;have hS:=hSx;clear hMx hSx;go_frame)
  | (refine wpList_insDee _ rfl _ _ _ rfl w.heap.size _ _ 8 (deeF B 8) rfl hM (by decide) rfl (by decide) rfl (by rfl) ?_;intro wx hMx hgx;have hSx:=hkeep _ _ hS hgx;clear hM hS hgx;have hM:=hMx;have hS:=hSx;clear hMx hSx;go_frame)
  | (refine wpList_insDee _ rfl _ _ _ rfl w.heap.size _ _ 9 (deeF B 9) rfl hM (by decide) rfl (by decide) rfl (by rfl) ?_;intro wx hMx hgx;have hSx:=hkeep _ _ hS hgx;clear hM hS hgx;have hM:=hMx;have hS:=hSx;clear hMx hSx;go_frame)
  | (refine wpList_insDee _ rfl _ _ _ rfl w.heap.size _ _ 10 (deeF B 10) rfl hM (by decide) rfl (by decide) rfl (by rfl) ?_;intro wx hMx hgx;have hSx:=hkeep _ _ hS hgx;clear hM hS hgx;have hM:=hMx;have hS:=hSx;clear hMx hSx;go_frame)
  | (refine wpList_insDee _ rfl _ _ _ rfl w.heap.size _ _ 11 (deeF B 11) rfl hM (by decide) rfl (by decide) rfl (by rfl) ?_;intro wx hMx hgx;have hSx:=hkeep _ _ hS hgx;clear hM hS hgx;have hM:=hMx;have hS:=hSx;clear hMx hSx;go_frame))
 go_ret
 refine ⟨_,_,rfl,hM,fun k h1 h11=>?_,hS⟩
 have:k=1 \/ k=2 \/ k=3 \/ k=4 \/ k=5 \/ k=6 \/ k=7 \/ k=8 \/ k=9 \/ k=10 \/ k=11:=by omega
 rcases this with rfl | rfl | rfl | rfl | rfl | rfl | rfl | rfl | rfl | rfl | rfl <;> simp [upd]
section
variable {o:Nat->Nat} {B:Nat} {M:Mod} {t:Int} {x:En}
theorem deed_any (w:World) (h:Md w o B M) (hI:Inv M) (hx:MvOk M t x) (ht:0<=t/\t<(M.T.length:Int)):Calls Tryz.prog (deedK x.k) #[ptrV B,enV x] w (Deed o B (M.do_ x) w):=by
 have hk:x.k=1 \/ x.k=2 \/ x.k=3 \/ x.k=4 \/ x.k=5 \/ x.k=6 \/ x.k=7 \/ x.k=8 \/ x.k=9 \/ x.k=10 \/ x.k=11:=by have:=hx.k;omega
 rcases hk with hk | hk | hk | hk | hk | hk | hk | hk | hk | hk | hk
 ·rw [show deedK x.k=61 by rw [hk];rfl]
  exact send_any w h hI hx ht hk
 ·rw [show deedK x.k=62 by rw [hk];rfl]
  exact receive_any w h hI hx ht hk
 ·rw [show deedK x.k=63 by rw [hk];rfl]
  cases ho:x.o with
  | true=>exact meet_true_any w h hI hx ht hk ho
  | false=>exact meet_false_any w h hI hx ht hk ho
 ·rw [show deedK x.k=64 by rw [hk];rfl]
  exact refill_any w h hI hx ht hk
 ·rw [show deedK x.k=65 by rw [hk];rfl]
  exact shut_any w h hI hx ht hk
 ·rw [show deedK x.k=66 by rw [hk];rfl]
  exact wake_any w h hI hx ht hk
 ·rw [show deedK x.k=67 by rw [hk];rfl]
  exact pass_any w h hI hx ht hk
 ·rw [show deedK x.k=68 by rw [hk];rfl]
  exact block_any w h hI hx ht hk
 ·rw [show deedK x.k=69 by rw [hk];rfl]
  exact spawnD_any w h hI hx ht hk
 ·rw [show deedK x.k=70 by rw [hk];rfl]
  exact end_any w h hI hx ht hk
 ·rw [show deedK x.k=71 by rw [hk];rfl]
  exact halt_any w h hI hx ht hk
end
open Go.RowKit
open Ent (En EnRow)
open Mch (below1 below_nx)
theorem index_any (x:En) (v:Value) (l:List En) (w:World) (h:EnRow w v l) (hl:l.length<=1000000) :
  Calls Tryz.prog 60 #[v,enV x] w fun e w'=>∃ k:Int,e=.returned (.int .i64 k)/\(0<=k ↔ x ∈ l)/\Below w.heap.size w w':=by
 obtain ⟨wa,hwa⟩:∃ wa,wa=w.alloc (.cells (enA x) 39):=⟨_,rfl⟩
 have hBa:Below w.heap.size w wa:=by rw [hwa];exact below1 w _
 have hX:Blk wa w.heap.size 39 (enA x):=by rw [hwa];exact blk_new w _ _
 have hR:=h.below hBa
 obtain ⟨a,c,rfl⟩:=h.slice
 obtain ⟨n,hn⟩:∃ n,n=l.length:=⟨_,rfl⟩
 rw [<- hn] at hl hR ⊢
 have HN:=Lib.hid hn
 clear h hn
 go_enter Tryz.func60,Tryz.ntmps60
 go_upto_region 1 with fail
 rw [<- hwa]
 clear hwa
 go_wp2_with fail
 go_loopw [4,8] (fun _ iv wr=>∃ j:Nat,j<=n/\iv=.int .i64 (j:Int)/\Below wa.heap.size wa wr/\Hid (∀ m y,m<j->l[m]?=some y->y ≠ x)) (fun _ iv _=>n - (intOf iv).toNat)
 case atStart=>exact ⟨0,by omega,rfl,Below.refl _ _,Lib.hid (fun m y hm=>by omega)⟩
 case round=>
  obtain ⟨j,hj,rfl,hB,HX⟩:=hrel
  by_cases hlt:j<n
  ·have hlt':(j:Int)<(n:Int):=by omega
   have q0:(0:Int)<=(j:Int):=by omega
   have hwr:IntKind.i64.wrap ((j:Int)+1)=(j:Int)+1:=by rw [IntKind.wrap_i64];omega
   obtain ⟨y,hy⟩:∃ y,l[j]?=some y:=⟨_,List.getElem?_eq_getElem (by rw [<- HN.out];exact hlt)⟩
   obtain ⟨b,off,rfl,-, y0,y1,y2,y3,y4,y5,y6,y7,y8,y9,y10,y11,y12⟩:=(hR.below hB).at hy
   have hXr:=hX.later hB hX.lt

   have x0:wr.cell? ⟨w.heap.size,0,none⟩=some (.int .i64 x.a):=hXr.cell rfl
   have x1:wr.cell? ⟨w.heap.size,1,none⟩=some (.int .u8 (x.k:Int)):=hXr.cell rfl
   have x2:wr.cell? ⟨w.heap.size,2,none⟩=some (.int .i64 x.w):=hXr.cell rfl
   have x3:wr.cell? ⟨w.heap.size,3,none⟩=some (.int .i64 x.t):=hXr.cell rfl
   have x4:wr.cell? ⟨w.heap.size,4,none⟩=some (.int .i64 x.p):=hXr.cell rfl
   have x5:wr.cell? ⟨w.heap.size,5,none⟩=some (.int .i64 x.c):=hXr.cell rfl
   have x6:wr.cell? ⟨w.heap.size,6,none⟩=some (.int .i64 x.b):=hXr.cell rfl
   have x7:wr.cell? ⟨w.heap.size,7,none⟩=some (.int .i64 x.q):=hXr.cell rfl
   have x8:wr.cell? ⟨w.heap.size,8,none⟩=some (.int .i64 x.v):=hXr.cell rfl
   have x9:wr.cell? ⟨w.heap.size,9,none⟩=some (.int .i64 x.u):=hXr.cell rfl
   have x10:wr.cell? ⟨w.heap.size,10,none⟩=some (.bool x.o):=hXr.cell rfl
   have x11:wr.cell? ⟨w.heap.size,11,none⟩=some (.int .i64 x.e):=hXr.cell rfl
   have x12:wr.cell? ⟨w.heap.size,12,none⟩=some (.int .u64 (x.s:Int)):=hXr.cell rfl
   have heq:=Ent.eq_run x y
   have HY:=Lib.hid hy
   clear hy hXr
   cases he:Ent.En.eq x y with
   | true=>
    have HE:Hid (x=y):=Lib.hid (Ent.En.eq_iff.1 he)
    rw [he] at heq
    clear he
    go_wp2_with fail
    go_quiet (fail)
    go_wp2_with fail
    go_ret
    refine ⟨_,rfl,⟨fun _=>?_,fun _=>by omega⟩,hBa.trans ((Mch.below_drewN hB _).mono hBa.size)⟩
    rw [HE.out]
    exact List.mem_of_getElem? HY.out
   | false=>
    have HE:Hid (y ≠ x):=Lib.hid (fun e=>by rw [e,Ent.En.eq_refl] at he;cases he)
    rw [he] at heq
    clear he
    go_wp2_with fail
    go_quiet (fail)
    go_wp2_with fail
    go_roundw
    case rel=>
     refine ⟨j+1,by omega,by go_num,Mch.below_drewN hB _,Lib.hid (fun m z hm hz=>?_)⟩
     by_cases e:m=j
     ·subst e
      rw [HY.out] at hz
      cases hz
      exact HE.out
     ·exact HX.out m z (by omega) hz
    case measure=>simp [intOf];omega
  ·obtain rfl:j=n:=by omega
   have HF:Hid (x ∉ l):=Lib.hid (fun hm=>by
    obtain ⟨m,hml,rfl⟩:=List.mem_iff_getElem.1 hm
    exact HX.out m _ (by rw [HN.out];exact hml) (List.getElem?_eq_getElem hml) rfl)
   clear HX
   go_wp2_with fail
   go_ret
   exact ⟨-1,rfl,⟨fun e=>by omega,fun e=>absurd e HF.out⟩,hBa.trans (hB.mono hBa.size)⟩
theorem contains_any (x:En) (v:Value) (l:List En) (w:World) (h:EnRow w v l) (hl:l.length<=1000000) :
  Calls Tryz.prog 33 #[v,enV x] w fun e w'=>e=.returned (.bool (decide (x ∈ l)))/\Below w.heap.size w w':=by
 obtain ⟨wa,hwa⟩:∃ wa,wa=w.alloc (.cells (enA x) 39):=⟨_,rfl⟩
 have hBa:Below w.heap.size w wa:=by rw [hwa];exact below1 w _
 have hX:Blk wa w.heap.size 39 (enA x):=by rw [hwa];exact blk_new w _ _
 have hi:=index_any x v l wa (h.below hBa) hl
 obtain ⟨a,c,rfl⟩:=h.slice
 obtain ⟨b,hb⟩:∃ b,b=decide (x ∈ l):=⟨_,rfl⟩
 rw [<- hb]
 have HB:=Lib.hid hb
 have x0:wa.cell? ⟨w.heap.size,0,none⟩=some (.int .i64 x.a):=hX.cell rfl
 have x1:wa.cell? ⟨w.heap.size,1,none⟩=some (.int .u8 (x.k:Int)):=hX.cell rfl
 have x2:wa.cell? ⟨w.heap.size,2,none⟩=some (.int .i64 x.w):=hX.cell rfl
 have x3:wa.cell? ⟨w.heap.size,3,none⟩=some (.int .i64 x.t):=hX.cell rfl
 have x4:wa.cell? ⟨w.heap.size,4,none⟩=some (.int .i64 x.p):=hX.cell rfl
 have x5:wa.cell? ⟨w.heap.size,5,none⟩=some (.int .i64 x.c):=hX.cell rfl
 have x6:wa.cell? ⟨w.heap.size,6,none⟩=some (.int .i64 x.b):=hX.cell rfl
 have x7:wa.cell? ⟨w.heap.size,7,none⟩=some (.int .i64 x.q):=hX.cell rfl
 have x8:wa.cell? ⟨w.heap.size,8,none⟩=some (.int .i64 x.v):=hX.cell rfl
 have x9:wa.cell? ⟨w.heap.size,9,none⟩=some (.int .i64 x.u):=hX.cell rfl
 have x10:wa.cell? ⟨w.heap.size,10,none⟩=some (.bool x.o):=hX.cell rfl
 have x11:wa.cell? ⟨w.heap.size,11,none⟩=some (.int .i64 x.e):=hX.cell rfl
 have x12:wa.cell? ⟨w.heap.size,12,none⟩=some (.int .u64 (x.s:Int)):=hX.cell rfl
 clear h hl hb hX
 go_enter Tryz.func33,Tryz.ntmps33
 go_upto_region 1 with fail
 rw [<- hwa]
 clear hwa
 go_wp2_with fail
 refine hi.mono ?_
 rintro e w2 ⟨k,rfl,hk,hb2⟩
 have HK:Hid (decide (0<=k)=b):=Lib.hid (by rw [HB.out];exact decide_eq_decide.2 hk)
 clear hk
 go_wp2_with fail
 go_ret
 rw [<- HK.out]
 exact ⟨rfl,below_nx hBa hb2 (Nat.le_refl _)⟩
open Go.RowKit
open Ent (En EnRow okB)
open Mch (Frm below1 below_nx boxed_below)
def AppPost (o:Nat->Nat) (B:Nat) (N:Mod) (k:Int) (w:World) (e:Ending) (w':World):Prop:=e=.returned (.int .i64 k)/\∃ o',Md w' o' B N/\Goes o o' w w'
def applyDefer (E:Nat):List Deferred:=[{ target:=Target.fn (.func 29) #[.pointer (some ⟨E,0,none⟩)],args:=#[] }]
theorem md_off {W W':World} {o:Nat->Nat} {B E:Nat} {M:Mod} (h:Md W o B M) (hF:Frm (fun j=>j=E) W W') (hE:o E=0):Md W' o B M:=by
 obtain ⟨lo,hi,v1,v2,v3,vT,vC,Cs,h⟩:=h
 have hn:∀ k,o k ≠ 0->¬ k=E:=fun k hk e=>hk (by rw [e];exact hE)
 exact ⟨lo,hi,v1,v2,v3,vT,vC,Cs,{
  head:=(hF.block B h.head.lt (hn B (by rw [h.hown];omega))).trans h.head
  hown:=h.hown
  prog:=keep_prog h.prog hF (fun k h1 h2=>hn k (by rw [h.pown k h1 h2];omega))
  pown:=h.pown
  tasks:=keep_row h.tasks hF (fun g e=>hn g (by rw [h.town g e];omega))
  town:=h.town
  chans:=keep_row h.chans hF (fun g e=>hn g (by rw [h.cown g e];omega))
  cown:=h.cown
  len:=h.len
  chs:=fun j C c hC hc=>keep_chn (h.chs j C c hC hc) hF (fun k hk=>hn k (by rw [hk];omega))
  low:=fun k hk=>Nat.lt_of_lt_of_le (h.low k hk) hF.size }⟩
theorem apply_dies {o:Nat->Nat} {B:Nat} {N:Mod} {w:World} (E:Nat) (w1:World) (T:Array Value) (k x0:Int) (h4:T[4]?.getD undef=.pointer (some ⟨E,0,none⟩))
  (hE:Boxed w1 E 31 (.int .i64 x0)) (hN:Md w1 o B N) (hG:Goes o o w w1) (hE0:o E=0) (hw:w.heap.size<=E) :
  bodyPostD Tryz.prog Tryz.f9 (AppPost o B N k w) (.panic [{ v:=.iface 68 (.agg #[.int .i64 k]),recovered:=false }]) { tmps:=T,defers:=applyDefer E } w1:=by
 refine leaves_cons (f:=29) (args:=#[.pointer (some ⟨E,0,none⟩)]) (by simp) (by simp [go_sem]) ?_
 refine (apply_caught E k [] w1 x0 hE).mono ?_
 rintro e' u' w'' ⟨rfl,rfl,hE',hbt⟩
 have q:=hE'.cell
 have hF:Frm (fun j=>j=E) w1 w'':=⟨hbt.os,hbt.tape,hbt.output,hbt.size,fun j hj hn=>hbt.block j hj (by simpa using hn)⟩
 have hN2:=md_off hN hF hE0
 have hG2:Goes o o w w'':=⟨fun _ _=>rfl,Mch.Frm.trans_new hG.frm hF (fun i hi=>.inr (by rw [hi];exact hw))⟩
 have hfin:AppPost o B N k w (.returned (.int .i64 k)) w'':=⟨rfl,o,hN2,hG2⟩
 simp [Leaves,settle,results,Tryz.f9,go_sem,h4,q]
 exact hfin
theorem apply_ends {o o':Nat->Nat} {B:Nat} {N:Mod} {w:World} (E:Nat) (w1:World) (T:Array Value) (k:Int) (h4:T[4]?.getD undef=.pointer (some ⟨E,0,none⟩))
  (hE:Boxed w1 E 31 (.int .i64 k)) (hN:Md w1 o' B N) (hG:Goes o o' w w1) :
  bodyPostD Tryz.prog Tryz.f9 (AppPost o B N k w) .ret { tmps:=T,defers:=applyDefer E } w1:=by
 refine leaves_cons (f:=29) (args:=#[.pointer (some ⟨E,0,none⟩)]) (by simp) (by simp [go_sem]) ?_
 refine (apply_idle E w1).mono ?_
 rintro e' u' w'' ⟨rfl,rfl,hbt⟩
 have q:=(boxed_below hE hbt).cell
 have hfin:AppPost o B N k w (.returned (.int .i64 k)) w'':=⟨rfl,o',hN.below hbt,hG.trans (Goes.of_below hbt)⟩
 simp [Leaves,settle,results,Tryz.f9,go_sem,h4,q]
 exact hfin
def PanD (D:Act->Prop) (R:List PanicEntry->World->Prop) (Q:Exit->Act->World->Prop):Exit->Act->World->Prop
 | .panic c,a,w=>D a/\R c w
 | e,a,w=>Q e a w
theorem wp_region_panD {P:Program} {id:Nat} {ops:Array Oper} {b:Bool} {Q:Exit->Act->World->Prop} {a:Act} {w:World} (D:Act->Prop) (R:List PanicEntry->World->Prop) (hR:∀ c a w,D a->R c w->Q (.panic c) a w)
  (h:(Code.region id ops b).wp P (PanD D R Q) a w):(Code.region id ops b).wp P Q a w:=
 Code.wp_mono (fun e a w h=>by cases e <;> first | exact h | exact hR _ _ _ h.1 h.2) h
def AppAct (E:Nat) (a:Act):Prop:=a.defers=applyDefer E/\a.tmps[4]?.getD undef=.pointer (some ⟨E,0,none⟩)
theorem appAct_put {E i:Nat} {v:Value} (hi:i ≠ 4) {R:List PanicEntry->World->Prop} {Q:Exit->Act->World->Prop}:∀ c a w,PanD (AppAct E) R Q (.panic c) (a.put (some i) v) w->PanD (AppAct E) R Q (.panic c) a w:=by
 rintro c ⟨tm,df⟩ w ⟨⟨h1,h2⟩,h3⟩
 refine ⟨⟨h1,?_⟩,h3⟩
 simpa [Act.put,Array.getElem?_setIfInBounds_ne hi] using h2
section
variable {o:Nat->Nat} {B:Nat} {M:Mod} {x:En}
theorem apply_halted (w:World) (h:Md w o B M) (he:M.e ≠ 0) :
  Calls Tryz.prog 9 #[ptrV B,enV x] w (AppPost o B M 170 w):=by
 obtain ⟨w2,hw2⟩:∃ w2,w2=(w.alloc (.cells (enA x) 39)).alloc (.cells #[.int .i64 0] 31):=⟨_,rfl⟩
 have hB2:Below w.heap.size w w2:=by rw [hw2];exact below2 w _ _
 have hX2:Blk w2 w.heap.size 39 (enA x):=by rw [hw2];exact (blk_new w _ _).alloc _
 have hE2:Boxed w2 (w.heap.size+1) 31 (.int .i64 0):=by
  have h1:=Boxed.new (w.alloc (.cells (enA x) 39)) 31 (.int .i64 0)
  rw [World.size_alloc] at h1
  rw [hw2];exact h1
 have hM2:=h.below hB2
 have hG2:Goes o o w w2:=Goes.of_below hB2
 have hE0:o (w.heap.size+1)=0:=h.off (by omega)
 have hhl:=halted_any w2 hM2
 have hmf:∀ (fn:Fn) (first cap:Array Value) (w:World),(Instr.makeFunc fn first cap).run Tryz.prog w=.ok (.func fn first cap) w:=fun _ _ _ _=>rfl
 have hne:(M.e != 0)=true:=by simpa using he
 rw [hne] at hhl
 clear hne he h hB2 hX2
 go_enter_defers Tryz.func9,Tryz.ntmps9
 go_wp2_with fail
 rw [<- hw2]
 clear hw2
 refine (mneed_ok 1 w2).mono ?_
 rintro e w2 ⟨rfl,rfl⟩
 go_wp2_with fail
 refine hhl.mono ?_
 rintro e w2 ⟨rfl,rfl⟩
 go_wp2_with fail
 refine (mneed_bad 170 w2).mono ?_
 rintro e w2 ⟨rfl,rfl⟩
 go_wp2_with fail
 exact apply_dies (w.heap.size+1) _ _ 170 0 rfl hE2 hM2 hG2 hE0 (by omega)
theorem commitE_any (k:Nat) (w:World) (hk:k<256) :
  Calls Tryz.prog 32 #[.int .u8 (k:Int)] w fun e w'=>e=.returned (.bool (decide (1<=k) && decide (k<=11)))/\w'=w:=by
 by_cases h1:1<=k
 ·have h1':(1:Int)<=(k:Int):=by omega
  have d1:decide ((1:Int)<=(k:Int))=true:=by simp;omega
  by_cases h2:k<=11
  ·have d2:decide ((k:Int)<=11)=true:=by simp;omega
   have HE:Hid ((decide (1<=k) && decide (k<=11))=true):=Lib.hid (by simp [h1,h2])
   clear h1 h2 h1'
   go_enter Tryz.func32,Tryz.ntmps32
   go_wp2_with fail
   go_ret
   rw [HE.out]
   exact ⟨by first | rfl | (simp;omega),rfl⟩
  ·have d2:decide ((k:Int)<=11)=false:=by simp;omega
   have HE:Hid ((decide (1<=k) && decide (k<=11))=false):=Lib.hid (by simp [h1,h2])
   clear h1 h2 h1'
   go_enter Tryz.func32,Tryz.ntmps32
   go_wp2_with fail
   go_ret
   rw [HE.out]
   exact ⟨by first | rfl | (simp;omega),rfl⟩
 ·have d1:decide ((1:Int)<=(k:Int))=false:=by simp;omega
  have h1' : ¬ (1:Int)<=(k:Int):=by omega
  have HE:Hid ((decide (1<=k) && decide (k<=11))=false):=Lib.hid (by simp [h1])
  clear h1
  go_enter Tryz.func32,Tryz.ntmps32
  go_wp2_with fail
  go_ret
  rw [HE.out]
  exact ⟨by first | rfl | (simp;omega),rfl⟩
theorem apply_bad (w:World) (h:Md w o B M) (he:M.e=0) (hx:x.ok) (hb:okB x=false) :
  Calls Tryz.prog 9 #[ptrV B,enV x] w (AppPost o B M 2 w):=by
 obtain ⟨w2,hw2⟩:∃ w2,w2=(w.alloc (.cells (enA x) 39)).alloc (.cells #[.int .i64 0] 31):=⟨_,rfl⟩
 have hB2:Below w.heap.size w w2:=by rw [hw2];exact below2 w _ _
 have hX2:Blk w2 w.heap.size 39 (enA x):=by rw [hw2];exact (blk_new w _ _).alloc _
 have hE2:Boxed w2 (w.heap.size+1) 31 (.int .i64 0):=by
  have h1:=Boxed.new (w.alloc (.cells (enA x) 39)) 31 (.int .i64 0)
  rw [World.size_alloc] at h1
  rw [hw2];exact h1
 have hM2:=h.below hB2
 have hG2:Goes o o w w2:=Goes.of_below hB2
 have hE0:o (w.heap.size+1)=0:=h.off (by omega)
 have hhl:=halted_any w2 hM2
 have hmf:∀ (fn:Fn) (first cap:Array Value) (w:World),(Instr.makeFunc fn first cap).run Tryz.prog w=.ok (.func fn first cap) w:=fun _ _ _ _=>rfl
 have hne:(M.e != 0)=false:=by simpa using he
 rw [hne] at hhl
 have hck:=Ent.check_any x hx w2
 rw [show Ent.checkE x=2 by unfold Ent.checkE;rw [hb];rfl] at hck
 have hck':Calls Tryz.prog 31 #[enV x] w2 fun e w'=>e=.returned (.int .i64 2)/\Below w2.heap.size w2 w':=hck
 have x0:w2.cell? ⟨w.heap.size,0,none⟩=some (.int .i64 x.a):=Blk.cell hX2 rfl
 have x1:w2.cell? ⟨w.heap.size,1,none⟩=some (.int .u8 (x.k:Int)):=Blk.cell hX2 rfl
 have x2:w2.cell? ⟨w.heap.size,2,none⟩=some (.int .i64 x.w):=Blk.cell hX2 rfl
 have x3:w2.cell? ⟨w.heap.size,3,none⟩=some (.int .i64 x.t):=Blk.cell hX2 rfl
 have x4:w2.cell? ⟨w.heap.size,4,none⟩=some (.int .i64 x.p):=Blk.cell hX2 rfl
 have x5:w2.cell? ⟨w.heap.size,5,none⟩=some (.int .i64 x.c):=Blk.cell hX2 rfl
 have x6:w2.cell? ⟨w.heap.size,6,none⟩=some (.int .i64 x.b):=Blk.cell hX2 rfl
 have x7:w2.cell? ⟨w.heap.size,7,none⟩=some (.int .i64 x.q):=Blk.cell hX2 rfl
 have x8:w2.cell? ⟨w.heap.size,8,none⟩=some (.int .i64 x.v):=Blk.cell hX2 rfl
 have x9:w2.cell? ⟨w.heap.size,9,none⟩=some (.int .i64 x.u):=Blk.cell hX2 rfl
 have x10:w2.cell? ⟨w.heap.size,10,none⟩=some (.bool x.o):=Blk.cell hX2 rfl
 have x11:w2.cell? ⟨w.heap.size,11,none⟩=some (.int .i64 x.e):=Blk.cell hX2 rfl
 have x12:w2.cell? ⟨w.heap.size,12,none⟩=some (.int .u64 (x.s:Int)):=Blk.cell hX2 rfl
 clear hne he h hB2 hX2 hx hb hck
 go_enter_defers Tryz.func9,Tryz.ntmps9
 go_wp2_with fail
 rw [<- hw2]
 clear hw2
 refine (mneed_ok 1 w2).mono ?_
 rintro e w2 ⟨rfl,rfl⟩
 go_wp2_with fail
 refine hhl.mono ?_
 rintro e w2 ⟨rfl,rfl⟩
 go_wp2_with fail
 refine (mneed_ok 170 w2).mono ?_
 rintro e w2 ⟨rfl,rfl⟩
 go_wp2_with fail
 refine hck'.mono ?_
 rintro e w3 ⟨rfl,hb3⟩
 go_wp2_with fail
 refine (mneed_bad 2 w3).mono ?_
 rintro e w3 ⟨rfl,rfl⟩
 go_wp2_with fail
 exact apply_dies (w.heap.size+1) _ _ 2 0 rfl (boxed_below hE2 hb3) (hM2.below hb3) (hG2.trans (Goes.of_below hb3)) hE0 (by omega)
theorem apply_mark (w:World) (h:Md w o B M) (he:M.e=0) (hx:x.ok) (hb:okB x=true) (hk:(decide (1<=x.k) && decide (x.k<=11))=false) :
  Calls Tryz.prog 9 #[ptrV B,enV x] w (AppPost o B M 2 w):=by
 obtain ⟨w2,hw2⟩:∃ w2,w2=(w.alloc (.cells (enA x) 39)).alloc (.cells #[.int .i64 0] 31):=⟨_,rfl⟩
 have hB2:Below w.heap.size w w2:=by rw [hw2];exact below2 w _ _
 have hX2:Blk w2 w.heap.size 39 (enA x):=by rw [hw2];exact (blk_new w _ _).alloc _
 have hE2:Boxed w2 (w.heap.size+1) 31 (.int .i64 0):=by
  have h1:=Boxed.new (w.alloc (.cells (enA x) 39)) 31 (.int .i64 0)
  rw [World.size_alloc] at h1
  rw [hw2];exact h1
 have hM2:=h.below hB2
 have hG2:Goes o o w w2:=Goes.of_below hB2
 have hE0:o (w.heap.size+1)=0:=h.off (by omega)
 have hhl:=halted_any w2 hM2
 have hmf:∀ (fn:Fn) (first cap:Array Value) (w:World),(Instr.makeFunc fn first cap).run Tryz.prog w=.ok (.func fn first cap) w:=fun _ _ _ _=>rfl
 have hne:(M.e != 0)=false:=by simpa using he
 rw [hne] at hhl
 have hck:=Ent.check_any x hx w2
 rw [show Ent.checkE x=0 by unfold Ent.checkE;rw [hb];rfl] at hck
 have hck':Calls Tryz.prog 31 #[enV x] w2 fun e w'=>e=.returned (.int .i64 0)/\Below w2.heap.size w2 w':=hck
 have hcm:=fun W=>commitE_any x.k W hx.k
 rw [hk] at hcm
 have hkc:∀ W,Below w2.heap.size w2 W->W.cell? ⟨w.heap.size,1,none⟩=some (.int .u8 (x.k:Int)):=fun W hW=>Blk.cell (hX2.later hW hX2.lt) rfl
 have x0:w2.cell? ⟨w.heap.size,0,none⟩=some (.int .i64 x.a):=Blk.cell hX2 rfl
 have x1:w2.cell? ⟨w.heap.size,1,none⟩=some (.int .u8 (x.k:Int)):=Blk.cell hX2 rfl
 have x2:w2.cell? ⟨w.heap.size,2,none⟩=some (.int .i64 x.w):=Blk.cell hX2 rfl
 have x3:w2.cell? ⟨w.heap.size,3,none⟩=some (.int .i64 x.t):=Blk.cell hX2 rfl
 have x4:w2.cell? ⟨w.heap.size,4,none⟩=some (.int .i64 x.p):=Blk.cell hX2 rfl
 have x5:w2.cell? ⟨w.heap.size,5,none⟩=some (.int .i64 x.c):=Blk.cell hX2 rfl
 have x6:w2.cell? ⟨w.heap.size,6,none⟩=some (.int .i64 x.b):=Blk.cell hX2 rfl
 have x7:w2.cell? ⟨w.heap.size,7,none⟩=some (.int .i64 x.q):=Blk.cell hX2 rfl
 have x8:w2.cell? ⟨w.heap.size,8,none⟩=some (.int .i64 x.v):=Blk.cell hX2 rfl
 have x9:w2.cell? ⟨w.heap.size,9,none⟩=some (.int .i64 x.u):=Blk.cell hX2 rfl
 have x10:w2.cell? ⟨w.heap.size,10,none⟩=some (.bool x.o):=Blk.cell hX2 rfl
 have x11:w2.cell? ⟨w.heap.size,11,none⟩=some (.int .i64 x.e):=Blk.cell hX2 rfl
 have x12:w2.cell? ⟨w.heap.size,12,none⟩=some (.int .u64 (x.s:Int)):=Blk.cell hX2 rfl
 clear hne he h hB2 hX2 hx hb hck hk
 go_enter_defers Tryz.func9,Tryz.ntmps9
 go_wp2_with fail
 rw [<- hw2]
 clear hw2
 refine (mneed_ok 1 w2).mono ?_
 rintro e w2 ⟨rfl,rfl⟩
 go_wp2_with fail
 refine hhl.mono ?_
 rintro e w2 ⟨rfl,rfl⟩
 go_wp2_with fail
 refine (mneed_ok 170 w2).mono ?_
 rintro e w2 ⟨rfl,rfl⟩
 go_wp2_with fail
 refine hck'.mono ?_
 rintro e w3 ⟨rfl,hb3⟩
 have y1:=hkc w3 hb3
 go_wp2_with fail
 refine (hcm w3).mono ?_
 rintro e w3 ⟨rfl,rfl⟩
 go_wp2_with fail
 refine (mneed_bad 2 w3).mono ?_
 rintro e w3 ⟨rfl,rfl⟩
 go_wp2_with fail
 exact apply_dies (w.heap.size+1) _ _ 2 0 rfl (boxed_below hE2 hb3) (hM2.below hb3) (hG2.trans (Goes.of_below hb3)) hE0 (by omega)
end
end Go.Proofs.YtnfbncgfpmcpnaaGreat.Mdl
