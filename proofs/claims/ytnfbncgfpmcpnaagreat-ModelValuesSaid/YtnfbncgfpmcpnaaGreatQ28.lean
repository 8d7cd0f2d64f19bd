/-
  ReplayNext: its walks, part 28.
-/
import Derived.Test.YtnfbncgfpmcpnaaGreatQ27
set_option maxRecDepth 100000
set_option maxHeartbeats 12800000
namespace Go.Proofs.YtnfbncgfpmcpnaaGreat.Mdl
open Go.RowKit
open Ent (En EnRow EnAt en_one)
open Mch (grown_below below1 below_nx owns_slice' boxed_below)
theorem infoEnt:(Tryz.prog.info? 39).map (fun i=>(i.zero,i.size,i.bytes))=some (some (.agg #[.int .i64 0,.int .u8 0,.int .i64 0,.int .i64 0,.int .i64 0,.int .i64 0,.int .i64 0,.int .i64 0,.int .i64 0,.int .i64 0,.bool false,.int .i64 0,.int .u64 0]),13,104):=by kernel_rfl
theorem rul_tries (a b:Value) (w:World):(Instr.field 113 (.agg #[a,b]) 0).run Tryz.prog w=.ok a w:=by kernel_rfl
theorem rul_may (a b:Value) (w:World):(Instr.field 113 (.agg #[a,b]) 1).run Tryz.prog w=.ok b w:=by kernel_rfl
def triesK:Nat->FuncId
 | 5=>121
 | 6=>123
 | _=>124
structure Tries (M:Mod) (f:Fra) (x:In):Prop where
 op:x.o=5 \/ x.o=6 \/ x.o=8
 a:0<=x.a/\x.a<8
 k:x.o=8->0<=x.k/\x.k<(M.p.sites.length:Int)
 cs:x.o=8->(site M x).cs.length<=100
 val:x.o=8->∀ c ∈ (site M x).cs,c.s=true->0<=c.v/\c.v<8
 ch:∀ q ∈ tries M f x,q.c = -1 \/ (0<=q.c/\q.c<(M.C.length:Int))
theorem Tries.len {M:Mod} {f:Fra} {x:In} (h:Tries M f x):(tries M f x).length<=100:=by
 rcases h.op with e | e | e
 ·simp [tries,e]
 ·simp [tries,e]
 ·simpa [tries,e] using h.cs e
theorem tries_any {o:Nat->Nat} {B:Nat} {M:Mod} (t:Int) (f:Fra) (x:In) (w:World) (h:Md w o B M) (ht:Tries M f x) :
  Calls Tryz.prog (triesK x.o) #[stdV B t f x] w fun e w'=>∃ v,e=.returned v/\w'.ownsRow w.heap.size 193 4 v (tries M f x).length (flatO (tries M f x))/\Below w.heap.size w w':=by
 rcases ht.op with e | e | e
 ·rw [show triesK x.o=121 by rw [e];rfl,show tries M f x = [⟨-1,true,x.c,f.get x.a.toNat⟩] by simp [tries,e]]
  exact toSend_any B t f x w ht.a
 ·rw [show triesK x.o=123 by rw [e];rfl,show tries M f x = [⟨-1,false,x.c,0⟩] by simp [tries,e]]
  exact toRecv_any B t f x w
 ·rw [show triesK x.o=124 by rw [e];rfl,show tries M f x=(site M x).cs.mapIdx (opOf f) by simp [tries,e]]
  have:=cases_any t f x w h (ht.k e) (by have:=ht.cs e;omega) (ht.val e)
  simpa using this
theorem tries_enters (k:Nat):∀ (args:Array Value) (W:World),(callFunc (triesK k) args).run Tryz.prog W=.ok (.enter (triesK k) args) W:=by
 unfold triesK
 split
 ·exact enters_of Tryz.func121 (by kernel_rfl) rfl
 ·exact enters_of Tryz.func123 (by kernel_rfl) rfl
 ·exact enters_of Tryz.func124 (by kernel_rfl) rfl
theorem tryF_eq {M:Mod} {f:Fra} {x:In} (h:Tries M f x) (B:Nat) (t:Int):tryF B t f x x.o=.func (.func (triesK x.o)) #[stdV B t f x] #[]:=by
 rcases h.op with e | e | e <;> rw [e] <;> rfl
def flatE (xs:List En):List Value:=xs.flatMap Ent.En.cellsL
theorem flatE_snoc (xs:List En) (x:En):flatE (xs ++ [x])=flatE xs ++ x.cellsL:=by simp [flatE]
theorem en_cells {W:World} {A:Nat} {x:En} (h:Blk W A 39 (enA x)) (j:Nat) (u:Value) (hj:x.cellsL[j]?=some u):W.cell? (Addr.add ⟨A,0,none⟩ j)=some u:=by
 rw [add0]
 exact Blk.cell h (by simpa [Ent.En.cellsL] using hj)
theorem commits_snoc {M:Mod} {t:Int} (l:List Opn) (q:Opn):commits M t (l ++ [q])=commits M t l ++ (if ready M q then [moveE t q (M.ch q.c)] else []):=by
 unfold commits
 rw [List.filter_append,List.map_append]
 congr 1
 by_cases e:ready M q=true
 ·simp [e]
 ·simp [e]
theorem commits_len {M:Mod} {t:Int} (l:List Opn):(commits M t l).length<=l.length:=by
 unfold commits
 rw [List.length_map]
 exact List.length_filter_le _ _
theorem owns_zero' {W W':World} {b:Nat} {e:TypeId} {v:Value} {k n:Nat} {xs:List Value} (h:W.ownsRow b e k v n xs) (hb:Below W.heap.size W W'):W'.ownsRow 0 e k v n xs:=owns_fresh (Mch.owns_zero h) hb
theorem ops_at {W:World} {oa:Option Addr} {oc:Nat} {l:List Opn} {k:Nat} {q:Opn} (h:W.ownsRow 0 193 4 (.slice oa l.length oc) l.length (flatO l)) (hq:l[k]?=some q) :
  ∃ b,oa=some ⟨b,0,none⟩/\∀ j u,q.cellsL[j]?=some u->W.cell? ⟨b,k * 4+j,none⟩=some u:=by
 have hk:=(List.getElem?_eq_some_iff.1 hq).1
 rcases id h.2 with ⟨h1,h0⟩ | ⟨g,cap,cur,hv,_,_⟩
 ·omega
 ·have e:oa=some ⟨g,0,none⟩:=(Value.slice.inj hv).1
  refine ⟨g,e,fun j u hj=>?_⟩
  have hj4:j<4:=by have:=(List.getElem?_eq_some_iff.1 hj).1;simpa [opn_len] using this
  have:=h.cells (g:=g) (by rw [e];rfl) (k * 4+j) u (by rw [flatO,flat_get Opn.cellsL 4 opn_len _ _ _ hj4,hq];exact hj)
  rw [add0] at this
  exact this
theorem take_snoc' {α:Type} (l:List α) {k:Nat} {q:α} (hk:l[k]?=some q):l.take (k+1)=l.take k ++ [q]:=by
 rw [List.take_add_one,hk];rfl
theorem moves_any {o:Nat->Nat} {B:Nat} {M:Mod} (t:Int) (f:Fra) (x:In) (idle:Nat) (w:World) (h:Md w o B M) (ht:Tries M f x) (hl:∀ i,(M.ch i).S.length<=900/\(M.ch i).R.length<=900) :
  Calls Tryz.prog 149 #[stdV B t f x,.int .u8 (idle:Int)] w fun e w'=>∃ v,e=.returned v/\EnNew w.heap.size w' v (movesO M t idle (tries M f x))/\Below w.heap.size w w':=by
 obtain ⟨i0,hi,hz0,hz1,hz2⟩:=info_parts infoEnt
 obtain ⟨w1,hw1⟩:∃ w1,w1=w.alloc (.cells (stdA B t f x) 107):=⟨_,rfl⟩
 have hB1:Below w.heap.size w w1:=by rw [hw1];exact below1 w _
 have hS1:StAt w1 w.heap.size B t f x:=by rw [hw1];exact blk_new w _ _
 have hru:=rule_any B t f x w1 (by rcases ht.op with e | e | e <;> omega) (by rcases ht.op with e | e | e <;> omega)
 obtain ⟨F2,hF2⟩:∃ F2,F2=mayF B t f x x.o:=⟨_,rfl⟩
 have hrv:rulV B t f x x.o=.agg #[.func (.func (triesK x.o)) #[stdV B t f x] #[],F2]:=by unfold rulV;rw [tryF_eq ht,hF2]
 rw [hrv] at hru
 clear hF2 hrv
 have htr:=fun (W:World) (hW:Md W o B M)=>tries_any t f x W hW ht
 have hqc:=ht.ch
 have hlen:=ht.len
 obtain ⟨L,hL⟩:∃ L,L=tries M f x:=⟨_,rfl⟩
 rw [<- hL] at hqc hlen ⊢
 simp only [<- hL] at htr
 obtain ⟨n,hn⟩:∃ n,n=L.length:=⟨_,rfl⟩
 rw [<- hn] at hlen
 simp only [<- hn] at htr
 have HN:=Lib.hid hn
 clear hL ht hn
 obtain ⟨s0,s1,s2,s3,s4,s5,s6,s7,s8,s9,s10,s11,s12,s13,s14,s15,s16⟩:=std_cells (show StAt w1 w.heap.size B t f x from hS1)
 have qf:∀ W:World,(Instr.field 113 (.agg #[.func (.func (triesK x.o)) #[stdV B t f x] #[],F2]) 0).run Tryz.prog W=.ok (.func (.func (triesK x.o)) #[stdV B t f x] #[]) W:=fun W=>rul_tries _ _ W
 go_enter Tryz.func149,Tryz.ntmps149
 go_upto_region 1 with fail
 rw [<- hw1]
 clear hw1
 go_wp2_with fail
 refine hru.mono ?_
 clear s0 s1 s2 s3 s4 s5 s6 s7 s8 s9 s10 s11 s12 s13 s14 s15 s16 hru
 rintro e w2 ⟨rfl,hb2⟩
 have hB2:=below_nx hB1 hb2 (Nat.le_refl _)
 have hS2:=Blk.later hS1 hb2 hS1.lt
 clear hS1 hB1 hb2
 have htc:=htr w2 (h.below hB2)
 have hen:=tries_enters x.o
 obtain ⟨KF,hKF⟩:∃ KF,KF=triesK x.o:=⟨_,rfl⟩
 rw [<- hKF] at qf htc hen ⊢
 clear hKF htr
 go_wp2_with fail
 refine htc.mono ?_
 clear htc qf
 rintro e w3 ⟨v3,rfl,hO3,hb3⟩
 have hB3:=below_nx hB2 hb3 (Nat.le_refl _)
 have hS3:=Blk.later hS2 hb3 hS2.lt
 clear hS2 hb3
 obtain ⟨oa,oc,rfl⟩:=owns_slice' hO3
 go_wp2_with fail
 go_loopw [4,12] (fun lv iv wr=>∃ k:Nat,k<=n/\iv=.int .i64 (k:Int)/\Below w3.heap.size w3 wr/\wr.ownsRow w3.heap.size 39 13 lv (commits M t (L.take k)).length (flatE (commits M t (L.take k)))) (fun _ iv _=>n - (intOf iv).toNat)
 case atStart=>exact ⟨0,by omega,rfl,Below.refl _ _,World.ownsRow_nil _ _ _ _⟩
 case round=>
  obtain ⟨k,hk,rfl,hB,hR⟩:=hrel
  have hBr:=hB3.trans (hB.mono hB3.size)
  by_cases hlt:k<n
  ·have hlt':(k:Int)<(n:Int):=by omega
   have q0:(0:Int)<=(k:Int):=by omega
   have hwr:IntKind.i64.wrap ((k:Int)+1)=(k:Int)+1:=by rw [IntKind.wrap_i64];omega
   obtain ⟨q,hq⟩:∃ q,L[k]?=some q:=⟨_,List.getElem?_eq_getElem (by rw [<- HN.out];exact hlt)⟩
   have hqc':=hqc q (List.mem_of_getElem? hq)
   have hOr:=owns_zero' hO3 hB
   obtain ⟨qb,rfl,hcq⟩:=ops_at (by rw [<- HN.out];exact hOr) hq
   obtain ⟨qb',qs,qc,qv⟩:=q
   have c0:wr.cell? ⟨qb,k * 4,none⟩=some (.int .i64 qb'):=by simpa using hcq 0 _ rfl
   have c1:wr.cell? ⟨qb,k * 4+1,none⟩=some (.bool qs):=hcq 1 _ rfl
   have c2:wr.cell? ⟨qb,k * 4+2,none⟩=some (.int .i64 qc):=hcq 2 _ rfl
   have c3:wr.cell? ⟨qb,k * 4+3,none⟩=some (.int .i64 qv):=hcq 3 _ rfl
   obtain ⟨w4,hw4⟩:∃ w4,w4=wr.alloc (.cells (opA ⟨qb',qs,qc,qv⟩) 193):=⟨_,rfl⟩
   have hB4:Below w3.heap.size w3 w4:=by rw [hw4];exact Mch.Below.al hB hB.size _
   have hQ4:Blk w4 wr.heap.size 193 (opA ⟨qb',qs,qc,qv⟩):=by rw [hw4];exact blk_new wr _ _
   have hR4:w4.ownsRow w3.heap.size 39 13 u4 (commits M t (L.take k)).length (flatE (commits M t (L.take k))):=by rw [hw4];exact hR.alloc _
   have hBq:w3.heap.size<=wr.heap.size:=hB.size
   obtain ⟨Q,hQ⟩:∃ Q,Q=wr.heap.size:=⟨_,rfl⟩
   rw [<- hQ] at hQ4 hBq
   clear hR hcq hOr
   go_upto_region 4 with fail
   rw [<- hw4, <- hQ]
   clear hw4 hQ c0 c1 c2 c3 hB
   have hBw:=hB3.trans (hB4.mono hB3.size)
   have hS4:=Blk.later hS3 hB4 hS3.lt
   have hre:=ready_any ⟨qb',qs,qc,qv⟩ w4 (h.below hBw) hqc' (by have:=(hl qc).1;show (M.ch qc).S.length<=1000;omega) (by have:=(hl qc).2;show (M.ch qc).R.length<=1000;omega)
   have s0:w4.cell? ⟨w.heap.size,0,none⟩=some (ptrV B):=Blk.cell (show StAt w4 w.heap.size B t f x from hS4) rfl
   have c0:w4.cell? ⟨Q,0,none⟩=some (.int .i64 qb'):=Blk.cell hQ4 rfl
   have c1:w4.cell? ⟨Q,1,none⟩=some (.bool qs):=Blk.cell hQ4 rfl
   have c2:w4.cell? ⟨Q,2,none⟩=some (.int .i64 qc):=Blk.cell hQ4 rfl
   have c3:w4.cell? ⟨Q,3,none⟩=some (.int .i64 qv):=Blk.cell hQ4 rfl
   have HT:=Lib.hid (take_snoc' L hq)
   go_wp2_with fail
   refine hre.mono ?_
   clear hre s0 c0 c1 c2 c3
   rintro e w5 ⟨rfl,hb5⟩
   have hB5:=hB4.trans (hb5.mono hB4.size)
   have hS5:=Blk.later hS4 hb5 hS4.lt
   have hQ5:=Blk.later hQ4 hb5 hQ4.lt
   have hR5:=owns_fresh hR4 hb5
   cases hrd:ready M ⟨qb',qs,qc,qv⟩ with
   | true=>
    have hc3:0<=qc/\qc<(M.C.length:Int):=hqc'.resolve_left (fun e=>by
     have e':qc = -1:=e
     rw [e'] at hrd
     simp [ready] at hrd)
    have hmv:=move_any (B:=B) t f x ⟨qb',qs,qc,qv⟩ w5 (h.below (hB3.trans (hB5.mono hB3.size))) hc3 (hl qc).1 (hl qc).2
    have HE:Hid (commits M t (L.take (k+1))=commits M t (L.take k) ++ [moveE t ⟨qb',qs,qc,qv⟩ (M.ch qc)]):=Lib.hid (by rw [HT.out,commits_snoc,hrd];rfl)
    obtain ⟨E,hE⟩:∃ E,E=moveE t ⟨qb',qs,qc,qv⟩ (M.ch qc):=⟨_,rfl⟩
    rw [show moveE t ⟨qb',qs,qc,qv⟩ (M.ch (Opn.c ⟨qb',qs,qc,qv⟩))=E from hE.symm] at hmv
    rw [<- hE] at HE
    clear hE hrd hR4 hS4 hQ4 hb5
    obtain ⟨s0,s1,s2,s3,s4,s5,s6,s7,s8,s9,s10,s11,s12,s13,s14,s15,s16⟩:=std_cells (show StAt w5 w.heap.size B t f x from hS5)
    have c0:w5.cell? ⟨Q,0,none⟩=some (.int .i64 qb'):=Blk.cell hQ5 rfl
    have c1:w5.cell? ⟨Q,1,none⟩=some (.bool qs):=Blk.cell hQ5 rfl
    have c2:w5.cell? ⟨Q,2,none⟩=some (.int .i64 qc):=Blk.cell hQ5 rfl
    have c3:w5.cell? ⟨Q,3,none⟩=some (.int .i64 qv):=Blk.cell hQ5 rfl
    obtain ⟨C,hC⟩:∃ C,C=commits M t (L.take k):=⟨_,rfl⟩
    have hCl:C.length<=1000:=by rw [hC];have:=commits_len (M:=M) (t:=t) (L.take k);rw [List.length_take] at this;omega
    rw [<- hC] at HE hR5
    clear hC
    go_wp2_with fail
    refine hmv.mono ?_
    clear s0 s1 s2 s3 s4 s5 s6 s7 s8 s9 s10 s11 s12 s13 s14 s15 s16 c0 c1 c2 c3 hmv hQ5
    rintro e w6 ⟨rfl,hb6⟩
    have hB6:=hB5.trans (hb6.mono hB5.size)
    have hR6:=owns_fresh hR5 hb6
    obtain ⟨la,lc,rfl⟩:=owns_slice' hR6
    have hR7:=hR6.alloc (.cells (enA E) 39)
    have hB7:=Mch.Below.al hB6 hB6.size (.cells (enA E) 39)
    have hcl:=en_cells (x:=E) (blk_new w6 39 _)
    have hone:∀ u ∈ E.cellsL,u.oneCell'=true:=by simpa using en_one [E]
    have hbs:=hB6.size
    clear hS5 hb6 hR5 hR6
    go_wp2_with (at_builtin;refine wpList_append_own _ rfl _ _ 51 rfl w3.heap.size 39 i0 (.agg #[.int .i64 0,.int .u8 0,.int .i64 0,.int .i64 0,.int .i64 0,.int .i64 0,.int .i64 0,.int .i64 0,.int .i64 0,.int .i64 0,.bool false,.int .i64 0,.int .u64 0]) 13 104 Tryz.underlying51 hi hz0 hz1 hz2 rfl (by decide) _ C.length (flatE C) rfl hR7 ⟨w6.heap.size,0,none⟩ 1 1 E.cellsL rfl ?c0 ?c1 ?c2 ?c3 ?c4 ?c5 ?_)
    case c0=>rfl
    case c1=>exact hcl
    case c2=>exact hone
    case c3=>unfold maxLen;omega
    case c4=>omega
    try (case c5=>first | omega | (simp;omega))
    intro v8 w8 hown hgrow _
    have hb8:=hB7.grown hgrow (Nat.le_trans hbs (by simp)) (fun g e=>by have:=(hR7.lt g e).1;omega)
    have hown':w8.ownsRow w3.heap.size 39 13 v8 (commits M t (L.take (k+1))).length (flatE (commits M t (L.take (k+1)))):=by
     rw [HE.out,flatE_snoc,List.length_append]
     exact hown
    clear hown hgrow hcl hR7 hB7
    go_wp2_with fail
    go_roundw
    case rel=>exact ⟨k+1,by omega,by go_num,hb8,hown'⟩
    case measure=>simp [intOf];omega
   | false=>
    have HE:Hid (commits M t (L.take (k+1))=commits M t (L.take k)):=Lib.hid (by rw [HT.out,commits_snoc,hrd];simp)
    clear hrd hR4 hS4 hQ4 hb5
    rw [<- HE.out] at hR5
    go_wp2_with fail
    go_roundw
    case rel=>exact ⟨k+1,by omega,by go_num,hB5,hR5⟩
    case measure=>simp [intOf];omega
  ·have hlt' : ¬ (k:Int)<(n:Int):=by omega
   obtain rfl:k=n:=by omega
   have hT:L.take k=L:=List.take_of_length_le (by rw [<- HN.out];omega)
   rw [hT] at hR
   have hEn:=EnNew.of_owns hR
   have hSr:=Blk.later hS3 hB hS3.lt
   have s1:wr.cell? ⟨w.heap.size,1,none⟩=some (.int .i64 t):=Blk.cell (show StAt wr w.heap.size B t f x from hSr) rfl
   by_cases hem:commits M t L = []
   ·have HM:Hid (movesO M t idle L = [bareE idle t]):=Lib.hid (by unfold movesO;rw [if_pos hem])
    rw [hem] at hR
    obtain ⟨la,lc,rfl⟩:=owns_slice' hR
    have hnew:=EnNew.one wr (bareE idle t)
    have hB9:=Mch.Below.al hBr hBr.size (.cells (enA (bareE idle t)) 39)
    clear hem hT hEn hR hSr
    go_wp2_with fail
    go_ret
    rw [HM.out]
    exact ⟨_,rfl,hnew.mono hBr.size,hB9⟩
   ·have HM:Hid (movesO M t idle L=commits M t L):=Lib.hid (by unfold movesO;rw [if_neg hem])
    obtain ⟨C,hC⟩:∃ C,C=commits M t L:=⟨_,rfl⟩
    rw [<- hC] at hR hEn hem HM
    have hne:(((C.length:Nat):Int) == 0)=false:=by
     have:C.length ≠ 0:=fun e=>hem (List.eq_nil_of_length_eq_zero e)
     simp;omega
    obtain ⟨la,lc,rfl⟩:=owns_slice' hR
    clear hem hT hR hSr hC
    go_wp2_with fail
    go_ret
    rw [HM.out]
    exact ⟨_,rfl,hEn.mono hB3.size,hBr⟩
open Go.RowKit
open Ent (En EnRow EnAt en_one)
open Mch (grown_below below1 below_nx owns_slice' boxed_below)
theorem waits_any {o:Nat->Nat} {B:Nat} {M:Mod} (t:Int) (f:Fra) (x:In) (w:World) (h:Md w o B M) (ht:Tries M f x) (hl:∀ i,(M.ch i).S.length<=900/\(M.ch i).R.length<=900) :
  Calls Tryz.prog 122 #[stdV B t f x] w fun e w'=>∃ v,e=.returned v/\EnNew w.heap.size w' v (movesO M t 8 (tries M f x))/\Below w.heap.size w w':=by
 obtain ⟨w1,hw1⟩:∃ w1,w1=w.alloc (.cells (stdA B t f x) 107):=⟨_,rfl⟩
 have hB1:Below w.heap.size w w1:=by rw [hw1];exact below1 w _
 have hS1:StAt w1 w.heap.size B t f x:=by rw [hw1];exact blk_new w _ _
 have hm:Calls Tryz.prog 149 #[stdV B t f x,.int .u8 8] w1 _:=moves_any t f x 8 w1 (h.below hB1) ht hl
 obtain ⟨s0,s1,s2,s3,s4,s5,s6,s7,s8,s9,s10,s11,s12,s13,s14,s15,s16⟩:=std_cells (show StAt w1 w.heap.size B t f x from hS1)
 obtain ⟨L,hL⟩:∃ L,L=movesO M t 8 (tries M f x):=⟨_,rfl⟩
 rw [<- hL] at hm ⊢
 clear hL hl ht hS1
 go_enter Tryz.func122,Tryz.ntmps122
 go_upto_region 1 with fail
 rw [<- hw1]
 clear hw1
 go_wp2_with fail
 refine hm.mono ?_
 rintro e w2 ⟨v,rfl,hR,hb2⟩
 obtain ⟨a,c,rfl⟩:=hR.slice
 go_wp2_with fail
 go_ret
 exact ⟨_,rfl,hR.mono hB1.size,below_nx hB1 hb2 (Nat.le_refl _)⟩
theorem selects_any {o:Nat->Nat} {B:Nat} {M:Mod} (t:Int) (f:Fra) (x:In) (w:World) (h:Md w o B M) (ht:Tries M f x) (h8:x.o=8) (hl:∀ i,(M.ch i).S.length<=900/\(M.ch i).R.length<=900) :
  Calls Tryz.prog 125 #[stdV B t f x] w fun e w'=>∃ v,e=.returned v/\EnNew w.heap.size w' v (movesO M t (if (site M x).d then 7 else 8) (tries M f x))/\Below w.heap.size w w':=by
 obtain ⟨w1,hw1⟩:∃ w1,w1=w.alloc (.cells (stdA B t f x) 107):=⟨_,rfl⟩
 have hB1:Below w.heap.size w w1:=by rw [hw1];exact below1 w _
 have hS1:StAt w1 w.heap.size B t f x:=by rw [hw1];exact blk_new w _ _
 have hsi:=site_any t f x w1 (h.below hB1) (ht.k h8)
 have hm7:∀ W,Below w.heap.size w W->Calls Tryz.prog 149 #[stdV B t f x,.int .u8 7] W _:=fun W hW=>moves_any t f x 7 W (h.below hW) ht hl
 have hm8:∀ W,Below w.heap.size w W->Calls Tryz.prog 149 #[stdV B t f x,.int .u8 8] W _:=fun W hW=>moves_any t f x 8 W (h.below hW) ht hl
 obtain ⟨sx,hsx⟩:∃ sx,sx=site M x:=⟨_,rfl⟩
 rw [<- hsx] at hsi ⊢
 obtain ⟨N,hN⟩:∃ N,N=sx.cs.length:=⟨_,rfl⟩
 rw [<- hN] at hsi
 obtain ⟨L,hL⟩:∃ L,L=tries M f x:=⟨_,rfl⟩
 simp only [<- hL] at hm7 hm8 ⊢
 obtain ⟨R,hR⟩:∃ R,R=movesO M t (if sx.d then 7 else 8) L:=⟨_,rfl⟩
 rw [<- hR]
 have HR:=Lib.hid hR
 clear hL hl ht hsx h8 hN hR
 obtain ⟨s0,s1,s2,s3,s4,s5,s6,s7,s8,s9,s10,s11,s12,s13,s14,s15,s16⟩:=std_cells (show StAt w1 w.heap.size B t f x from hS1)
 go_enter Tryz.func125,Tryz.ntmps125
 go_upto_region 1 with fail
 rw [<- hw1]
 clear hw1
 go_wp2_with fail
 refine hsi.mono ?_
 clear s0 s1 s2 s3 s4 s5 s6 s7 s8 s9 s10 s11 s12 s13 s14 s15 s16 hsi
 rintro e w2 ⟨ra,rc,lo,hi',rfl,-, -, hb2⟩
 have hB2:=below_nx hB1 hb2 (Nat.le_refl _)
 have hS2:=Blk.later hS1 hb2 hS1.lt
 obtain ⟨s0,s1,s2,s3,s4,s5,s6,s7,s8,s9,s10,s11,s12,s13,s14,s15,s16⟩:=std_cells (show StAt w2 w.heap.size B t f x from hS2)
 have qf:∀ W:World,(Instr.field 117 (.agg #[.slice ra N rc,.bool sx.d]) 1).run Tryz.prog W=.ok (.bool sx.d) W:=fun W=>sit_d _ _ W
 clear hS1 hb2 hS2 hB1
 cases hd:sx.d with
 | true=>
  rw [hd] at qf
  have hm:=hm7 w2 hB2
  have hRR:R=movesO M t 7 L:=by rw [HR.out,hd];rfl
  rw [<- hRR] at hm
  clear hm7 hm8 hd hRR HR
  go_wp2_with fail
  refine hm.mono ?_
  rintro e w3 ⟨v,rfl,hR,hb3⟩
  obtain ⟨a,c,rfl⟩:=hR.slice
  go_wp2_with fail
  go_ret
  exact ⟨_,rfl,hR.mono hB2.size,below_nx hB2 hb3 (Nat.le_refl _)⟩
 | false=>
  rw [hd] at qf
  have hm:=hm8 w2 hB2
  have hRR:R=movesO M t 8 L:=by rw [HR.out,hd];rfl
  rw [<- hRR] at hm
  clear hm7 hm8 hd hRR HR
  go_wp2_with fail
  refine hm.mono ?_
  rintro e w3 ⟨v,rfl,hR,hb3⟩
  obtain ⟨a,c,rfl⟩:=hR.slice
  go_wp2_with fail
  go_ret
  exact ⟨_,rfl,hR.mono hB2.size,below_nx hB2 hb3 (Nat.le_refl _)⟩
def mayK:Nat->FuncId
 | 5=>122
 | 6=>122
 | 7=>126
 | 8=>125
 | 9=>127
 | _=>128
theorem mayF_eq (B:Nat) (t:Int) (f:Fra) (x:In) (k:Nat) (h5:5<=k) (h10:k<=10):mayF B t f x k=.func (.func (mayK k)) #[stdV B t f x] #[]:=by
 have:k=5 \/ k=6 \/ k=7 \/ k=8 \/ k=9 \/ k=10:=by omega
 rcases this with rfl | rfl | rfl | rfl | rfl | rfl <;> rfl
theorem may_enters (k:Nat):∀ (args:Array Value) (W:World),(callFunc (mayK k) args).run Tryz.prog W=.ok (.enter (mayK k) args) W:=by
 unfold mayK
 split
 ·exact enters_of Tryz.func122 (by kernel_rfl) rfl
 ·exact enters_of Tryz.func122 (by kernel_rfl) rfl
 ·exact enters_of Tryz.func126 (by kernel_rfl) rfl
 ·exact enters_of Tryz.func125 (by kernel_rfl) rfl
 ·exact enters_of Tryz.func127 (by kernel_rfl) rfl
 ·exact enters_of Tryz.func128 (by kernel_rfl) rfl
structure Stands (M:Mod) (f:Fra) (x:In):Prop where
 lo:5<=x.o
 hi:x.o<=10
 tries:x.o=5 \/ x.o=6 \/ x.o=8->Tries M f x
 cl:x.o=7->x.c = -1 \/ (0<=x.c/\x.c<(M.C.length:Int))
theorem may_any {o:Nat->Nat} {B:Nat} {M:Mod} (t:Int) (f:Fra) (x:In) (w:World) (h:Md w o B M) (ht:Stands M f x) (hl:∀ i,(M.ch i).S.length<=900/\(M.ch i).R.length<=900) (hT:M.T.length<=1000) :
  Calls Tryz.prog (mayK x.o) #[stdV B t f x] w fun e w'=>∃ v,e=.returned v/\EnNew w.heap.size w' v (mayE M t f x)/\Below w.heap.size w w':=by
 have hc:x.o=5 \/ x.o=6 \/ x.o=7 \/ x.o=8 \/ x.o=9 \/ x.o=10:=by have:=ht.lo;have:=ht.hi;omega
 unfold mayE
 rcases hc with e | e | e | e | e | e
 ·rw [show mayK x.o=122 by rw [e];rfl]
  simp only [e]
  exact waits_any t f x w h (ht.tries (.inl e)) hl
 ·rw [show mayK x.o=122 by rw [e];rfl]
  simp only [e]
  exact waits_any t f x w h (ht.tries (.inr (.inl e))) hl
 ·rw [show mayK x.o=126 by rw [e];rfl]
  simp only [e]
  exact closes_any t f x w h (ht.cl e)
 ·rw [show mayK x.o=125 by rw [e];rfl]
  simp only [e]
  exact selects_any t f x w h (ht.tries (.inr (.inr e))) e hl
 ·rw [show mayK x.o=127 by rw [e];rfl]
  simp only [e]
  exact spawns_any t f x w h hT
 ·rw [show mayK x.o=128 by rw [e];rfl]
  simp only [e]
  exact ends_any B t f x w
open Go.RowKit
open Ent (En okB)
open Mch (Wt whatK putL)
def Rok (f:Fra):Prop:=∀ n,I64b (f.get n)
theorem rok_zero:Rok Fra.zero:=fun n=>Fra.zero_ok.get n
theorem wrap64_b (x:Int):I64b (wrap64 x):=by
 have:=IntKind.wrap_i64 x
 unfold I64b wrap64
 omega
theorem rok_put {f:Fra} (h:Rok f) (n:Nat) {v:Int} (hv:I64b v):Rok (f.put n v):=by
 have h0:I64b f.r0:=h 0
 have h1:I64b f.r1:=h 1
 have h2:I64b f.r2:=h 2
 have h3:I64b f.r3:=h 3
 have h4:I64b f.r4:=h 4
 have h5:I64b f.r5:=h 5
 have h6:I64b f.r6:=h 6
 have h7:I64b f.r7:=h 7
 intro m
 unfold Fra.put
 split <;> (unfold Fra.get;split <;> assumption)
theorem rok_goto {f:Fra} (h:Rok f) (v:Int):Rok (f.goto v):=fun n=>h n
theorem rok_at0 {f:Fra} (h:Rok f) (c:Int):Rok (Fra.at0 c f):=fun n=>h n
theorem rok_do {f:Fra} {x:In} (h:Rok f) (hx:x.ok):Rok (doF x f):=by
 unfold doF
 split
 ·exact rok_goto (rok_put h _ (hx.get 3)) _
 ·exact rok_goto (rok_put h _ (wrap64_b _)) _
 ·exact rok_goto h _
 ·exact rok_goto h _
theorem at_ok {p:Prg} {f:Fra} {x:In} (hf:Fit p) (h:atF p f=some x):x.ok:=by
 obtain ⟨m,n,c,_,_,hc,hx⟩:=atF_parts h
 exact hf.codes c (List.mem_of_getElem? hc) x (List.mem_of_getElem? hx)
theorem rok_next {p:Prg} {f:Fra} (hf:Fit p) (h:Rok f):Rok (nextF p f):=by
 unfold nextF
 split
 ·exact h
 ·rename_i x hx;exact rok_do h (at_ok hf hx)
theorem rok_runF {p:Prg} (hf:Fit p):∀ (m n:Nat) (f:Fra),Rok f->Rok (runF p m n f).1
 | 0,n,f,h=>by unfold runF;split;exact rok_zero;exact h
 | m+1,n,f,h=>by unfold runF;split;exact rok_runF hf m (n+1) _ (rok_next hf h);exact h
theorem rok_runT {p:Prg} (hf:Fit p) {f:Fra} (h:Rok f) (m:Int):Rok (runT p f m).1:=by
 unfold runT;split;exact rok_runF hf _ _ _ h;exact rok_zero
theorem b01 (ok:Bool):I64b (if ok then (1:Int) else 0):=by cases ok <;> (unfold I64b;simp)
theorem rok_done {p:Prg} {f:Fra} (h:Rok f) {k v:Int} (hk:I64b k) (hv:I64b v) (ok:Bool):Rok (doneF p f k v ok).1:=by
 unfold doneF
 split
 ·exact rok_zero
 ·split
  ·exact rok_zero
  ·split
   ·exact rok_zero
   ·rename_i x _ _ _ c _
    show Rok (doneG c x f k v ok)
    have h1:Rok (recF c f v ok):=by
     unfold recF;split;exact h;exact rok_put (rok_put h _ hv) _ (b01 ok)
    have h2:Rok (numF x (recF c f v ok) k):=by
     unfold numF;split;exact rok_put h1 _ hk;exact h1
    unfold doneG pcF
    split
    ·exact h2
    ·exact rok_goto h2 _
section
variable {M:Mod} {t:Int}
theorem does_at (hc:checkW M.p=none) (h0:(M.stand t).2=0):atF M.p (M.stand t).1=some (M.does t)/\5<=(M.does t).o/\(M.does t).o<=10/\∃ y,M.task t=some y/\y.s=1:=by
 obtain ⟨x,hx,hd,h5,h10,hy⟩:=stand_at hc h0
 rw [hd]
 exact ⟨hx,h5,h10,hy⟩
end
section
variable {p:Prg} {f:Fra} {x:In}
theorem check_ch {a b d l:Int} (h:checkB x a b d l=true) (ho:x.o=5 \/ x.o=6 \/ x.o=7):x.c = -1 \/ (0<=x.c/\x.c<a):=by
 obtain ⟨o,xa,xb,xc,xk⟩:=x
 simp only at ho
 rcases ho with rfl | rfl | rfl <;>
  simp [checkB,okI,bareOf,bareStep,In.put,In.only,In.eq,known,pairs,namesOf,In.get,checkStep,mayB,belowB] at h ⊢ <;> omega
theorem check_code {a b d l:Int} (h:checkB x a b d l=true) (ho:x.o=9):0<=x.k/\x.k<d:=by
 obtain ⟨o,xa,xb,xc,xk⟩:=x
 simp only at ho
 subst ho
 simp [checkB,okI,bareOf,bareStep,In.put,In.only,In.eq,known,pairs,namesOf,In.get,checkStep,mayB,belowB] at h ⊢
 omega
theorem at_ch (h:checkW p=none) (hx:atF p f=some x) (ho:x.o=5 \/ x.o=6 \/ x.o=7):x.c = -1 \/ (0<=x.c/\x.c<(p.caps.length:Int)):=by
 obtain ⟨m,n,c,_,_,hc,hn⟩:=atF_parts hx
 exact check_ch (may_ins h hc hn) ho
theorem at_code (h:checkW p=none) (hx:atF p f=some x) (ho:x.o=9):0<=x.k/\x.k<8:=by
 obtain ⟨m,n,c,_,_,hc,hn⟩:=atF_parts hx
 have h1:=check_code (may_ins h hc hn) ho
 have h2:=(check_parts h).2.2.1
 unfold codesW at h2
 have h3:=wrongIf_none (or_none h2).1
 unfold withinB at h3
 simp at h3
 omega
theorem site_all (h:checkW p=none) {n:Nat} {s:Sit} (hs:p.sites[n]?=some s):s.cs.length<=6/\∀ c ∈ s.cs,(c.c = -1 \/ (0<=c.c/\c.c<(p.caps.length:Int)))/\(0<=c.v/\c.v<8):=by
 have h2:=(check_parts h).2.1
 unfold sitesW at h2
 have h3:=firstI_none.1 (or_none h2).2 n s hs
 unfold siteW at h3
 have h4:=wrongIf_none (or_none h3).1
 unfold withinB at h4
 simp at h4
 refine ⟨by omega,?_⟩
 intro c hc
 obtain ⟨j,hj,rfl⟩:=List.mem_iff_getElem.1 hc
 have:=wrongIf_none (firstI_none.1 (or_none h3).2 j _ (List.getElem?_eq_getElem hj))
 unfold mayCaseB withinB at this
 simp at this
 omega
theorem caps_le (h:checkW p=none):p.caps.length<=6:=by
 have h2:=(check_parts h).1
 unfold chansW at h2
 have h3:=wrongIf_none (or_none h2).1
 simpa using h3
theorem caps_all (h:checkW p=none) {n:Nat} {c:Int} (hc:p.caps[n]?=some c):0<=c/\c<=8:=by
 have h2:=(check_parts h).1
 unfold chansW at h2
 have h3:=wrongIf_none (firstI_none.1 (or_none h2).2 n c hc)
 unfold withinB at h3
 simp at h3
 omega
end
section
variable {M:Mod} {t:Int}
theorem site_at {f:Fra} {x:In} (h:checkW M.p=none) (hx:atF M.p f=some x) (ho:x.o=8):∃ s,site M x=s/\M.p.sites[x.k.toNat]?=some s/\0<=x.k/\x.k<(M.p.sites.length:Int):=by
 have hk:=at_site h hx ho
 have hl:x.k.toNat<M.p.sites.length:=by omega
 exact ⟨M.p.sites[x.k.toNat],by unfold site;rw [List.getElem?_eq_getElem hl];rfl,List.getElem?_eq_getElem hl,hk⟩
structure OpOk (M:Mod) (o:Opn):Prop where
 c:o.c = -1 \/ (0<=o.c/\o.c<(M.C.length:Int))
 b : -1<=o.b/\o.b<6
 v:I64b o.v
theorem tries_ok {f:Fra} {x:In} (h:checkW M.p=none) (hl:M.C.length=M.p.caps.length) (hf:Rok f) (hx:atF M.p f=some x) (ho:x.o=5 \/ x.o=6 \/ x.o=8):∀ o ∈ tries M f x,OpOk M o:=by
 rcases ho with ho | ho | ho
 ·intro o hm
  simp only [tries,ho,List.mem_singleton] at hm
  subst hm
  exact ⟨by rw [hl];exact at_ch h hx (.inl ho),⟨by simp,by simp⟩,hf _⟩
 ·intro o hm
  simp only [tries,ho,List.mem_singleton] at hm
  subst hm
  exact ⟨by rw [hl];exact at_ch h hx (.inr (.inl ho)),⟨by simp,by simp⟩,i64_zero⟩
 ·intro o hm
  obtain ⟨s,hs,hs',_⟩:=site_at h hx ho
  obtain ⟨hs6,hsc⟩:=site_all h hs'
  simp only [tries,ho] at hm
  rw [hs] at hm
  obtain ⟨j,hj,rfl⟩:=List.mem_iff_getElem.1 hm
  rw [List.getElem_mapIdx]
  have hj':j<s.cs.length:=by simpa using hj
  obtain ⟨h1,h2⟩:=hsc _ (List.getElem_mem hj')
  refine ⟨by rw [hl];exact h1,⟨?_,?_⟩,?_⟩
  ·show (-1:Int)<=(j:Int);omega
  ·show (j:Int)<6;omega
  ·show I64b (if _ then _ else _)
   split
   ·exact hf _
   ·exact i64_zero
theorem tries_in {f:Fra} {x:In} (h:checkW M.p=none) (hl:M.C.length=M.p.caps.length) (hf:Rok f) (hx:atF M.p f=some x) (ho:x.o=5 \/ x.o=6 \/ x.o=8):Tries M f x where
 op:=ho
 a:=(at_regs h hx).1
 k:=fun e=>at_site h hx e
 cs:=fun e=>by obtain ⟨s,hs,hs',_⟩:=site_at h hx e;rw [hs];have:=(site_all h hs').1;omega
 val:=fun e c hc _=>by obtain ⟨s,hs,hs',_⟩:=site_at h hx e;rw [hs] at hc;exact ((site_all h hs').2 c hc).2
 ch:=fun q hq=>(tries_ok h hl hf hx ho q hq).c
end
end Go.Proofs.YtnfbncgfpmcpnaaGreat.Mdl
