/-
  ModelValues: its walks, part W6.
-/
import Derived.Test.YtnfbncgfpmcpnaaGreatW05
set_option maxRecDepth 100000
set_option maxHeartbeats 12800000
namespace Go.Proofs.YtnfbncgfpmcpnaaGreat.Mdl
open Go.RowKit
open Ent (En EnRow okB en_one en_len)
open Mch (below1 below_nx owns_slice' RowI)
theorem md32' (m:Nat):Int.tmod (m:Int) 32=((m % 32:Nat):Int):=rem_nat m 32
set_option linter.unusedSimpArgs false in
theorem mvlaw_any {v1 v2 v3 sv:Value} {p:Prg} (most:Nat) (l:List Stp) (w:World) (h:PrgAt 0 w.heap.size w v1 v2 v3 p) (hmo:most<256) (hs:StRow w sv l) :
  Calls Tryz.prog 3 #[.agg #[v1,v2,v3],.int .u8 (most:Int),sv] w fun e w'=>e=.returned (.bool true)/\Below w.heap.size w w':=by
 obtain ⟨sa,sc,rfl⟩:=hs.slice
 obtain ⟨pa,pc,rfl⟩:=h.caps.slice
 obtain ⟨w1,hw1⟩:∃ w1,w1=w.alloc (.cells #[.slice pa p.caps.length pc,v2,v3] 26):=⟨_,rfl⟩
 have hB1:Below w.heap.size w w1:=by rw [hw1];exact below1 w _
 have hP1:Blk w1 w.heap.size 26 #[.slice pa p.caps.length pc,v2,v3]:=by rw [hw1];exact blk_new w _ _
 have hhv:Calls Tryz.prog 5 #[.agg #[.slice pa p.caps.length pc,v2,v3],.int .i64 (l.length:Int)] w1 (HeavyPost w1 p l.length):=heavy_any _ w1 (h.later hB1)
 have z0:w1.cell? ⟨w.heap.size,0,none⟩=some (.slice pa p.caps.length pc):=hP1.cell rfl
 have z1:w1.cell? ⟨w.heap.size,1,none⟩=some v2:=hP1.cell rfl
 have z2:w1.cell? ⟨w.heap.size,2,none⟩=some v3:=hP1.cell rfl
 have hz:(Tryz.prog.info? 26).map (·.size)=some 3:=by kernel_rfl
 go_enter Tryz.func3,Tryz.ntmps3
 go_upto_region 1 with fail
 rw [<- hw1]
 clear hw1
 go_wp2_with fail
 refine hhv.mono ?_
 clear hhv z0 z1 z2
 rintro e w2 ⟨b,rfl,hbf,hb2⟩
 have hB2:=below_nx hB1 hb2 (Nat.le_refl _)
 have hP2:=hP1.later hb2 hP1.lt
 clear hP1 hB1 hb2
 cases b with
 | true=>
  clear hbf hP2 h hs hmo
  go_wp2_with fail
  refine (alive_any _).mono ?_
  rintro e w3 ⟨rfl,hb3⟩
  have hB3:=below_nx hB2 hb3 (Nat.le_refl _)
  go_wp2_with fail
  go_ret
  exact ⟨rfl,hB3⟩
 | false=>
  obtain ⟨hn200,hT⟩:=hbf rfl
  have hl200:l.length<=200:=by omega
  have z0:w2.cell? ⟨w.heap.size,0,none⟩=some (.slice pa p.caps.length pc):=hP2.cell rfl
  have z1:w2.cell? ⟨w.heap.size,1,none⟩=some v2:=hP2.cell rfl
  have z2:w2.cell? ⟨w.heap.size,2,none⟩=some v3:=hP2.cell rfl
  have hp2:=h.later hB2
  have hrem:=md32' most
  obtain ⟨q,hq⟩:∃ q,q=most % 32:=⟨_,rfl⟩
  have hq32:q<32:=by omega
  rw [<- hq] at hrem
  have hw8:IntKind.i64.wrap (most:Int)=(most:Int):=by rw [IntKind.wrap_i64];omega
  have hw9:IntKind.i64.wrap (1+(q:Int))=1+(q:Int):=by rw [IntKind.wrap_i64];omega
  by_cases hck:checkW p=none
  case neg=>
   have hbad:=new_bad (1+(q:Int)) w2 hp2 hT.small hck
   clear hbf hT hn200 hl200 hp2 hP2 h hs hmo hck hq hq32
   go_wp2_with fail
   refine hbad.mono ?_
   clear hbad z0 z1 z2
   rintro e w3 ⟨rfl,hb3⟩
   have hB3:=below_nx hB2 hb3 (Nat.le_refl _)
   clear hb3 hB2
   go_wp2_with fail
   refine (alive_any _).mono ?_
   rintro e w4 ⟨rfl,hb4⟩
   have hB4:=below_nx hB3 hb4 (Nat.le_refl _)
   go_wp2_with fail
   go_ret
   exact ⟨rfl,hB4⟩
  case pos=>
   have hnew:Calls Tryz.prog 7 #[.agg #[.slice pa p.caps.length pc,v2,v3],.int .i64 (1+(q:Int))] w2 (NewPost w2 p (1+q)):=by
    rw [show (1+(q:Int))=((1+q:Nat):Int) by omega]
    exact new_ok (1+q) w2 hp2 hT.small hck (by omega) (by omega)
   have hi0:Inv (newM p (1+q)):=inv_new hck hT.small hp2.fit (by omega) (by omega)
   clear hbf hT hn200 hp2 hmo hck hq hq32
   go_wp2_with fail
   refine hnew.mono ?_
   clear hnew z0 z1 z2 hrem hw8 hw9
   rintro e w3 ⟨A,rfl,⟨o0,hM0,hnw⟩,hb3⟩
   have hR3:Runs w2 o0 A (newM p (1+q)) w3:=⟨hM0,hi0,hb3,hnw⟩
   clear hM0 hi0 hnw h
   have hZ:∀ j:Nat,j<12->(fun _:Nat=>Value.slice none 0 0) j=.slice none 0 0:=fun _ _=>rfl
   obtain ⟨w4,hw4⟩:∃ w4,w4=(w3.alloc (.cells #[.slice none 0 0,.slice none 0 0,.slice none 0 0,.slice none 0 0,.slice none 0 0,.slice none 0 0] 35)).alloc (.cells #[.slice none 0 0,.slice none 0 0,.slice none 0 0,.slice none 0 0,.slice none 0 0,.slice none 0 0] 35):=⟨_,rfl⟩
   have hb4:Below w3.heap.size w3 w4:=by rw [hw4];exact below2 w3 _ _
   have hR4:=hR3.below hb4
   have hPn:Pens w4 (fun k=>if k=w3.heap.size then 1 else if k=w3.heap.size+1 then 2 else 0) w3.heap.size (w3.heap.size+1) (fun _=>.slice none 0 0) (fun _=>[]):=by
    refine { x:=?_,y:=?_,qx:=?_,qy:=?_,row:=?_,own:=?_,low:=?_ }
    ·rw [hw4];exact (blk_new w3 _ _).alloc _
    ·have:=blk_new (w3.alloc (.cells #[.slice none 0 0,.slice none 0 0,.slice none 0 0,.slice none 0 0,.slice none 0 0,.slice none 0 0] 35)) 35 #[.slice none 0 0,.slice none 0 0,.slice none 0 0,.slice none 0 0,.slice none 0 0,.slice none 0 0]
     rw [World.size_alloc] at this
     rw [hw4];exact this
    ·simp
    ·simp
    ·intro j hj;exact World.ownsRow_nil _ _ _ _
    ·intro j hj g e;simp [Value.ownBlock] at e
    ·intro k hk
     rw [hw4,World.size_alloc,World.size_alloc]
     by_cases e1:k=w3.heap.size
     ·omega
     ·by_cases e2:k=w3.heap.size+1
      ·omega
      ·simp [e1,e2] at hk
   have hdis:∀ k,(fun k=>if k=w3.heap.size then 1 else if k=w3.heap.size+1 then 2 else 0) k ≠ 0->o0 k=0/\w2.heap.size<=k:=fun k hk=>by
    have:w3.heap.size<=k:=by
     by_cases e1:k=w3.heap.size
     ·omega
     ·by_cases e2:k=w3.heap.size+1
      ·omega
      ·simp [e1,e2] at hk
    exact ⟨hR3.md.off this,by have:=hb3.size;omega⟩
   have hk0:=keeps_new p (1+q)
   have hP4:=hP2.later hR4.bel hP2.lt
   have hs2:=hs.below hB2
   obtain ⟨n,hn⟩:∃ n,n=l.length:=⟨_,rfl⟩
   obtain ⟨nC,hnC⟩:∃ nC,nC=(newM p (1+q)).C.length:=⟨_,rfl⟩
   have hnCp:Hid (nC=p.caps.length):=Lib.hid (by rw [hnC];simp [newM,chsOf])
   obtain ⟨q0,hq0⟩:∃ q0:Nat->Nat,q0=fun k=>if k=w3.heap.size then 1 else if k=w3.heap.size+1 then 2 else 0:=⟨_,rfl⟩
   rw [<- hq0] at hPn hdis
   have hV4:VB w2 A w3.heap.size (w3.heap.size+1) nC 0 w4 o0 (newM p (1+q)) q0 (fun _=>.slice none 0 0) (fun _=>[]):=⟨hR4,hPn,hdis,hnC.symm,fun _=>Nat.le_refl _⟩
   have hs4:StRow w2 (.slice sa l.length sc) l:=hs2
   rw [<- hn] at hs4 hl200 ⊢
   have HN:=Lib.hid hn
   clear hn hq0 hPn hdis hR4 hR3 hnC hZ hs hs2 hb3 hb4
   go_wp2_with fail
   go_upto_region 7 with fail
   rw [<- hw4]
   clear hw4
   obtain ⟨X,hX⟩:∃ X,X=w3.heap.size:=⟨_,rfl⟩
   obtain ⟨Y,hY⟩:∃ Y,Y=w3.heap.size+1:=⟨_,rfl⟩
   rw [<- hY] at hV4 ⊢
   rw [<- hX] at hV4 ⊢
   clear hX hY
   go_wp2_with fail
   go_loopw [11] (fun iv wr=>∃ (k:Nat) (o:Nat->Nat) (M:Mod) (q:Nat->Nat) (vs:Nat->Value) (xs:Nat->List Int),k<=n/\iv=.int .i64 (k:Int)/\VB w2 A X Y nC (2 * k) wr o M q vs xs/\Keeps M xs) (fun iv _=>n - (intOf iv).toNat)
   case atStart=>exact ⟨0,_,_,_,_,_,Nat.zero_le _,rfl,hV4,hk0⟩
   case round=>
    obtain ⟨k,o,M,q,vs,xs,hk,rfl,hV,hK⟩:=hrel
    by_cases hlt:k<n
    ·have hlt':(k:Int)<(n:Int):=by omega
     have q0':(0:Int)<=(k:Int):=by omega
     have hwk:IntKind.i64.wrap ((k:Int)+1)=(k:Int)+1:=by rw [IntKind.wrap_i64];omega
     obtain ⟨s,hs⟩:∃ s,l[k]?=some s:=⟨_,List.getElem?_eq_getElem (by rw [<- HN.out];exact hlt)⟩
     obtain ⟨b,off,rfl,_,hok,x0,x1,x2,x3,x4,x5,x6,x7,x8,x9,x10,x11,x12,x13,x14,x15⟩:=(hs4.below hV.run.bel).at hs
     have hnx:=next_any s wr hV.run.md hV.run.inv hok
     have hxo:=nextM_ok hV.run.inv hok
     obtain ⟨⟨x,is⟩,hx⟩:∃ y,y=nextM M s:=⟨_,rfl⟩
     rw [<- hx] at hnx hxo
     clear hx hs hok hlt
     simp only at hnx hxo
     go_wp2_with fail
     refine hnx.mono ?_
     clear hnx x0 x1 x2 x3 x4 x5 x6 x7 x8 x9 x10 x11 x12 x13 x14 x15
     rintro e w5 ⟨rfl,hb5⟩
     obtain ⟨w6,hw6⟩:∃ w6,w6=w5.alloc (.cells (enA x) 39):=⟨_,rfl⟩
     have hb6:Below wr.heap.size wr w6:=by rw [hw6];exact Mch.Below.al hb5 hb5.size _
     have hX6:Blk w6 w5.heap.size 39 (enA x):=by rw [hw6];exact blk_new w5 _ _
     have hoZ:o w5.heap.size=0:=(hV.below hb5).run.md.off (Nat.le_refl _)
     have hqZ:q w5.heap.size=0:=by
      by_cases e:q w5.heap.size=0
      ·exact e
      ·exact absurd ((hV.below hb5).pens.low _ e) (Nat.lt_irrefl _)
     have hV6:=hV.below hb6
     clear hV hb6 hb5
     go_upto_region 11 with fail
     rw [<- hw6]
     clear hw6
     obtain ⟨Z,hZ⟩:∃ Z,Z=w5.heap.size:=⟨_,rfl⟩
     rw [<- hZ] at hX6 hoZ hqZ ⊢
     clear hZ
     cases is with
     | false=>
      clear hX6
      go_wp2_with fail
      go_roundw
      case rel=>exact ⟨k+1,o,M,q,vs,xs,by omega,by go_num,hV6.more (by omega),hK⟩
      case measure=>simp [intOf];omega
     | true=>
      have hap:=hV6.run.apply hxo
      obtain ⟨z,hz⟩:∃ z,z=M.applyE x:=⟨_,rfl⟩
      rw [<- hz] at hap
      have y0:w6.cell? ⟨Z,0,none⟩=some (.int .i64 x.a):=hX6.cell rfl
      have y1:w6.cell? ⟨Z,1,none⟩=some (.int .u8 (x.k:Int)):=hX6.cell rfl
      have y2:w6.cell? ⟨Z,2,none⟩=some (.int .i64 x.w):=hX6.cell rfl
      have y3:w6.cell? ⟨Z,3,none⟩=some (.int .i64 x.t):=hX6.cell rfl
      have y4:w6.cell? ⟨Z,4,none⟩=some (.int .i64 x.p):=hX6.cell rfl
      have y5:w6.cell? ⟨Z,5,none⟩=some (.int .i64 x.c):=hX6.cell rfl
      have y6:w6.cell? ⟨Z,6,none⟩=some (.int .i64 x.b):=hX6.cell rfl
      have y7:w6.cell? ⟨Z,7,none⟩=some (.int .i64 x.q):=hX6.cell rfl
      have y8:w6.cell? ⟨Z,8,none⟩=some (.int .i64 x.v):=hX6.cell rfl
      have y9:w6.cell? ⟨Z,9,none⟩=some (.int .i64 x.u):=hX6.cell rfl
      have y10:w6.cell? ⟨Z,10,none⟩=some (.bool x.o):=hX6.cell rfl
      have y11:w6.cell? ⟨Z,11,none⟩=some (.int .i64 x.e):=hX6.cell rfl
      have y12:w6.cell? ⟨Z,12,none⟩=some (.int .u64 (x.s:Int)):=hX6.cell rfl
      have HZ:=Lib.hid hz
      clear hz hxo
      go_wp2_with fail
      refine hap.mono ?_
      clear hap y0 y1 y2 y3 y4 y5 y6 y7 y8 y9 y10 y11 y12
      rintro e w7 ⟨rfl,o2,hG,hR7⟩
      have hV7:=hV6.goes hR7 hG (apply_C x M)
      have hX7:Blk w7 Z 39 (enA x):=(hG.frm.block Z hX6.lt (fun e=>e hoZ)).trans hX6
      have hI:=hV6.run.inv
      clear hX6 hR7 hG
      by_cases h0:z=0
      ·have hz0:M.applyE x=0:=by rw [<- HZ.out];exact h0
       have hK7:=keeps_apply hI hz0 hK
       have hv:=(moves_ok hI _ ((applyE_zero hI).1 hz0).1).1
       have hch:x.k<=5->0<=x.c/\x.c<(nC:Int):=fun h5=>⟨(hv.ch h5).1,by rw [<- hV6.len];exact (hv.ch h5).2⟩
       have hnC6:nC<=6:=by rw [<- hV6.len];exact hI.sane.cl
       have e1:(z != 0)=false:=by rw [h0];rfl
       have hPr:=hP2.later hV7.run.bel hP2.lt
       have p0:w7.cell? ⟨w.heap.size,0,none⟩=some (.slice pa p.caps.length pc):=hPr.cell rfl
       rw [<- hnCp.out] at p0
       have y5:w7.cell? ⟨Z,5,none⟩=some (.int .i64 x.c):=hX7.cell rfl
       obtain ⟨N,hN⟩:∃ N,N=M.apply x:=⟨_,rfl⟩
       rw [<- hN] at hK7 hV7
       clear hV6 hI hv hN hz0 HZ h0 hK
       by_cases hin:0<=x.c/\x.c<(nC:Int)
       ·obtain ⟨c,hc⟩:∃ c:Nat,x.c=(c:Int):=⟨x.c.toNat,by omega⟩
        have hc6:c<6:=by omega
        have hcx:x.c.toNat=c:=by omega
        have d1:decide ((c:Int)<0)=false:=by simp
        have d2:decide ((nC:Int)<=(c:Int))=false:=by simp;omega
        have d3:decide ((6:Int)<=(c:Int))=false:=by simp;omega
        have m2 : ¬ nC<=c:=by omega
        have m3 : ¬ 6<=c:=by omega
        have n2:decide (nC<=c)=false:=by simp only [decide_eq_false_iff_not];exact m2
        have n3:decide (6<=c)=false:=by simp only [decide_eq_false_iff_not];exact m3
        have c0:(0:Int)<=(c:Int):=by omega
        have c6:(c:Int)<6:=by omega
        have y1:w7.cell? ⟨Z,1,none⟩=some (.int .u8 (x.k:Int)):=hX7.cell rfl
        have hcn:c<nC:=by omega
        have HXc:=Lib.hid hc
        rw [hc] at y5
        clear hin hch hPr
        go_upto_region 14 with fail
        clear p0 y5 d1 d2 d3 n2 n3 m2 m3
        iterate 10 go_step
        go_cut [14] from 77 to 140 (fun cv W=>cv=.int .i64 (c:Int)/\∃ q' vs',VB w2 A X Y nC (2 * k+2) W o2 N q' vs' (wrote x xs))
        case first=>
         obtain ⟨i0,hi0,hz0,hz1,hz2⟩:=info_parts info64v
         by_cases k1:x.k=1
         ·as_aux_lemma=>
           have HW:Hid (wrote x xs=upd xs c (xs c ++ [x.v])):=Lib.hid (by unfold wrote;simp only [hcx,if_pos k1])
           have t1:((x.k:Int) == 1)=true:=by rw [k1];rfl
           clear k1
           have hj1:c<12:=by omega
           obtain ⟨u1,hu1⟩:∃ u,u=vs (c):=⟨_,rfl⟩
           obtain ⟨P1,hP1⟩:∃ P,P=xs (c):=⟨_,rfl⟩
           have hO1:=hV7.pens.row (c) hj1
           have hs1:=hV7.small (c)
           rw [<- hu1, <- hP1] at hO1
           rw [<- hP1] at hs1
           have hVa1:=hV7.below (show Below w7.heap.size w7 (w7.alloc (.cells #[.int .i64 x.v] 2)).drew from (below1 w7 _).drew)
           have hXa1:Blk (w7.alloc (.cells #[.int .i64 x.v] 2)).drew Z 39 (enA x):=(hX7.alloc _).drew
           have hOa1:(w7.alloc (.cells #[.int .i64 x.v] 2)).drew.ownsRow 0 2 1 u1 P1.length (I64 P1):=(hO1.alloc _).drew
           have cX1:w7.cell? ⟨X,c,none⟩=some u1:=by rw [hu1];exact hV7.pens.cx hc6
           have cXd1:w7.drew.cell? ⟨X,c,none⟩=some u1:=cX1
           have cXa1:(w7.alloc (.cells #[.int .i64 x.v] 2)).drew.cell? ⟨X,c,none⟩=some u1:=by rw [hu1];exact hVa1.pens.cx hc6
           have cXb1:(w7.alloc (.cells #[.int .i64 x.v] 2)).cell? ⟨X,c,none⟩=some u1:=cXa1
           have yvd1:w7.drew.cell? ⟨Z,8,none⟩=some (.int .i64 x.v):=hX7.cell rfl
           have yva1:(w7.alloc (.cells #[.int .i64 x.v] 2)).drew.cell? ⟨Z,8,none⟩=some (.int .i64 x.v):=hXa1.cell rfl
           have hcl1:∀ (j:Nat) (v:Value),([.int .i64 x.v]:List Value)[j]?=some v->(w7.alloc (.cells #[.int .i64 x.v] 2)).drew.cell? (Addr.add ⟨w7.heap.size,0,none⟩ j)=some v:=fun j v hj=>by
            rw [add0]
            exact Blk.cell (show Blk (w7.alloc (.cells #[.int .i64 x.v] 2)).drew w7.heap.size 2 #[.int .i64 x.v] from blk_new w7 _ _) (by simpa using hj)
           have hone1:∀ v ∈ ([.int .i64 x.v]:List Value),v.oneCell'=true:=fun v hv=>by
            rw [List.mem_singleton] at hv;rw [hv];rfl
           have ha1:=fun (w1:World) (hg:(w7.alloc (.cells #[.int .i64 x.v] 2)).drew.grownBy w1 u1.ownBlock)=>hVa1.pens.at1 hj1 (by rw [<- hu1];exact hg) hc6
           have HU1:=Lib.hid hu1
           have HP1:=Lib.hid hP1
           clear hu1 hP1 hO1
           go_wp2_with fail
           refine wp_region_held_drew (S:=fun W'=>W'.cell? ⟨Z,8,none⟩=some (.int .i64 x.v)) (by kernel_rfl) yvd1 (fun hHeld=>?_)
           refine takeD (i:=0) (d:=some 79) (v:=.int .i64 (c:Int)) (by kernel_rfl) (by kernel_rfl) (by kernel_rfl) (by kernel_rfl) (fun _ _ _ h=>h) (fun oi h=>?_) hHeld ?_
           ·simp only [uA,uZ,Option.some.injEq] at h
            subst h
            refine Or.inl ⟨by rfl,fun w' hSw=>?_⟩
            go_simp
           try simp only [Act.put,tA,tZ,tS]
           refine takeD (i:=1) (d:=some 80) (v:=.int .i64 (c:Int)) (by kernel_rfl) (by kernel_rfl) (by kernel_rfl) (by kernel_rfl) (fun _ _ _ h=>h) (fun oi h=>?_) hHeld ?_
           ·simp only [uA,uS,uZ,Option.some.injEq] at h
            subst h
            refine Or.inl ⟨by rfl,fun w' hSw=>?_⟩
            go_simp
           try simp only [Act.put,tA,tZ,tS]
           refine takeD (i:=2) (d:=some 81) (v:=.pointer (some ⟨X,c,none⟩)) (by kernel_rfl) (by kernel_rfl) (by kernel_rfl) (by kernel_rfl) (fun _ _ _ h=>h) (fun oi h=>?_) hHeld ?_
           ·simp only [uA,uS,uZ,Option.some.injEq] at h
            subst h
            refine Or.inl ⟨by rfl,fun w' hSw=>?_⟩
            go_simp
           try simp only [Act.put,tA,tZ,tS]
           refine takeD (i:=4) (d:=some 83) (v:=.pointer (some ⟨Z,8,none⟩)) (by kernel_rfl) (by kernel_rfl) (by kernel_rfl) (by kernel_rfl) (fun _ _ _ h=>h) (fun oi h=>?_) hHeld ?_
           ·simp only [uA,uS,uZ,Option.some.injEq] at h
            subst h
            refine Or.inl ⟨by rfl,fun w' hSw=>?_⟩
            go_simp
           try simp only [Act.put,tA,tZ,tS]
           refine takeD (i:=5) (d:=some 84) (v:=.int .i64 x.v) (by kernel_rfl) (by kernel_rfl) (by kernel_rfl) (by kernel_rfl) (fun _ _ _ h=>h) (fun oi h=>?_) hHeld ?_
           ·simp only [uA,uS,uZ,Option.some.injEq] at h
            subst h
            refine Or.inl ⟨by rfl,fun w' hSw=>?_⟩
            go_simp
           try simp only [Act.put,tA,tZ,tS]
           refine wpAnyH_cut (fun a0 a wx=>a=(a0.put (some 82) u1).put (some 85) (.slice (some ⟨w7.heap.size,0,none⟩) 1 1)/\wx=(w7.alloc (.cells #[.int .i64 x.v] 2)).drew) (f':=3) (l':=#[true,true,true,true,true,true,true,false,false,false]) ?_ (fun hcutr=>?_)
           rotate_left 1
           ·refine wpAnyH_ready (rs:=[3,6]) (by kernel_rfl) (by simp) ?_
            refine AllReadyH.cons rfl (fun K hKK=>?_) (AllReadyH.cons rfl (fun K hKK=>?_) AllReadyH.nil)
            ·go_simp
             refine hKK.out _ _ yvd1 (fun hHeld=>?_)
             clear hKK K
             try simp only [Act.put,tA,tZ,tS]
             refine wpAnyH_ready (rs:=[6]) (by kernel_rfl) (by simp) ?_
             refine AllReadyH.cons rfl (fun K hKK=>?_) AllReadyH.nil
             go_simp
             refine hKK.out _ _ yva1 (fun hHeld=>?_)
             clear hKK K
             try simp only [Act.put,tA,tZ,tS]
             refine hcutr _ _ ⟨?_,rfl⟩
             try simp only [Act.put,tA,tZ,tS]
            ·go_simp
             refine hKK.out _ _ yva1 (fun hHeld=>?_)
             clear hKK K
             try simp only [Act.put,tA,tZ,tS]
             refine wpAnyH_ready (rs:=[3]) (by kernel_rfl) (by simp) ?_
             refine AllReadyH.cons rfl (fun K hKK=>?_) AllReadyH.nil
             go_simp
             refine hKK.out _ _ yva1 (fun hHeld=>?_)
             clear hKK K
             try simp only [Act.put,tA,tZ,tS]
             refine hcutr _ _ ⟨?_,rfl⟩
             try simp only [Act.put,tA,tZ,tS]
           rintro a wx ⟨rfl,rfl⟩
           try simp only [Act.put,tA,tZ,tS]
           refine wpAnyH_ready (rs:=[7]) (by kernel_rfl) (by simp) ?_
           refine AllReadyH.cons rfl (fun K hKK=>?_) AllReadyH.nil
           refine step_append_at rfl (.tmp 82) (.tmp 85) 34 rfl 0 2 i0 (.int .i64 0) 1 8 Tryz.underlying34 hi0 hz0 hz1 hz2 rfl (by decide) u1 P1.length (I64 P1) rfl hOa1 ⟨w7.heap.size,0,none⟩ 1 1 ([.int .i64 x.v]:List Value) rfl rfl hcl1 hone1 (by unfold maxLen;omega) (by omega) (Nat.zero_le _) ?_
           intro v1 w1 hown1 hgrow1 hat1
           obtain ⟨g1,p1,rfl⟩:=ownsRow_succ hown1
           obtain ⟨k1a,k1b,k1c,k1d⟩:=ha1 w1 hgrow1
           have hZ1:w1.cell? ⟨Z,8,none⟩=some (.int .i64 x.v):=(hVa1.pens.out hj1 (by rw [<- HU1.out];exact hgrow1) hXa1 (by omega)).cell rfl
           refine hKK.out _ _ hZ1 (fun hHeld=>?_)
           clear hKK K
           try simp only [Act.put,tA,tZ,tS]
           refine takeD (i:=8) (d:=some 87) (v:=.pointer (some ⟨X,c,none⟩)) (by kernel_rfl) (by kernel_rfl) (by kernel_rfl) (by kernel_rfl) (fun _ _ _ h=>h) (fun oi h=>?_) hHeld ?_
           ·simp only [uA,uS,uZ,Option.some.injEq] at h
            subst h
            refine Or.inl ⟨by rfl,fun w' hSw=>?_⟩
            go_simp
           try simp only [Act.put,tA,tZ,tS]
           clear hHeld
           refine wpAnyH_ready (rs:=[9]) (by kernel_rfl) (by simp) ?_
           refine AllReadyH.cons rfl (fun K hKK=>?_) AllReadyH.nil
           go_simp
           have hX1:=(hVa1.pens.out2 (c:=c) (v:=(.slice (some ⟨g1,0,none⟩) (P1.length+1) p1)) hj1 (by rw [<- HU1.out];exact hgrow1) hXa1 hqZ).1
           have hZ1':(w1.setCell ⟨X,c,none⟩ (.slice (some ⟨g1,0,none⟩) (P1.length+1) p1)).cell? ⟨Z,8,none⟩=some (.int .i64 x.v):=hX1.cell rfl
           refine hKK.out _ _ hZ1' (fun hHeld=>?_)
           clear hKK K hHeld hZ1 hZ1' k1a k1b k1c k1d
           try simp only [Act.put,tA,tZ,tS]
           refine wpAnyH_done (by kernel_rfl) ?_ _
           obtain ⟨q1,hV1⟩:=hVa1.app (j:=c) (v':=(.slice (some ⟨g1,0,none⟩) (P1.length+1) p1)) (W1:=w1) (W2:=w1.setCell ⟨X,c,none⟩ (.slice (some ⟨g1,0,none⟩) (P1.length+1) p1)) hj1 x.v (by rw [<- HP1.out,List.length_append,i64_snoc];exact hown1) (by rw [<- HU1.out];exact hgrow1) (by rw [<- HU1.out];exact hat1) (by rw [if_pos hc6,if_pos hc6])
           clear hown1 hgrow1 hat1 hVa1 hXa1 hOa1 cX1 cXd1 cXa1 cXb1 yvd1 yva1 hcl1 hone1 ha1
           clear hX1
           go_wp2_with fail
           go_meet
           exact ⟨rfl,_,_,by rw [HW.out];exact hV1.more (by omega)⟩
         by_cases k2:x.k=2
         ·have t1:((x.k:Int) == 1)=false:=beq_eq_false_iff_ne.mpr (by omega)
          have t2:((x.k:Int) == 2)=true:=by rw [k2];rfl
          rcases (show x.o=true \/ x.o=false by cases x.o <;> simp) with ho | ho
          ·as_aux_lemma=>
            have HW:Hid (wrote x xs=upd xs (6+c) (xs (6+c) ++ [x.v])):=Lib.hid (by unfold wrote;simp only [hcx,if_neg k1,if_pos k2,ho,if_true])
            have y10:w7.cell? ⟨Z,10,none⟩=some (.bool true):=by rw [<- ho];exact hX7.cell rfl
            clear ho k2
            have hj1:6+c<12:=by omega
            obtain ⟨u1,hu1⟩:∃ u,u=vs (6+c):=⟨_,rfl⟩
            obtain ⟨P1,hP1⟩:∃ P,P=xs (6+c):=⟨_,rfl⟩
            have hO1:=hV7.pens.row (6+c) hj1
            have hs1:=hV7.small (6+c)
            rw [<- hu1, <- hP1] at hO1
            rw [<- hP1] at hs1
            have hVa1:=hV7.below (show Below w7.heap.size w7 (w7.alloc (.cells #[.int .i64 x.v] 2)).drew from (below1 w7 _).drew)
            have hXa1:Blk (w7.alloc (.cells #[.int .i64 x.v] 2)).drew Z 39 (enA x):=(hX7.alloc _).drew
            have hOa1:(w7.alloc (.cells #[.int .i64 x.v] 2)).drew.ownsRow 0 2 1 u1 P1.length (I64 P1):=(hO1.alloc _).drew
            have cX1:w7.cell? ⟨Y,c,none⟩=some u1:=by rw [hu1];exact hV7.pens.cy hc6
            have cXd1:w7.drew.cell? ⟨Y,c,none⟩=some u1:=cX1
            have cXa1:(w7.alloc (.cells #[.int .i64 x.v] 2)).drew.cell? ⟨Y,c,none⟩=some u1:=by rw [hu1];exact hVa1.pens.cy hc6
            have cXb1:(w7.alloc (.cells #[.int .i64 x.v] 2)).cell? ⟨Y,c,none⟩=some u1:=cXa1
            have yvd1:w7.drew.cell? ⟨Z,8,none⟩=some (.int .i64 x.v):=hX7.cell rfl
            have yva1:(w7.alloc (.cells #[.int .i64 x.v] 2)).drew.cell? ⟨Z,8,none⟩=some (.int .i64 x.v):=hXa1.cell rfl
            have hcl1:∀ (j:Nat) (v:Value),([.int .i64 x.v]:List Value)[j]?=some v->(w7.alloc (.cells #[.int .i64 x.v] 2)).drew.cell? (Addr.add ⟨w7.heap.size,0,none⟩ j)=some v:=fun j v hj=>by
             rw [add0]
             exact Blk.cell (show Blk (w7.alloc (.cells #[.int .i64 x.v] 2)).drew w7.heap.size 2 #[.int .i64 x.v] from blk_new w7 _ _) (by simpa using hj)
            have hone1:∀ v ∈ ([.int .i64 x.v]:List Value),v.oneCell'=true:=fun v hv=>by
             rw [List.mem_singleton] at hv;rw [hv];rfl
            have ha1:=fun (w1:World) (hg:(w7.alloc (.cells #[.int .i64 x.v] 2)).drew.grownBy w1 u1.ownBlock)=>hVa1.pens.at1 hj1 (by rw [<- hu1];exact hg) hc6
            have HU1:=Lib.hid hu1
            have HP1:=Lib.hid hP1
            clear hu1 hP1 hO1
            go_wp2_with fail
            refine wp_region_held_drew (S:=fun W'=>W'.cell? ⟨Z,8,none⟩=some (.int .i64 x.v)) (by kernel_rfl) yvd1 (fun hHeld=>?_)
            refine takeD (i:=0) (d:=some 92) (v:=.int .i64 (c:Int)) (by kernel_rfl) (by kernel_rfl) (by kernel_rfl) (by kernel_rfl) (fun _ _ _ h=>h) (fun oi h=>?_) hHeld ?_
            ·simp only [uA,uZ,Option.some.injEq] at h
             subst h
             refine Or.inl ⟨by rfl,fun w' hSw=>?_⟩
             go_simp
            try simp only [Act.put,tA,tZ,tS]
            refine takeD (i:=1) (d:=some 93) (v:=.int .i64 (c:Int)) (by kernel_rfl) (by kernel_rfl) (by kernel_rfl) (by kernel_rfl) (fun _ _ _ h=>h) (fun oi h=>?_) hHeld ?_
            ·simp only [uA,uS,uZ,Option.some.injEq] at h
             subst h
             refine Or.inl ⟨by rfl,fun w' hSw=>?_⟩
             go_simp
            try simp only [Act.put,tA,tZ,tS]
            refine takeD (i:=2) (d:=some 94) (v:=.pointer (some ⟨Y,c,none⟩)) (by kernel_rfl) (by kernel_rfl) (by kernel_rfl) (by kernel_rfl) (fun _ _ _ h=>h) (fun oi h=>?_) hHeld ?_
            ·simp only [uA,uS,uZ,Option.some.injEq] at h
             subst h
             refine Or.inl ⟨by rfl,fun w' hSw=>?_⟩
             go_simp
            try simp only [Act.put,tA,tZ,tS]
            refine takeD (i:=4) (d:=some 96) (v:=.pointer (some ⟨Z,8,none⟩)) (by kernel_rfl) (by kernel_rfl) (by kernel_rfl) (by kernel_rfl) (fun _ _ _ h=>h) (fun oi h=>?_) hHeld ?_
            ·simp only [uA,uS,uZ,Option.some.injEq] at h
             subst h
             refine Or.inl ⟨by rfl,fun w' hSw=>?_⟩
             go_simp
            try simp only [Act.put,tA,tZ,tS]
            refine takeD (i:=5) (d:=some 97) (v:=.int .i64 x.v) (by kernel_rfl) (by kernel_rfl) (by kernel_rfl) (by kernel_rfl) (fun _ _ _ h=>h) (fun oi h=>?_) hHeld ?_
            ·simp only [uA,uS,uZ,Option.some.injEq] at h
             subst h
             refine Or.inl ⟨by rfl,fun w' hSw=>?_⟩
             go_simp
            try simp only [Act.put,tA,tZ,tS]
            refine wpAnyH_cut (fun a0 a wx=>a=(a0.put (some 95) u1).put (some 98) (.slice (some ⟨w7.heap.size,0,none⟩) 1 1)/\wx=(w7.alloc (.cells #[.int .i64 x.v] 2)).drew) (f':=3) (l':=#[true,true,true,true,true,true,true,false,false,false]) ?_ (fun hcutr=>?_)
            rotate_left 1
            ·refine wpAnyH_ready (rs:=[3,6]) (by kernel_rfl) (by simp) ?_
             refine AllReadyH.cons rfl (fun K hKK=>?_) (AllReadyH.cons rfl (fun K hKK=>?_) AllReadyH.nil)
             ·go_simp
              refine hKK.out _ _ yvd1 (fun hHeld=>?_)
              clear hKK K
              try simp only [Act.put,tA,tZ,tS]
              refine wpAnyH_ready (rs:=[6]) (by kernel_rfl) (by simp) ?_
              refine AllReadyH.cons rfl (fun K hKK=>?_) AllReadyH.nil
              go_simp
              refine hKK.out _ _ yva1 (fun hHeld=>?_)
              clear hKK K
              try simp only [Act.put,tA,tZ,tS]
              refine hcutr _ _ ⟨?_,rfl⟩
              try simp only [Act.put,tA,tZ,tS]
             ·go_simp
              refine hKK.out _ _ yva1 (fun hHeld=>?_)
              clear hKK K
              try simp only [Act.put,tA,tZ,tS]
              refine wpAnyH_ready (rs:=[3]) (by kernel_rfl) (by simp) ?_
              refine AllReadyH.cons rfl (fun K hKK=>?_) AllReadyH.nil
              go_simp
              refine hKK.out _ _ yva1 (fun hHeld=>?_)
              clear hKK K
              try simp only [Act.put,tA,tZ,tS]
              refine hcutr _ _ ⟨?_,rfl⟩
              try simp only [Act.put,tA,tZ,tS]
            rintro a wx ⟨rfl,rfl⟩
            try simp only [Act.put,tA,tZ,tS]
            refine wpAnyH_ready (rs:=[7]) (by kernel_rfl) (by simp) ?_
            refine AllReadyH.cons rfl (fun K hKK=>?_) AllReadyH.nil
            refine step_append_at rfl (.tmp 95) (.tmp 98) 34 rfl 0 2 i0 (.int .i64 0) 1 8 Tryz.underlying34 hi0 hz0 hz1 hz2 rfl (by decide) u1 P1.length (I64 P1) rfl hOa1 ⟨w7.heap.size,0,none⟩ 1 1 ([.int .i64 x.v]:List Value) rfl rfl hcl1 hone1 (by unfold maxLen;omega) (by omega) (Nat.zero_le _) ?_
            intro v1 w1 hown1 hgrow1 hat1
            obtain ⟨g1,p1,rfl⟩:=ownsRow_succ hown1
            obtain ⟨k1a,k1b,k1c,k1d⟩:=ha1 w1 hgrow1
            have hZ1:w1.cell? ⟨Z,8,none⟩=some (.int .i64 x.v):=(hVa1.pens.out hj1 (by rw [<- HU1.out];exact hgrow1) hXa1 (by omega)).cell rfl
            refine hKK.out _ _ hZ1 (fun hHeld=>?_)
            clear hKK K
            try simp only [Act.put,tA,tZ,tS]
            refine takeD (i:=8) (d:=some 100) (v:=.pointer (some ⟨Y,c,none⟩)) (by kernel_rfl) (by kernel_rfl) (by kernel_rfl) (by kernel_rfl) (fun _ _ _ h=>h) (fun oi h=>?_) hHeld ?_
            ·simp only [uA,uS,uZ,Option.some.injEq] at h
             subst h
             refine Or.inl ⟨by rfl,fun w' hSw=>?_⟩
             go_simp
            try simp only [Act.put,tA,tZ,tS]
            clear hHeld
            refine wpAnyH_ready (rs:=[9]) (by kernel_rfl) (by simp) ?_
            refine AllReadyH.cons rfl (fun K hKK=>?_) AllReadyH.nil
            go_simp
            have hX1:=(hVa1.pens.out2 (c:=c) (v:=(.slice (some ⟨g1,0,none⟩) (P1.length+1) p1)) hj1 (by rw [<- HU1.out];exact hgrow1) hXa1 hqZ).2
            have hZ1':(w1.setCell ⟨Y,c,none⟩ (.slice (some ⟨g1,0,none⟩) (P1.length+1) p1)).cell? ⟨Z,8,none⟩=some (.int .i64 x.v):=hX1.cell rfl
            refine hKK.out _ _ hZ1' (fun hHeld=>?_)
            clear hKK K hHeld hZ1 hZ1' k1a k1b k1c k1d
            try simp only [Act.put,tA,tZ,tS]
            refine wpAnyH_done (by kernel_rfl) ?_ _
            obtain ⟨q1,hV1⟩:=hVa1.app (j:=6+c) (v':=(.slice (some ⟨g1,0,none⟩) (P1.length+1) p1)) (W1:=w1) (W2:=w1.setCell ⟨Y,c,none⟩ (.slice (some ⟨g1,0,none⟩) (P1.length+1) p1)) hj1 x.v (by rw [<- HP1.out,List.length_append,i64_snoc];exact hown1) (by rw [<- HU1.out];exact hgrow1) (by rw [<- HU1.out];exact hat1) (by rw [if_neg (by omega),if_neg (by omega),Nat.add_sub_cancel_left])
            clear hown1 hgrow1 hat1 hVa1 hXa1 hOa1 cX1 cXd1 cXa1 cXb1 yvd1 yva1 hcl1 hone1 ha1
            clear hX1
            go_wp2_with fail
            go_meet
            exact ⟨rfl,_,_,by rw [HW.out];exact hV1.more (by omega)⟩
          ·have HW:Hid (wrote x xs=xs):=Lib.hid (by unfold wrote;simp [if_neg k1,if_pos k2,ho])
           have y10:w7.cell? ⟨Z,10,none⟩=some (.bool false):=by rw [<- ho];exact hX7.cell rfl
           clear ho k2
           go_wp2_with fail
           go_meet
           exact ⟨rfl,_,_,by rw [HW.out];exact hV7.more (by omega)⟩
         by_cases k3:x.k=3
         ·as_aux_lemma=>
           have HW:Hid (wrote x xs=upd (upd xs c (xs c ++ [x.v])) (6+c) (xs (6+c) ++ [x.v])):=Lib.hid (by unfold wrote;simp only [hcx,if_neg k1,if_neg k2,if_pos k3])
           have t1:((x.k:Int) == 1)=false:=beq_eq_false_iff_ne.mpr (by omega)
           have t2:((x.k:Int) == 2)=false:=beq_eq_false_iff_ne.mpr (by omega)
           have t3:((x.k:Int) == 3)=true:=by rw [k3];rfl
           clear k3
           have hj1:c<12:=by omega
           obtain ⟨u1,hu1⟩:∃ u,u=vs (c):=⟨_,rfl⟩
           obtain ⟨P1,hP1⟩:∃ P,P=xs (c):=⟨_,rfl⟩
           have hO1:=hV7.pens.row (c) hj1
           have hs1:=hV7.small (c)
           rw [<- hu1, <- hP1] at hO1
           rw [<- hP1] at hs1
           have hVa1:=hV7.below (show Below w7.heap.size w7 (w7.alloc (.cells #[.int .i64 x.v] 2)).drew from (below1 w7 _).drew)
           have hXa1:Blk (w7.alloc (.cells #[.int .i64 x.v] 2)).drew Z 39 (enA x):=(hX7.alloc _).drew
           have hOa1:(w7.alloc (.cells #[.int .i64 x.v] 2)).drew.ownsRow 0 2 1 u1 P1.length (I64 P1):=(hO1.alloc _).drew
           have cX1:w7.cell? ⟨X,c,none⟩=some u1:=by rw [hu1];exact hV7.pens.cx hc6
           have cXd1:w7.drew.cell? ⟨X,c,none⟩=some u1:=cX1
           have cXa1:(w7.alloc (.cells #[.int .i64 x.v] 2)).drew.cell? ⟨X,c,none⟩=some u1:=by rw [hu1];exact hVa1.pens.cx hc6
           have cXb1:(w7.alloc (.cells #[.int .i64 x.v] 2)).cell? ⟨X,c,none⟩=some u1:=cXa1
           have yvd1:w7.drew.cell? ⟨Z,8,none⟩=some (.int .i64 x.v):=hX7.cell rfl
           have yva1:(w7.alloc (.cells #[.int .i64 x.v] 2)).drew.cell? ⟨Z,8,none⟩=some (.int .i64 x.v):=hXa1.cell rfl
           have hcl1:∀ (j:Nat) (v:Value),([.int .i64 x.v]:List Value)[j]?=some v->(w7.alloc (.cells #[.int .i64 x.v] 2)).drew.cell? (Addr.add ⟨w7.heap.size,0,none⟩ j)=some v:=fun j v hj=>by
            rw [add0]
            exact Blk.cell (show Blk (w7.alloc (.cells #[.int .i64 x.v] 2)).drew w7.heap.size 2 #[.int .i64 x.v] from blk_new w7 _ _) (by simpa using hj)
           have hone1:∀ v ∈ ([.int .i64 x.v]:List Value),v.oneCell'=true:=fun v hv=>by
            rw [List.mem_singleton] at hv;rw [hv];rfl
           have ha1:=fun (w1:World) (hg:(w7.alloc (.cells #[.int .i64 x.v] 2)).drew.grownBy w1 u1.ownBlock)=>hVa1.pens.at1 hj1 (by rw [<- hu1];exact hg) hc6
           have HU1:=Lib.hid hu1
           have HP1:=Lib.hid hP1
           clear hu1 hP1 hO1
           go_wp2_with fail
           refine wp_region_held_drew (S:=fun W'=>W'.cell? ⟨Z,8,none⟩=some (.int .i64 x.v)) (by kernel_rfl) yvd1 (fun hHeld=>?_)
           refine takeD (i:=0) (d:=some 103) (v:=.int .i64 (c:Int)) (by kernel_rfl) (by kernel_rfl) (by kernel_rfl) (by kernel_rfl) (fun _ _ _ h=>h) (fun oi h=>?_) hHeld ?_
           ·simp only [uA,uZ,Option.some.injEq] at h
            subst h
            refine Or.inl ⟨by rfl,fun w' hSw=>?_⟩
            go_simp
           try simp only [Act.put,tA,tZ,tS]
           refine takeD (i:=1) (d:=some 104) (v:=.int .i64 (c:Int)) (by kernel_rfl) (by kernel_rfl) (by kernel_rfl) (by kernel_rfl) (fun _ _ _ h=>h) (fun oi h=>?_) hHeld ?_
           ·simp only [uA,uS,uZ,Option.some.injEq] at h
            subst h
            refine Or.inl ⟨by rfl,fun w' hSw=>?_⟩
            go_simp
           try simp only [Act.put,tA,tZ,tS]
           refine takeD (i:=2) (d:=some 105) (v:=.pointer (some ⟨X,c,none⟩)) (by kernel_rfl) (by kernel_rfl) (by kernel_rfl) (by kernel_rfl) (fun _ _ _ h=>h) (fun oi h=>?_) hHeld ?_
           ·simp only [uA,uS,uZ,Option.some.injEq] at h
            subst h
            refine Or.inl ⟨by rfl,fun w' hSw=>?_⟩
            go_simp
           try simp only [Act.put,tA,tZ,tS]
           refine takeD (i:=4) (d:=some 107) (v:=.pointer (some ⟨Z,8,none⟩)) (by kernel_rfl) (by kernel_rfl) (by kernel_rfl) (by kernel_rfl) (fun _ _ _ h=>h) (fun oi h=>?_) hHeld ?_
           ·simp only [uA,uS,uZ,Option.some.injEq] at h
            subst h
            refine Or.inl ⟨by rfl,fun w' hSw=>?_⟩
            go_simp
           try simp only [Act.put,tA,tZ,tS]
           refine takeD (i:=5) (d:=some 108) (v:=.int .i64 x.v) (by kernel_rfl) (by kernel_rfl) (by kernel_rfl) (by kernel_rfl) (fun _ _ _ h=>h) (fun oi h=>?_) hHeld ?_
           ·simp only [uA,uS,uZ,Option.some.injEq] at h
            subst h
            refine Or.inl ⟨by rfl,fun w' hSw=>?_⟩
            go_simp
           try simp only [Act.put,tA,tZ,tS]
           refine wpAnyH_cut (fun a0 a wx=>a=(a0.put (some 106) u1).put (some 109) (.slice (some ⟨w7.heap.size,0,none⟩) 1 1)/\wx=(w7.alloc (.cells #[.int .i64 x.v] 2)).drew) (f':=3) (l':=#[true,true,true,true,true,true,true,false,false,false]) ?_ (fun hcutr=>?_)
           rotate_left 1
           ·refine wpAnyH_ready (rs:=[3,6]) (by kernel_rfl) (by simp) ?_
            refine AllReadyH.cons rfl (fun K hKK=>?_) (AllReadyH.cons rfl (fun K hKK=>?_) AllReadyH.nil)
            ·go_simp
             refine hKK.out _ _ yvd1 (fun hHeld=>?_)
             clear hKK K
             try simp only [Act.put,tA,tZ,tS]
             refine wpAnyH_ready (rs:=[6]) (by kernel_rfl) (by simp) ?_
             refine AllReadyH.cons rfl (fun K hKK=>?_) AllReadyH.nil
             go_simp
             refine hKK.out _ _ yva1 (fun hHeld=>?_)
             clear hKK K
             try simp only [Act.put,tA,tZ,tS]
             refine hcutr _ _ ⟨?_,rfl⟩
             try simp only [Act.put,tA,tZ,tS]
            ·go_simp
             refine hKK.out _ _ yva1 (fun hHeld=>?_)
             clear hKK K
             try simp only [Act.put,tA,tZ,tS]
             refine wpAnyH_ready (rs:=[3]) (by kernel_rfl) (by simp) ?_
             refine AllReadyH.cons rfl (fun K hKK=>?_) AllReadyH.nil
             go_simp
             refine hKK.out _ _ yva1 (fun hHeld=>?_)
             clear hKK K
             try simp only [Act.put,tA,tZ,tS]
             refine hcutr _ _ ⟨?_,rfl⟩
             try simp only [Act.put,tA,tZ,tS]
           rintro a wx ⟨rfl,rfl⟩
           try simp only [Act.put,tA,tZ,tS]
           refine wpAnyH_ready (rs:=[7]) (by kernel_rfl) (by simp) ?_
           refine AllReadyH.cons rfl (fun K hKK=>?_) AllReadyH.nil
           refine step_append_at rfl (.tmp 106) (.tmp 109) 34 rfl 0 2 i0 (.int .i64 0) 1 8 Tryz.underlying34 hi0 hz0 hz1 hz2 rfl (by decide) u1 P1.length (I64 P1) rfl hOa1 ⟨w7.heap.size,0,none⟩ 1 1 ([.int .i64 x.v]:List Value) rfl rfl hcl1 hone1 (by unfold maxLen;omega) (by omega) (Nat.zero_le _) ?_
           intro v1 w1 hown1 hgrow1 hat1
           obtain ⟨g1,p1,rfl⟩:=ownsRow_succ hown1
           obtain ⟨k1a,k1b,k1c,k1d⟩:=ha1 w1 hgrow1
           have hZ1:w1.cell? ⟨Z,8,none⟩=some (.int .i64 x.v):=(hVa1.pens.out hj1 (by rw [<- HU1.out];exact hgrow1) hXa1 (by omega)).cell rfl
           refine hKK.out _ _ hZ1 (fun hHeld=>?_)
           clear hKK K
           try simp only [Act.put,tA,tZ,tS]
           refine takeD (i:=8) (d:=some 111) (v:=.pointer (some ⟨X,c,none⟩)) (by kernel_rfl) (by kernel_rfl) (by kernel_rfl) (by kernel_rfl) (fun _ _ _ h=>h) (fun oi h=>?_) hHeld ?_
           ·simp only [uA,uS,uZ,Option.some.injEq] at h
            subst h
            refine Or.inl ⟨by rfl,fun w' hSw=>?_⟩
            go_simp
           try simp only [Act.put,tA,tZ,tS]
           clear hHeld
           refine wpAnyH_ready (rs:=[9]) (by kernel_rfl) (by simp) ?_
           refine AllReadyH.cons rfl (fun K hKK=>?_) AllReadyH.nil
           go_simp
           have hX1:=(hVa1.pens.out2 (c:=c) (v:=(.slice (some ⟨g1,0,none⟩) (P1.length+1) p1)) hj1 (by rw [<- HU1.out];exact hgrow1) hXa1 hqZ).1
           have hZ1':(w1.setCell ⟨X,c,none⟩ (.slice (some ⟨g1,0,none⟩) (P1.length+1) p1)).cell? ⟨Z,8,none⟩=some (.int .i64 x.v):=hX1.cell rfl
           refine hKK.out _ _ hZ1' (fun hHeld=>?_)
           clear hKK K hHeld hZ1 hZ1' k1a k1b k1c k1d
           try simp only [Act.put,tA,tZ,tS]
           refine wpAnyH_done (by kernel_rfl) ?_ _
           obtain ⟨q1,hV1,hqq1⟩:=hVa1.app2 hXa1.lt hqZ (j:=c) (v':=(.slice (some ⟨g1,0,none⟩) (P1.length+1) p1)) (W1:=w1) (W2:=w1.setCell ⟨X,c,none⟩ (.slice (some ⟨g1,0,none⟩) (P1.length+1) p1)) hj1 x.v (by rw [<- HP1.out,List.length_append,i64_snoc];exact hown1) (by rw [<- HU1.out];exact hgrow1) (by rw [<- HU1.out];exact hat1) (by rw [if_pos hc6,if_pos hc6])
           clear hown1 hgrow1 hat1 hVa1 hXa1 hOa1 cX1 cXd1 cXa1 cXb1 yvd1 yva1 hcl1 hone1 ha1
           obtain ⟨w8,hw8⟩:∃ w8,w8=w1.setCell ⟨X,c,none⟩ (.slice (some ⟨g1,0,none⟩) (P1.length+1) p1):=⟨_,rfl⟩
           rw [<- hw8] at hV1 hX1 ⊢
           clear hw8
           have hq1:q1 Z=0:=hqq1
           have e6:upd xs c (xs c ++ [x.v]) (6+c)=xs (6+c):=upd_ne _ _ (by omega)
           have hj2:6+c<12:=by omega
           obtain ⟨u2,hu2⟩:∃ u,u=(upd vs c (.slice (some ⟨g1,0,none⟩) (P1.length+1) p1)) (6+c):=⟨_,rfl⟩
           obtain ⟨P2,hP2⟩:∃ P,P=(upd xs c (xs c ++ [x.v])) (6+c):=⟨_,rfl⟩
           have hO2:=hV1.pens.row (6+c) hj2
           have hs2:=hV1.small (6+c)
           rw [<- hu2, <- hP2] at hO2
           rw [<- hP2] at hs2
           have hVa2:=hV1.below (show Below w8.heap.size w8 (w8.alloc (.cells #[.int .i64 x.v] 2)).drew from (below1 w8 _).drew)
           have hXa2:Blk (w8.alloc (.cells #[.int .i64 x.v] 2)).drew Z 39 (enA x):=(hX1.alloc _).drew
           have hOa2:(w8.alloc (.cells #[.int .i64 x.v] 2)).drew.ownsRow 0 2 1 u2 P2.length (I64 P2):=(hO2.alloc _).drew
           have cX2:w8.cell? ⟨Y,c,none⟩=some u2:=by rw [hu2];exact hV1.pens.cy hc6
           have cXd2:w8.drew.cell? ⟨Y,c,none⟩=some u2:=cX2
           have cXa2:(w8.alloc (.cells #[.int .i64 x.v] 2)).drew.cell? ⟨Y,c,none⟩=some u2:=by rw [hu2];exact hVa2.pens.cy hc6
           have cXb2:(w8.alloc (.cells #[.int .i64 x.v] 2)).cell? ⟨Y,c,none⟩=some u2:=cXa2
           have yvd2:w8.drew.cell? ⟨Z,8,none⟩=some (.int .i64 x.v):=hX1.cell rfl
           have yva2:(w8.alloc (.cells #[.int .i64 x.v] 2)).drew.cell? ⟨Z,8,none⟩=some (.int .i64 x.v):=hXa2.cell rfl
           have hcl2:∀ (j:Nat) (v:Value),([.int .i64 x.v]:List Value)[j]?=some v->(w8.alloc (.cells #[.int .i64 x.v] 2)).drew.cell? (Addr.add ⟨w8.heap.size,0,none⟩ j)=some v:=fun j v hj=>by
            rw [add0]
            exact Blk.cell (show Blk (w8.alloc (.cells #[.int .i64 x.v] 2)).drew w8.heap.size 2 #[.int .i64 x.v] from blk_new w8 _ _) (by simpa using hj)
           have hone2:∀ v ∈ ([.int .i64 x.v]:List Value),v.oneCell'=true:=fun v hv=>by
            rw [List.mem_singleton] at hv;rw [hv];rfl
           have ha2:=fun (w1:World) (hg:(w8.alloc (.cells #[.int .i64 x.v] 2)).drew.grownBy w1 u2.ownBlock)=>hVa2.pens.at1 hj2 (by rw [<- hu2];exact hg) hc6
           have HU2:=Lib.hid hu2
           have HP2:=Lib.hid hP2
           clear hu2 hP2 hO2
           go_wp2_with fail
           refine wp_region_held_drew (S:=fun W'=>W'.cell? ⟨Z,8,none⟩=some (.int .i64 x.v)) (by kernel_rfl) yvd2 (fun hHeld=>?_)
           refine takeD (i:=0) (d:=some 112) (v:=.int .i64 (c:Int)) (by kernel_rfl) (by kernel_rfl) (by kernel_rfl) (by kernel_rfl) (fun _ _ _ h=>h) (fun oi h=>?_) hHeld ?_
           ·simp only [uA,uZ,Option.some.injEq] at h
            subst h
            refine Or.inl ⟨by rfl,fun w' hSw=>?_⟩
            go_simp
           try simp only [Act.put,tA,tZ,tS]
           refine takeD (i:=1) (d:=some 113) (v:=.int .i64 (c:Int)) (by kernel_rfl) (by kernel_rfl) (by kernel_rfl) (by kernel_rfl) (fun _ _ _ h=>h) (fun oi h=>?_) hHeld ?_
           ·simp only [uA,uS,uZ,Option.some.injEq] at h
            subst h
            refine Or.inl ⟨by rfl,fun w' hSw=>?_⟩
            go_simp
           try simp only [Act.put,tA,tZ,tS]
           refine takeD (i:=2) (d:=some 114) (v:=.pointer (some ⟨Y,c,none⟩)) (by kernel_rfl) (by kernel_rfl) (by kernel_rfl) (by kernel_rfl) (fun _ _ _ h=>h) (fun oi h=>?_) hHeld ?_
           ·simp only [uA,uS,uZ,Option.some.injEq] at h
            subst h
            refine Or.inl ⟨by rfl,fun w' hSw=>?_⟩
            go_simp
           try simp only [Act.put,tA,tZ,tS]
           refine takeD (i:=4) (d:=some 116) (v:=.pointer (some ⟨Z,8,none⟩)) (by kernel_rfl) (by kernel_rfl) (by kernel_rfl) (by kernel_rfl) (fun _ _ _ h=>h) (fun oi h=>?_) hHeld ?_
           ·simp only [uA,uS,uZ,Option.some.injEq] at h
            subst h
            refine Or.inl ⟨by rfl,fun w' hSw=>?_⟩
            go_simp
           try simp only [Act.put,tA,tZ,tS]
           refine takeD (i:=5) (d:=some 117) (v:=.int .i64 x.v) (by kernel_rfl) (by kernel_rfl) (by kernel_rfl) (by kernel_rfl) (fun _ _ _ h=>h) (fun oi h=>?_) hHeld ?_
           ·simp only [uA,uS,uZ,Option.some.injEq] at h
            subst h
            refine Or.inl ⟨by rfl,fun w' hSw=>?_⟩
            go_simp
           try simp only [Act.put,tA,tZ,tS]
           refine wpAnyH_cut (fun a0 a wx=>a=(a0.put (some 115) u2).put (some 118) (.slice (some ⟨w8.heap.size,0,none⟩) 1 1)/\wx=(w8.alloc (.cells #[.int .i64 x.v] 2)).drew) (f':=3) (l':=#[true,true,true,true,true,true,true,false,false,false]) ?_ (fun hcutr=>?_)
           rotate_left 1
           ·refine wpAnyH_ready (rs:=[3,6]) (by kernel_rfl) (by simp) ?_
            refine AllReadyH.cons rfl (fun K hKK=>?_) (AllReadyH.cons rfl (fun K hKK=>?_) AllReadyH.nil)
            ·go_simp
             refine hKK.out _ _ yvd2 (fun hHeld=>?_)
             clear hKK K
             try simp only [Act.put,tA,tZ,tS]
             refine wpAnyH_ready (rs:=[6]) (by kernel_rfl) (by simp) ?_
             refine AllReadyH.cons rfl (fun K hKK=>?_) AllReadyH.nil
             go_simp
             refine hKK.out _ _ yva2 (fun hHeld=>?_)
             clear hKK K
             try simp only [Act.put,tA,tZ,tS]
             refine hcutr _ _ ⟨?_,rfl⟩
             try simp only [Act.put,tA,tZ,tS]
            ·go_simp
             refine hKK.out _ _ yva2 (fun hHeld=>?_)
             clear hKK K
             try simp only [Act.put,tA,tZ,tS]
             refine wpAnyH_ready (rs:=[3]) (by kernel_rfl) (by simp) ?_
             refine AllReadyH.cons rfl (fun K hKK=>?_) AllReadyH.nil
             go_simp
             refine hKK.out _ _ yva2 (fun hHeld=>?_)
             clear hKK K
             try simp only [Act.put,tA,tZ,tS]
             refine hcutr _ _ ⟨?_,rfl⟩
             try simp only [Act.put,tA,tZ,tS]
           rintro a wx ⟨rfl,rfl⟩
           try simp only [Act.put,tA,tZ,tS]
           refine wpAnyH_ready (rs:=[7]) (by kernel_rfl) (by simp) ?_
           refine AllReadyH.cons rfl (fun K hKK=>?_) AllReadyH.nil
           refine step_append_at rfl (.tmp 115) (.tmp 118) 34 rfl 0 2 i0 (.int .i64 0) 1 8 Tryz.underlying34 hi0 hz0 hz1 hz2 rfl (by decide) u2 P2.length (I64 P2) rfl hOa2 ⟨w8.heap.size,0,none⟩ 1 1 ([.int .i64 x.v]:List Value) rfl rfl hcl2 hone2 (by unfold maxLen;omega) (by omega) (Nat.zero_le _) ?_
           intro v2 w2 hown2 hgrow2 hat2
           obtain ⟨g2,p2,rfl⟩:=ownsRow_succ hown2
           obtain ⟨k2a,k2b,k2c,k2d⟩:=ha2 w2 hgrow2
           have hZ2:w2.cell? ⟨Z,8,none⟩=some (.int .i64 x.v):=(hVa2.pens.out hj2 (by rw [<- HU2.out];exact hgrow2) hXa2 (by omega)).cell rfl
           refine hKK.out _ _ hZ2 (fun hHeld=>?_)
           clear hKK K
           try simp only [Act.put,tA,tZ,tS]
           refine takeD (i:=8) (d:=some 120) (v:=.pointer (some ⟨Y,c,none⟩)) (by kernel_rfl) (by kernel_rfl) (by kernel_rfl) (by kernel_rfl) (fun _ _ _ h=>h) (fun oi h=>?_) hHeld ?_
           ·simp only [uA,uS,uZ,Option.some.injEq] at h
            subst h
            refine Or.inl ⟨by rfl,fun w' hSw=>?_⟩
            go_simp
           try simp only [Act.put,tA,tZ,tS]
           clear hHeld
           refine wpAnyH_ready (rs:=[9]) (by kernel_rfl) (by simp) ?_
           refine AllReadyH.cons rfl (fun K hKK=>?_) AllReadyH.nil
           go_simp
           have hX2:=(hVa2.pens.out2 (c:=c) (v:=(.slice (some ⟨g2,0,none⟩) (P2.length+1) p2)) hj2 (by rw [<- HU2.out];exact hgrow2) hXa2 hq1).2
           have hZ2':(w2.setCell ⟨Y,c,none⟩ (.slice (some ⟨g2,0,none⟩) (P2.length+1) p2)).cell? ⟨Z,8,none⟩=some (.int .i64 x.v):=hX2.cell rfl
           refine hKK.out _ _ hZ2' (fun hHeld=>?_)
           clear hKK K hHeld hZ2 hZ2' k2a k2b k2c k2d
           try simp only [Act.put,tA,tZ,tS]
           refine wpAnyH_done (by kernel_rfl) ?_ _
           obtain ⟨q2,hV2⟩:=hVa2.app (j:=6+c) (v':=(.slice (some ⟨g2,0,none⟩) (P2.length+1) p2)) (W1:=w2) (W2:=w2.setCell ⟨Y,c,none⟩ (.slice (some ⟨g2,0,none⟩) (P2.length+1) p2)) hj2 x.v (by rw [<- HP2.out,List.length_append,i64_snoc];exact hown2) (by rw [<- HU2.out];exact hgrow2) (by rw [<- HU2.out];exact hat2) (by rw [if_neg (by omega),if_neg (by omega),Nat.add_sub_cancel_left])
           clear hown2 hgrow2 hat2 hVa2 hXa2 hOa2 cX2 cXd2 cXa2 cXb2 yvd2 yva2 hcl2 hone2 ha2
           rw [e6] at hV2
           clear hX2
           go_wp2_with fail
           go_meet
           exact ⟨rfl,_,_,by rw [HW.out];exact hV2.more (by omega)⟩
         by_cases k4:x.k=4
         ·as_aux_lemma=>
           have HW:Hid (wrote x xs=upd (upd xs c (xs c ++ [x.u])) (6+c) (xs (6+c) ++ [x.v])):=Lib.hid (by unfold wrote;simp only [hcx,if_neg k1,if_neg k2,if_neg k3,if_pos k4])
           have t1:((x.k:Int) == 1)=false:=beq_eq_false_iff_ne.mpr (by omega)
           have t2:((x.k:Int) == 2)=false:=beq_eq_false_iff_ne.mpr (by omega)
           have t3:((x.k:Int) == 3)=false:=beq_eq_false_iff_ne.mpr (by omega)
           have t4:((x.k:Int) == 4)=true:=by rw [k4];rfl
           clear k4
           have hj1:c<12:=by omega
           obtain ⟨u1,hu1⟩:∃ u,u=vs (c):=⟨_,rfl⟩
           obtain ⟨P1,hP1⟩:∃ P,P=xs (c):=⟨_,rfl⟩
           have hO1:=hV7.pens.row (c) hj1
           have hs1:=hV7.small (c)
           rw [<- hu1, <- hP1] at hO1
           rw [<- hP1] at hs1
           have hVa1:=hV7.below (show Below w7.heap.size w7 (w7.alloc (.cells #[.int .i64 x.u] 2)).drew from (below1 w7 _).drew)
           have hXa1:Blk (w7.alloc (.cells #[.int .i64 x.u] 2)).drew Z 39 (enA x):=(hX7.alloc _).drew
           have hOa1:(w7.alloc (.cells #[.int .i64 x.u] 2)).drew.ownsRow 0 2 1 u1 P1.length (I64 P1):=(hO1.alloc _).drew
           have cX1:w7.cell? ⟨X,c,none⟩=some u1:=by rw [hu1];exact hV7.pens.cx hc6
           have cXd1:w7.drew.cell? ⟨X,c,none⟩=some u1:=cX1
           have cXa1:(w7.alloc (.cells #[.int .i64 x.u] 2)).drew.cell? ⟨X,c,none⟩=some u1:=by rw [hu1];exact hVa1.pens.cx hc6
           have cXb1:(w7.alloc (.cells #[.int .i64 x.u] 2)).cell? ⟨X,c,none⟩=some u1:=cXa1
           have yvd1:w7.drew.cell? ⟨Z,9,none⟩=some (.int .i64 x.u):=hX7.cell rfl
           have yva1:(w7.alloc (.cells #[.int .i64 x.u] 2)).drew.cell? ⟨Z,9,none⟩=some (.int .i64 x.u):=hXa1.cell rfl
           have hcl1:∀ (j:Nat) (v:Value),([.int .i64 x.u]:List Value)[j]?=some v->(w7.alloc (.cells #[.int .i64 x.u] 2)).drew.cell? (Addr.add ⟨w7.heap.size,0,none⟩ j)=some v:=fun j v hj=>by
            rw [add0]
            exact Blk.cell (show Blk (w7.alloc (.cells #[.int .i64 x.u] 2)).drew w7.heap.size 2 #[.int .i64 x.u] from blk_new w7 _ _) (by simpa using hj)
           have hone1:∀ v ∈ ([.int .i64 x.u]:List Value),v.oneCell'=true:=fun v hv=>by
            rw [List.mem_singleton] at hv;rw [hv];rfl
           have ha1:=fun (w1:World) (hg:(w7.alloc (.cells #[.int .i64 x.u] 2)).drew.grownBy w1 u1.ownBlock)=>hVa1.pens.at1 hj1 (by rw [<- hu1];exact hg) hc6
           have HU1:=Lib.hid hu1
           have HP1:=Lib.hid hP1
           clear hu1 hP1 hO1
           go_wp2_with fail
           refine wp_region_held_drew (S:=fun W'=>W'.cell? ⟨Z,9,none⟩=some (.int .i64 x.u)) (by kernel_rfl) yvd1 (fun hHeld=>?_)
           refine takeD (i:=0) (d:=some 123) (v:=.int .i64 (c:Int)) (by kernel_rfl) (by kernel_rfl) (by kernel_rfl) (by kernel_rfl) (fun _ _ _ h=>h) (fun oi h=>?_) hHeld ?_
           ·simp only [uA,uZ,Option.some.injEq] at h
            subst h
            refine Or.inl ⟨by rfl,fun w' hSw=>?_⟩
            go_simp
           try simp only [Act.put,tA,tZ,tS]
           refine takeD (i:=1) (d:=some 124) (v:=.int .i64 (c:Int)) (by kernel_rfl) (by kernel_rfl) (by kernel_rfl) (by kernel_rfl) (fun _ _ _ h=>h) (fun oi h=>?_) hHeld ?_
           ·simp only [uA,uS,uZ,Option.some.injEq] at h
            subst h
            refine Or.inl ⟨by rfl,fun w' hSw=>?_⟩
            go_simp
           try simp only [Act.put,tA,tZ,tS]
           refine takeD (i:=2) (d:=some 125) (v:=.pointer (some ⟨X,c,none⟩)) (by kernel_rfl) (by kernel_rfl) (by kernel_rfl) (by kernel_rfl) (fun _ _ _ h=>h) (fun oi h=>?_) hHeld ?_
           ·simp only [uA,uS,uZ,Option.some.injEq] at h
            subst h
            refine Or.inl ⟨by rfl,fun w' hSw=>?_⟩
            go_simp
           try simp only [Act.put,tA,tZ,tS]
           refine takeD (i:=4) (d:=some 127) (v:=.pointer (some ⟨Z,9,none⟩)) (by kernel_rfl) (by kernel_rfl) (by kernel_rfl) (by kernel_rfl) (fun _ _ _ h=>h) (fun oi h=>?_) hHeld ?_
           ·simp only [uA,uS,uZ,Option.some.injEq] at h
            subst h
            refine Or.inl ⟨by rfl,fun w' hSw=>?_⟩
            go_simp
           try simp only [Act.put,tA,tZ,tS]
           refine takeD (i:=5) (d:=some 128) (v:=.int .i64 x.u) (by kernel_rfl) (by kernel_rfl) (by kernel_rfl) (by kernel_rfl) (fun _ _ _ h=>h) (fun oi h=>?_) hHeld ?_
           ·simp only [uA,uS,uZ,Option.some.injEq] at h
            subst h
            refine Or.inl ⟨by rfl,fun w' hSw=>?_⟩
            go_simp
           try simp only [Act.put,tA,tZ,tS]
           refine wpAnyH_cut (fun a0 a wx=>a=(a0.put (some 126) u1).put (some 129) (.slice (some ⟨w7.heap.size,0,none⟩) 1 1)/\wx=(w7.alloc (.cells #[.int .i64 x.u] 2)).drew) (f':=3) (l':=#[true,true,true,true,true,true,true,false,false,false]) ?_ (fun hcutr=>?_)
           rotate_left 1
           ·refine wpAnyH_ready (rs:=[3,6]) (by kernel_rfl) (by simp) ?_
            refine AllReadyH.cons rfl (fun K hKK=>?_) (AllReadyH.cons rfl (fun K hKK=>?_) AllReadyH.nil)
            ·go_simp
             refine hKK.out _ _ yvd1 (fun hHeld=>?_)
             clear hKK K
             try simp only [Act.put,tA,tZ,tS]
             refine wpAnyH_ready (rs:=[6]) (by kernel_rfl) (by simp) ?_
             refine AllReadyH.cons rfl (fun K hKK=>?_) AllReadyH.nil
             go_simp
             refine hKK.out _ _ yva1 (fun hHeld=>?_)
             clear hKK K
             try simp only [Act.put,tA,tZ,tS]
             refine hcutr _ _ ⟨?_,rfl⟩
             try simp only [Act.put,tA,tZ,tS]
            ·go_simp
             refine hKK.out _ _ yva1 (fun hHeld=>?_)
             clear hKK K
             try simp only [Act.put,tA,tZ,tS]
             refine wpAnyH_ready (rs:=[3]) (by kernel_rfl) (by simp) ?_
             refine AllReadyH.cons rfl (fun K hKK=>?_) AllReadyH.nil
             go_simp
             refine hKK.out _ _ yva1 (fun hHeld=>?_)
             clear hKK K
             try simp only [Act.put,tA,tZ,tS]
             refine hcutr _ _ ⟨?_,rfl⟩
             try simp only [Act.put,tA,tZ,tS]
           rintro a wx ⟨rfl,rfl⟩
           try simp only [Act.put,tA,tZ,tS]
           refine wpAnyH_ready (rs:=[7]) (by kernel_rfl) (by simp) ?_
           refine AllReadyH.cons rfl (fun K hKK=>?_) AllReadyH.nil
           refine step_append_at rfl (.tmp 126) (.tmp 129) 34 rfl 0 2 i0 (.int .i64 0) 1 8 Tryz.underlying34 hi0 hz0 hz1 hz2 rfl (by decide) u1 P1.length (I64 P1) rfl hOa1 ⟨w7.heap.size,0,none⟩ 1 1 ([.int .i64 x.u]:List Value) rfl rfl hcl1 hone1 (by unfold maxLen;omega) (by omega) (Nat.zero_le _) ?_
           intro v1 w1 hown1 hgrow1 hat1
           obtain ⟨g1,p1,rfl⟩:=ownsRow_succ hown1
           obtain ⟨k1a,k1b,k1c,k1d⟩:=ha1 w1 hgrow1
           have hZ1:w1.cell? ⟨Z,9,none⟩=some (.int .i64 x.u):=(hVa1.pens.out hj1 (by rw [<- HU1.out];exact hgrow1) hXa1 (by omega)).cell rfl
           refine hKK.out _ _ hZ1 (fun hHeld=>?_)
           clear hKK K
           try simp only [Act.put,tA,tZ,tS]
           refine takeD (i:=8) (d:=some 131) (v:=.pointer (some ⟨X,c,none⟩)) (by kernel_rfl) (by kernel_rfl) (by kernel_rfl) (by kernel_rfl) (fun _ _ _ h=>h) (fun oi h=>?_) hHeld ?_
           ·simp only [uA,uS,uZ,Option.some.injEq] at h
            subst h
            refine Or.inl ⟨by rfl,fun w' hSw=>?_⟩
            go_simp
           try simp only [Act.put,tA,tZ,tS]
           clear hHeld
           refine wpAnyH_ready (rs:=[9]) (by kernel_rfl) (by simp) ?_
           refine AllReadyH.cons rfl (fun K hKK=>?_) AllReadyH.nil
           go_simp
           have hX1:=(hVa1.pens.out2 (c:=c) (v:=(.slice (some ⟨g1,0,none⟩) (P1.length+1) p1)) hj1 (by rw [<- HU1.out];exact hgrow1) hXa1 hqZ).1
           have hZ1':(w1.setCell ⟨X,c,none⟩ (.slice (some ⟨g1,0,none⟩) (P1.length+1) p1)).cell? ⟨Z,9,none⟩=some (.int .i64 x.u):=hX1.cell rfl
           refine hKK.out _ _ hZ1' (fun hHeld=>?_)
           clear hKK K hHeld hZ1 hZ1' k1a k1b k1c k1d
           try simp only [Act.put,tA,tZ,tS]
           refine wpAnyH_done (by kernel_rfl) ?_ _
           obtain ⟨q1,hV1,hqq1⟩:=hVa1.app2 hXa1.lt hqZ (j:=c) (v':=(.slice (some ⟨g1,0,none⟩) (P1.length+1) p1)) (W1:=w1) (W2:=w1.setCell ⟨X,c,none⟩ (.slice (some ⟨g1,0,none⟩) (P1.length+1) p1)) hj1 x.u (by rw [<- HP1.out,List.length_append,i64_snoc];exact hown1) (by rw [<- HU1.out];exact hgrow1) (by rw [<- HU1.out];exact hat1) (by rw [if_pos hc6,if_pos hc6])
           clear hown1 hgrow1 hat1 hVa1 hXa1 hOa1 cX1 cXd1 cXa1 cXb1 yvd1 yva1 hcl1 hone1 ha1
           obtain ⟨w8,hw8⟩:∃ w8,w8=w1.setCell ⟨X,c,none⟩ (.slice (some ⟨g1,0,none⟩) (P1.length+1) p1):=⟨_,rfl⟩
           rw [<- hw8] at hV1 hX1 ⊢
           clear hw8
           have hq1:q1 Z=0:=hqq1
           have e6:upd xs c (xs c ++ [x.u]) (6+c)=xs (6+c):=upd_ne _ _ (by omega)
           have hj2:6+c<12:=by omega
           obtain ⟨u2,hu2⟩:∃ u,u=(upd vs c (.slice (some ⟨g1,0,none⟩) (P1.length+1) p1)) (6+c):=⟨_,rfl⟩
           obtain ⟨P2,hP2⟩:∃ P,P=(upd xs c (xs c ++ [x.u])) (6+c):=⟨_,rfl⟩
           have hO2:=hV1.pens.row (6+c) hj2
           have hs2:=hV1.small (6+c)
           rw [<- hu2, <- hP2] at hO2
           rw [<- hP2] at hs2
           have hVa2:=hV1.below (show Below w8.heap.size w8 (w8.alloc (.cells #[.int .i64 x.v] 2)).drew from (below1 w8 _).drew)
           have hXa2:Blk (w8.alloc (.cells #[.int .i64 x.v] 2)).drew Z 39 (enA x):=(hX1.alloc _).drew
           have hOa2:(w8.alloc (.cells #[.int .i64 x.v] 2)).drew.ownsRow 0 2 1 u2 P2.length (I64 P2):=(hO2.alloc _).drew
           have cX2:w8.cell? ⟨Y,c,none⟩=some u2:=by rw [hu2];exact hV1.pens.cy hc6
           have cXd2:w8.drew.cell? ⟨Y,c,none⟩=some u2:=cX2
           have cXa2:(w8.alloc (.cells #[.int .i64 x.v] 2)).drew.cell? ⟨Y,c,none⟩=some u2:=by rw [hu2];exact hVa2.pens.cy hc6
           have cXb2:(w8.alloc (.cells #[.int .i64 x.v] 2)).cell? ⟨Y,c,none⟩=some u2:=cXa2
           have yvd2:w8.drew.cell? ⟨Z,8,none⟩=some (.int .i64 x.v):=hX1.cell rfl
           have yva2:(w8.alloc (.cells #[.int .i64 x.v] 2)).drew.cell? ⟨Z,8,none⟩=some (.int .i64 x.v):=hXa2.cell rfl
           have hcl2:∀ (j:Nat) (v:Value),([.int .i64 x.v]:List Value)[j]?=some v->(w8.alloc (.cells #[.int .i64 x.v] 2)).drew.cell? (Addr.add ⟨w8.heap.size,0,none⟩ j)=some v:=fun j v hj=>by
            rw [add0]
            exact Blk.cell (show Blk (w8.alloc (.cells #[.int .i64 x.v] 2)).drew w8.heap.size 2 #[.int .i64 x.v] from blk_new w8 _ _) (by simpa using hj)
           have hone2:∀ v ∈ ([.int .i64 x.v]:List Value),v.oneCell'=true:=fun v hv=>by
            rw [List.mem_singleton] at hv;rw [hv];rfl
           have ha2:=fun (w1:World) (hg:(w8.alloc (.cells #[.int .i64 x.v] 2)).drew.grownBy w1 u2.ownBlock)=>hVa2.pens.at1 hj2 (by rw [<- hu2];exact hg) hc6
           have HU2:=Lib.hid hu2
           have HP2:=Lib.hid hP2
           clear hu2 hP2 hO2
           go_wp2_with fail
           refine wp_region_held_drew (S:=fun W'=>W'.cell? ⟨Z,8,none⟩=some (.int .i64 x.v)) (by kernel_rfl) yvd2 (fun hHeld=>?_)
           refine takeD (i:=0) (d:=some 132) (v:=.int .i64 (c:Int)) (by kernel_rfl) (by kernel_rfl) (by kernel_rfl) (by kernel_rfl) (fun _ _ _ h=>h) (fun oi h=>?_) hHeld ?_
           ·simp only [uA,uZ,Option.some.injEq] at h
            subst h
            refine Or.inl ⟨by rfl,fun w' hSw=>?_⟩
            go_simp
           try simp only [Act.put,tA,tZ,tS]
           refine takeD (i:=1) (d:=some 133) (v:=.int .i64 (c:Int)) (by kernel_rfl) (by kernel_rfl) (by kernel_rfl) (by kernel_rfl) (fun _ _ _ h=>h) (fun oi h=>?_) hHeld ?_
           ·simp only [uA,uS,uZ,Option.some.injEq] at h
            subst h
            refine Or.inl ⟨by rfl,fun w' hSw=>?_⟩
            go_simp
           try simp only [Act.put,tA,tZ,tS]
           refine takeD (i:=2) (d:=some 134) (v:=.pointer (some ⟨Y,c,none⟩)) (by kernel_rfl) (by kernel_rfl) (by kernel_rfl) (by kernel_rfl) (fun _ _ _ h=>h) (fun oi h=>?_) hHeld ?_
           ·simp only [uA,uS,uZ,Option.some.injEq] at h
            subst h
            refine Or.inl ⟨by rfl,fun w' hSw=>?_⟩
            go_simp
           try simp only [Act.put,tA,tZ,tS]
           refine takeD (i:=4) (d:=some 136) (v:=.pointer (some ⟨Z,8,none⟩)) (by kernel_rfl) (by kernel_rfl) (by kernel_rfl) (by kernel_rfl) (fun _ _ _ h=>h) (fun oi h=>?_) hHeld ?_
           ·simp only [uA,uS,uZ,Option.some.injEq] at h
            subst h
            refine Or.inl ⟨by rfl,fun w' hSw=>?_⟩
            go_simp
           try simp only [Act.put,tA,tZ,tS]
           refine takeD (i:=5) (d:=some 137) (v:=.int .i64 x.v) (by kernel_rfl) (by kernel_rfl) (by kernel_rfl) (by kernel_rfl) (fun _ _ _ h=>h) (fun oi h=>?_) hHeld ?_
           ·simp only [uA,uS,uZ,Option.some.injEq] at h
            subst h
            refine Or.inl ⟨by rfl,fun w' hSw=>?_⟩
            go_simp
           try simp only [Act.put,tA,tZ,tS]
           refine wpAnyH_cut (fun a0 a wx=>a=(a0.put (some 135) u2).put (some 138) (.slice (some ⟨w8.heap.size,0,none⟩) 1 1)/\wx=(w8.alloc (.cells #[.int .i64 x.v] 2)).drew) (f':=3) (l':=#[true,true,true,true,true,true,true,false,false,false]) ?_ (fun hcutr=>?_)
           rotate_left 1
           ·refine wpAnyH_ready (rs:=[3,6]) (by kernel_rfl) (by simp) ?_
            refine AllReadyH.cons rfl (fun K hKK=>?_) (AllReadyH.cons rfl (fun K hKK=>?_) AllReadyH.nil)
            ·go_simp
             refine hKK.out _ _ yvd2 (fun hHeld=>?_)
             clear hKK K
             try simp only [Act.put,tA,tZ,tS]
             refine wpAnyH_ready (rs:=[6]) (by kernel_rfl) (by simp) ?_
             refine AllReadyH.cons rfl (fun K hKK=>?_) AllReadyH.nil
             go_simp
             refine hKK.out _ _ yva2 (fun hHeld=>?_)
             clear hKK K
             try simp only [Act.put,tA,tZ,tS]
             refine hcutr _ _ ⟨?_,rfl⟩
             try simp only [Act.put,tA,tZ,tS]
            ·go_simp
             refine hKK.out _ _ yva2 (fun hHeld=>?_)
             clear hKK K
             try simp only [Act.put,tA,tZ,tS]
             refine wpAnyH_ready (rs:=[3]) (by kernel_rfl) (by simp) ?_
             refine AllReadyH.cons rfl (fun K hKK=>?_) AllReadyH.nil
             go_simp
             refine hKK.out _ _ yva2 (fun hHeld=>?_)
             clear hKK K
             try simp only [Act.put,tA,tZ,tS]
             refine hcutr _ _ ⟨?_,rfl⟩
             try simp only [Act.put,tA,tZ,tS]
           rintro a wx ⟨rfl,rfl⟩
           try simp only [Act.put,tA,tZ,tS]
           refine wpAnyH_ready (rs:=[7]) (by kernel_rfl) (by simp) ?_
           refine AllReadyH.cons rfl (fun K hKK=>?_) AllReadyH.nil
           refine step_append_at rfl (.tmp 135) (.tmp 138) 34 rfl 0 2 i0 (.int .i64 0) 1 8 Tryz.underlying34 hi0 hz0 hz1 hz2 rfl (by decide) u2 P2.length (I64 P2) rfl hOa2 ⟨w8.heap.size,0,none⟩ 1 1 ([.int .i64 x.v]:List Value) rfl rfl hcl2 hone2 (by unfold maxLen;omega) (by omega) (Nat.zero_le _) ?_
           intro v2 w2 hown2 hgrow2 hat2
           obtain ⟨g2,p2,rfl⟩:=ownsRow_succ hown2
           obtain ⟨k2a,k2b,k2c,k2d⟩:=ha2 w2 hgrow2
           have hZ2:w2.cell? ⟨Z,8,none⟩=some (.int .i64 x.v):=(hVa2.pens.out hj2 (by rw [<- HU2.out];exact hgrow2) hXa2 (by omega)).cell rfl
           refine hKK.out _ _ hZ2 (fun hHeld=>?_)
           clear hKK K
           try simp only [Act.put,tA,tZ,tS]
           refine takeD (i:=8) (d:=some 140) (v:=.pointer (some ⟨Y,c,none⟩)) (by kernel_rfl) (by kernel_rfl) (by kernel_rfl) (by kernel_rfl) (fun _ _ _ h=>h) (fun oi h=>?_) hHeld ?_
           ·simp only [uA,uS,uZ,Option.some.injEq] at h
            subst h
            refine Or.inl ⟨by rfl,fun w' hSw=>?_⟩
            go_simp
           try simp only [Act.put,tA,tZ,tS]
           clear hHeld
           refine wpAnyH_ready (rs:=[9]) (by kernel_rfl) (by simp) ?_
           refine AllReadyH.cons rfl (fun K hKK=>?_) AllReadyH.nil
           go_simp
           have hX2:=(hVa2.pens.out2 (c:=c) (v:=(.slice (some ⟨g2,0,none⟩) (P2.length+1) p2)) hj2 (by rw [<- HU2.out];exact hgrow2) hXa2 hq1).2
           have hZ2':(w2.setCell ⟨Y,c,none⟩ (.slice (some ⟨g2,0,none⟩) (P2.length+1) p2)).cell? ⟨Z,8,none⟩=some (.int .i64 x.v):=hX2.cell rfl
           refine hKK.out _ _ hZ2' (fun hHeld=>?_)
           clear hKK K hHeld hZ2 hZ2' k2a k2b k2c k2d
           try simp only [Act.put,tA,tZ,tS]
           refine wpAnyH_done (by kernel_rfl) ?_ _
           obtain ⟨q2,hV2⟩:=hVa2.app (j:=6+c) (v':=(.slice (some ⟨g2,0,none⟩) (P2.length+1) p2)) (W1:=w2) (W2:=w2.setCell ⟨Y,c,none⟩ (.slice (some ⟨g2,0,none⟩) (P2.length+1) p2)) hj2 x.v (by rw [<- HP2.out,List.length_append,i64_snoc];exact hown2) (by rw [<- HU2.out];exact hgrow2) (by rw [<- HU2.out];exact hat2) (by rw [if_neg (by omega),if_neg (by omega),Nat.add_sub_cancel_left])
           clear hown2 hgrow2 hat2 hVa2 hXa2 hOa2 cX2 cXd2 cXa2 cXb2 yvd2 yva2 hcl2 hone2 ha2
           rw [e6] at hV2
           clear hX2
           go_wp2_with fail
           go_meet
           exact ⟨rfl,_,_,by rw [HW.out];exact hV2.more (by omega)⟩
         have HW:Hid (wrote x xs=xs):=Lib.hid (by unfold wrote;simp only [if_neg k1,if_neg k2,if_neg k3,if_neg k4])
         have t1:((x.k:Int) == 1)=false:=beq_eq_false_iff_ne.mpr (by omega)
         have t2:((x.k:Int) == 2)=false:=beq_eq_false_iff_ne.mpr (by omega)
         have t3:((x.k:Int) == 3)=false:=beq_eq_false_iff_ne.mpr (by omega)
         have t4:((x.k:Int) == 4)=false:=beq_eq_false_iff_ne.mpr (by omega)
         go_wp2_with fail
         go_meet
         exact ⟨rfl,_,_,by rw [HW.out];exact hV7.more (by omega)⟩
        case rest=>
         obtain ⟨rfl,q',vs',hV8⟩:=hcut
         obtain ⟨ys,hys⟩:∃ ys,ys=wrote x xs:=⟨_,rfl⟩
         rw [<- hys] at hV8 hK7
         clear hys hV7 hX7 y1
         have hlN:c<N.C.length:=by rw [hV8.len];exact hcn
         have hIO:=hK7 c hlN
         have hch:=chan_any c wc hV8.run.md hlN (hV8.run.inv.wl _).1 (hV8.run.inv.wl _).2
         go_wp2_with fail
         refine hch.mono ?_
         clear hch
         rintro e w9 ⟨D,rfl,hD,hb9⟩
         have hV9:=hV8.below hb9
         obtain ⟨Lb,hLb⟩:∃ Lb,Lb=(N.ch (c:Int)).buf:=⟨_,rfl⟩
         obtain ⟨Li,hLi⟩:∃ Li,Li=ys c:=⟨_,rfl⟩
         obtain ⟨Lo,hLo⟩:∃ Lo,Lo=ys (6+c):=⟨_,rfl⟩
         have hli:=hV9.small c
         have hlo:=hV9.small (6+c)
         have hRI:=hV9.pens.row c (by omega)
         have hRO:=hV9.pens.row (6+c) (by omega)
         rw [<- hLi] at hli hRI hIO
         rw [<- hLo] at hlo hRO hIO
         rw [<- hLb] at hIO hD
         obtain ⟨ui,hui⟩:∃ u,u=vs' c:=⟨_,rfl⟩
         obtain ⟨uo,huo⟩:∃ u,u=vs' (6+c):=⟨_,rfl⟩
         have cX:=fun (W:World) (hW:Below w9.heap.size w9 W)=>(hV9.below hW).pens.cx hc6
         have cY:=fun (W:World) (hW:Below w9.heap.size w9 W)=>(hV9.below hW).pens.cy hc6
         simp only [<- hui] at cX
         simp only [<- huo] at cY
         rw [<- hui] at hRI
         rw [<- huo] at hRO
         clear hui huo hLi hLo hLb hb9 hV8 hlN
         obtain ⟨ia,ic,rfl⟩:=owns_slice' hRI
         obtain ⟨oa,oc,rfl⟩:=owns_slice' hRO
         have hcb:=fun (W:World) (hW:Below w9.heap.size w9 W)=>(hD.below hW).at
         have hkS:∀ W,Below w9.heap.size w9 W->Below w9.heap.size w9 W/\W.cell? ⟨X,c,none⟩=some (.slice ia Li.length ic)/\W.cell? ⟨Y,c,none⟩=some (.slice oa Lo.length oc):=fun W hW=>⟨hW,cX W hW,cY W hW⟩
         clear cX cY hD
         have hPl:Li.length=Lo.length+Lb.length:=by rw [hIO,List.length_append]
         have g1:decide ((Li.length:Int)<(Lo.length:Int))=false:=by simp;omega
         have g1' : ¬ (Li.length:Int)<(Lo.length:Int):=by omega
         have g1n:decide (Li.length<Lo.length)=false:=by simp;omega
         have g0:(0:Int)<=(Lo.length:Int):=by omega
         have hlb:Lb.length<=1000:=by omega
         have hPL:=Lib.hid hPl
         have HIO:=Lib.hid hIO
         have hD0:Below w9.heap.size w9 w9.drew:=(Below.refl _ _).drew
         have hrT:RowI w9 (.slice oa Lo.length oc) Lo:=RowI.of_owns hRO
         clear hPl hIO hRO
         skip
         go_upto_region 27 with fail
         cases ia with
         | none=>
          obtain ⟨rfl,rfl⟩:Li = []/\ic=0:=by
           rcases hRI.2 with ⟨h,h0⟩ | ⟨g,cap,cur,h,_⟩
           ·simp at h;exact ⟨List.length_eq_zero_iff.mp h0,h.2⟩
           ·simp at h
          obtain ⟨rfl,rfl⟩:Lo = []/\Lb = []:=by
           have:=HIO.out.symm
           simpa using this
          clear g1 g1n g1' g0 hPL hli hlo hRI hlb
          simp only [List.length_nil] at hrT hkS ⊢
          have hr1:RowI w9 (.slice none 0 0) []:=Or.inl ⟨rfl,_,_,rfl⟩
          as_aux_lemma=>
           go_region_held3 (fun w'=>Below w9.heap.size w9 w'/\w'.cell? ⟨X,c,none⟩=some (.slice none 0 0)/\w'.cell? ⟨Y,c,none⟩=some (.slice oa 0 oc))
             (first | exact hkS _ hD0 | (refine hkS _ ?_;with_reducible first | assumption | exact below_nx hD0 hbs (Nat.le_refl _) | exact below_nx (below_nx hD0 hbs (Nat.le_refl _)) hbl (Nat.le_refl _) | exact below_nx (below_nx (below_nx hD0 hbs (Nat.le_refl _)) hbl (Nat.le_refl _)) hbt (Nat.le_refl _)))
             ((first
              | (go_at_call 12;obtain ⟨cB,c0,c1,hat,-⟩:=hcb _ (below_nx hD0 hbs (Nat.le_refl _));refine (Mch.cbuf_any _ hat).mono ?_;rintro e wl ⟨vl,rfl,hown,hbl⟩)
              | (go_at_call 11;(with_reducible refine (same_yes2 (.slice oa 0 oc) (.slice none 0 0) [] _ ?_ ?_ ?_).mono ?_);(exact hrT.below hD0);(exact hr1.below hD0);(first | omega | simp);rintro e ws ⟨rfl,hbs⟩)
              | (go_at_call 11;have hzz:=hown;(with_reducible refine (same_yes2 vl (.slice none 0 0) [] _ ?_ ?_ ?_).mono ?_);(exact RowI.of_owns hzz);(exact Or.inl ⟨rfl,_,_,rfl⟩);(first | omega | simp);rintro e wt ⟨rfl,hbt⟩)
              ))
           have hV10:=hV9.below (below_nx (below_nx (below_nx hD0 hbs (Nat.le_refl _)) hbl (Nat.le_refl _)) hbt (Nat.le_refl _))
           clear hV9 hD0 hbs hbl hbt hkS hrT hown hzz hcb
           go_wp2_with fail
           go_roundw
           case rel=>exact ⟨k+1,o2,N,q',vs',ys,by omega,by go_num,hV10.more (by omega),hK7⟩
           case measure=>simp [intOf];omega
         | some ad=>
          obtain ⟨g,rfl⟩:∃ g,ad=⟨g,0,none⟩:=by
           rcases hRI.2 with ⟨h,_⟩ | ⟨g,cap,cur,h,_⟩
           ·simp at h
           ·simp at h;exact ⟨g,h.1⟩
          have hpc:Li.length<=ic:=by
           rcases hRI.2 with ⟨h,_⟩ | ⟨g,cap,cur,h,_,_,hc,_⟩
           ·simp at h
           ·simp at h;omega
          have g4:(Lo.length:Int)<=(Li.length:Int):=by omega
          have g5:(Li.length:Int)<=(ic:Int):=by omega
          have g6:(Lo.length:Int)<=(ic:Int):=by omega
          by_cases hc0:ic=Lo.length
          ·subst hc0
           obtain rfl:Lb = []:=List.length_eq_zero_iff.mp (by have:=hPL.out;omega)
           obtain rfl:Li=Lo:=by simpa using HIO.out
           have hr1:RowI w9 (.slice (some ⟨g,0,none⟩) Li.length Li.length) Li:=RowI.of_owns hRI
           clear g1 g1n g1' hPL g4 g5 g6 hRI hpc hlb
           as_aux_lemma=>
            go_region_held3 (fun w'=>Below w9.heap.size w9 w'/\w'.cell? ⟨X,c,none⟩=some (.slice (some ⟨g,0,none⟩) Li.length Li.length)/\w'.cell? ⟨Y,c,none⟩=some (.slice oa Li.length oc))
              (first | exact hkS _ hD0 | (refine hkS _ ?_;with_reducible first | assumption | exact below_nx hD0 hbs (Nat.le_refl _) | exact below_nx (below_nx hD0 hbs (Nat.le_refl _)) hbl (Nat.le_refl _) | exact below_nx (below_nx (below_nx hD0 hbs (Nat.le_refl _)) hbl (Nat.le_refl _)) hbt (Nat.le_refl _)))
              ((first
               | (go_at_call 12;obtain ⟨cB,c0,c1,hat,-⟩:=hcb _ (below_nx hD0 hbs (Nat.le_refl _));refine (Mch.cbuf_any _ hat).mono ?_;rintro e wl ⟨vl,rfl,hown,hbl⟩)
               | (go_at_call 11;(with_reducible refine (same_yes2 (.slice oa Li.length oc) (.slice (some ⟨g,0,none⟩) Li.length Li.length) Li _ ?_ ?_ ?_).mono ?_);(exact hrT.below hD0);(exact hr1.below hD0);(first | omega | simp);rintro e ws ⟨rfl,hbs⟩)
               | (go_at_call 11;have hzz:=hown;(with_reducible refine (same_yes2 vl (.slice (some ⟨g,0,none⟩) 0 0) [] _ ?_ ?_ ?_).mono ?_);(exact RowI.of_owns hzz);(exact Or.inl ⟨rfl,_,_,rfl⟩);(first | omega | simp);rintro e wt ⟨rfl,hbt⟩)
               ))
            have hV10:=hV9.below (below_nx (below_nx (below_nx hD0 hbs (Nat.le_refl _)) hbl (Nat.le_refl _)) hbt (Nat.le_refl _))
            clear hV9 hD0 hbs hbl hbt hkS hrT hown hzz hcb
            go_wp2_with fail
            go_roundw
            case rel=>exact ⟨k+1,o2,N,q',vs',ys,by omega,by go_num,hV10.more (by omega),hK7⟩
            case measure=>simp [intOf];omega
          ·have g7 : ¬ ic - Lo.length=0:=by omega
           have g8 : ¬ ic<=Lo.length:=by omega
           have g9 : ¬ (ic:Int)=(Lo.length:Int):=by omega
           obtain ⟨hr1,hr2⟩:=rows_split2 HIO.out hRI
           have hr3:RowI w9 (.slice (some ⟨g,Lo.length,none⟩) (Li.length - Lo.length) (ic - Lo.length)) Lb:=by
            rw [show Li.length - Lo.length=Lb.length by have:=hPL.out;omega];exact hr2 _
           clear hr2 hRI hpc
           as_aux_lemma=>
            go_region_held3 (fun w'=>Below w9.heap.size w9 w'/\w'.cell? ⟨X,c,none⟩=some (.slice (some ⟨g,0,none⟩) Li.length ic)/\w'.cell? ⟨Y,c,none⟩=some (.slice oa Lo.length oc))
              (first | exact hkS _ hD0 | (refine hkS _ ?_;with_reducible first | assumption | exact below_nx hD0 hbs (Nat.le_refl _) | exact below_nx (below_nx hD0 hbs (Nat.le_refl _)) hbl (Nat.le_refl _) | exact below_nx (below_nx (below_nx hD0 hbs (Nat.le_refl _)) hbl (Nat.le_refl _)) hbt (Nat.le_refl _)))
              ((first
               | (go_at_call 12;obtain ⟨cB,c0,c1,hat,-⟩:=hcb _ (below_nx hD0 hbs (Nat.le_refl _));refine (Mch.cbuf_any _ hat).mono ?_;rintro e wl ⟨vl,rfl,hown,hbl⟩)
               | (go_at_call 11;(with_reducible refine (same_yes2 (.slice oa Lo.length oc) (_) Lo _ ?_ ?_ ?_).mono ?_);(exact hrT.below hD0);(exact hr1.below hD0);(first | omega | simp);rintro e ws ⟨rfl,hbs⟩)
               | (go_at_call 11;have hzz:=hown;(with_reducible refine (same_yes2 vl (.slice (some ⟨g,Lo.length,none⟩) (Li.length - Lo.length) (ic - Lo.length)) Lb _ ?_ ?_ ?_).mono ?_);(exact RowI.of_owns hzz);(exact hr3.below (below_nx (below_nx hD0 hbs (Nat.le_refl _)) hbl (Nat.le_refl _)));(first | omega | simp);rintro e wt ⟨rfl,hbt⟩)
               ))
            have hV10:=hV9.below (below_nx (below_nx (below_nx hD0 hbs (Nat.le_refl _)) hbl (Nat.le_refl _)) hbt (Nat.le_refl _))
            clear hV9 hD0 hbs hbl hbt hkS hrT hown hzz hcb
            go_wp2_with fail
            go_roundw
            case rel=>exact ⟨k+1,o2,N,q',vs',ys,by omega,by go_num,hV10.more (by omega),hK7⟩
            case measure=>simp [intOf];omega
       ·have hk6 : ¬ x.k<=5:=fun h5=>hin (hch h5)
        have hw:wrote x xs=xs:=by unfold wrote;rw [if_neg (by omega),if_neg (by omega),if_neg (by omega),if_neg (by omega)]
        rw [hw] at hK7
        by_cases hneg:x.c<0
        ·have d1:decide (x.c<0)=true:=by simpa using hneg
         clear hch hin hk6 hX7 hPr
         go_wp2_with fail
         go_roundw
         case rel=>exact ⟨k+1,o2,N,q,vs,xs,by omega,by go_num,hV7.more (by omega),hK7⟩
         case measure=>simp [intOf];omega
        ·have d1:decide (x.c<0)=false:=by simpa using hneg
         have hge:(nC:Int)<=x.c:=by omega
         have d2:decide ((nC:Int)<=x.c)=true:=by simpa using hge
         clear hch hin hk6 hX7 hPr hneg
         go_wp2_with fail
         go_roundw
         case rel=>exact ⟨k+1,o2,N,q,vs,xs,by omega,by go_num,hV7.more (by omega),hK7⟩
         case measure=>simp [intOf];omega
      ·have hM:M.apply x=M:=by unfold Mod.apply;rw [if_neg (by rw [<- HZ.out];exact h0)]
       have e1:(z != 0)=true:=by simpa using h0
       rw [hM] at hV7
       clear h0 hX7
       go_wp2_with fail
       go_roundw
       case rel=>exact ⟨k+1,o2,M,q,vs,xs,by omega,by go_num,hV7.more (by omega),hK⟩
       case measure=>simp [intOf];omega
    ·obtain rfl:k=n:=by omega
     have hk0' : ¬ (k:Int)<(k:Int):=by omega
     have hB9:=below_nx hB2 hV.run.bel (Nat.le_refl _)
     clear hV hK hlt
     go_wp2_with fail
     refine (alive_any _).mono ?_
     rintro e w5 ⟨rfl,hb5⟩
     have hB5:=below_nx hB9 hb5 (Nat.le_refl _)
     go_wp2_with fail
     go_ret
     exact ⟨rfl,hB5⟩
end Go.Proofs.YtnfbncgfpmcpnaaGreat.Mdl
