/-
  ReplayNext: its walks, part 44.
-/
import Derived.Test.YtnfbncgfpmcpnaaGreatQ41
import Derived.Test.YtnfbncgfpmcpnaaGreatQ43
set_option maxRecDepth 100000
set_option maxHeartbeats 12800000
namespace Go.Proofs.YtnfbncgfpmcpnaaGreat.Mdl
open Go.RowKit Go.Shelf
open Ent (En EnRow okB en_one en_len)
open Mch (Frm below1 below_nx owns_slice')
attribute [local go_sem] Oper.semAt_some
theorem szPrg:(Tryz.prog.info? 26).map (·.size)=some 3:=by kernel_rfl
set_option linter.unusedSimpArgs false in
theorem rnlaw_any {v1 v2 v3 sv:Value} {p:Prg} (most:Int) (l:List En) (x:En) (w:World) (h:PrgAt 0 w.heap.size w v1 v2 v3 p) (hl:EnRow w sv l) (hok:∀ y ∈ l,y.ok) (hx:x.ok) :
  Calls Tryz.prog 4 #[.agg #[v1,v2,v3],.int .i64 most,sv,enV x] w fun e w'=>e=.returned (.bool true)/\Below w.heap.size w w':=by
 obtain ⟨la,lc,rfl⟩:=hl.slice
 obtain ⟨w1,hw1⟩:∃ w1,w1=(w.alloc (.cells #[v1,v2,v3] 26)).alloc (.cells (enA x) 39):=⟨_,rfl⟩
 have hB1:Below w.heap.size w w1:=by rw [hw1];exact below2 w _ _
 have hP1:Blk w1 w.heap.size 26 #[v1,v2,v3]:=by rw [hw1];exact (blk_new w _ _).alloc _
 have hX1:Blk w1 (w.heap.size+1) 39 (enA x):=by rw [hw1];exact blk_at (by simp)
 have hhv:Calls Tryz.prog 5 #[.agg #[v1,v2,v3],.int .i64 0] w1 (HeavyPost w1 p 0):=heavy_any 0 w1 (h.later hB1)
 have z0:w1.cell? ⟨w.heap.size,0,none⟩=some v1:=hP1.cell rfl
 have z1:w1.cell? ⟨w.heap.size,1,none⟩=some v2:=hP1.cell rfl
 have z2:w1.cell? ⟨w.heap.size,2,none⟩=some v3:=hP1.cell rfl
 have hz:=szPrg
 obtain ⟨n,hn⟩:∃ n,n=l.length:=⟨_,rfl⟩
 have HN:=Lib.hid hn
 rw [<- hn] at hl ⊢
 clear hn
 go_enter Tryz.func4,Tryz.ntmps4
 go_upto_region 1 with fail
 rw [<- hw1]
 clear hw1
 go_wp2_with fail
 refine hhv.mono ?_
 clear hhv z0 z1 z2
 rintro e w2 ⟨b,rfl,hbf,hb2⟩
 have hB2:=below_nx hB1 hb2 (Nat.le_refl _)
 have hP2:=hP1.later hb2 hP1.lt
 have hX2:=hX1.later hb2 hX1.lt
 clear hP1 hX1 hB1 hb2
 cases b with
 | true=>
  clear hbf hP2 hX2 h hl
  go_wp2_with fail
  refine (ralive_any _).mono ?_
  rintro e w3 ⟨rfl,hb3⟩
  have hB3:=below_nx hB2 hb3 (Nat.le_refl _)
  go_wp2_with fail
  go_ret
  exact ⟨rfl,hB3⟩
 | false=>
  obtain ⟨-, hT⟩:=hbf rfl
  by_cases h120:120<n
  ·have d1:decide ((120:Int)<(n:Int))=true:=by simp;omega
   have d2:(120:Int)<(n:Int):=by omega
   clear hbf hP2 hX2 h hl h120
   go_wp2_with fail
   refine (ralive_any _).mono ?_
   rintro e w3 ⟨rfl,hb3⟩
   have hB3:=below_nx hB2 hb3 (Nat.le_refl _)
   go_wp2_with fail
   go_ret
   exact ⟨rfl,hB3⟩
  ·have d1:decide ((120:Int)<(n:Int))=false:=by simp;omega
   have d2 : ¬ (120:Int)<(n:Int):=by omega
   have hp2:=h.later hB2
   have hl2:=hl.below hB2
   have hsm:=hT.small
   have z0:w2.cell? ⟨w.heap.size,0,none⟩=some v1:=hP2.cell rfl
   have z1:w2.cell? ⟨w.heap.size,1,none⟩=some v2:=hP2.cell rfl
   have z2:w2.cell? ⟨w.heap.size,2,none⟩=some v3:=hP2.cell rfl
   clear hbf h hl hT
   by_cases hc:checkW p=none/\1<=most/\most<=32
   case neg=>
    have hbad:=rrun_bad most w2 hp2 hsm hc hl2 (by rw [<- HN.out];omega)
    clear hp2 hsm hc hl2 hP2 hX2 h120
    go_wp2_with fail
    refine hbad.mono ?_
    clear hbad z0 z1 z2
    rintro e w3 ⟨rfl,hb3⟩
    have hB3:=below_nx hB2 hb3 (Nat.le_refl _)
    clear hb3 hB2
    go_wp2_with fail
    refine (ralive_any _).mono ?_
    rintro e w4 ⟨rfl,hb4⟩
    have hB4:=below_nx hB3 hb4 (Nat.le_refl _)
    go_wp2_with fail
    go_ret
    exact ⟨rfl,hB4⟩
   case pos=>
    obtain ⟨hck0,hm1,hm2⟩:=hc
    obtain ⟨mo,rfl⟩:∃ mo:Nat,most=(mo:Int):=⟨most.toNat,by omega⟩
    have hok1:1<=mo:=by omega
    have hok2:mo<=32:=by omega
    have hrn:Calls Tryz.prog 14 #[.agg #[v1,v2,v3],.int .i64 (mo:Int),.slice la n lc] w2 (RunPost w2 ((rn0 (newM p mo)).go l)):=rrun_ok mo w2 hp2 hsm hck0 hok1 hok2 hl2 (by rw [<- HN.out];omega) hok
    have hi0:Inv (newM p mo):=inv_new hck0 hsm hp2.fit hok1 hok2
    have hI0:=inv_go (r:=rn0 (newM p mo)) hi0 l
    obtain ⟨r,hr⟩:∃ r,r=(rn0 (newM p mo)).go l:=⟨_,rfl⟩
    have HR:=Lib.hid hr
    rw [<- hr] at hrn hI0
    clear hr hi0 hm1 hm2
    unfold RunPost at hrn
    go_wp2_with fail
    refine hrn.mono ?_
    clear hrn z0 z1 z2
    rintro e w3 ⟨hb3,hcase⟩
    have hB3:=below_nx hB2 hb3 (Nat.le_refl _)
    have hP3:=hP2.on hb3
    have hX3:=hX2.on hb3
    rcases hcase with ⟨he,rfl⟩ | ⟨he,A,o,rfl,hM⟩
    ·obtain ⟨g,hg⟩:∃ g,g=r.e:=⟨_,rfl⟩
     rw [<- hg] at he ⊢
     have e1:(g != 0)=true:=by simpa using he
     clear hg he hP3 hX3 hP2 hX2 hp2 hl2 hb3 h120
     go_wp2_with fail
     refine (ralive_any _).mono ?_
     rintro e w4 ⟨rfl,hb4⟩
     have hB4:=below_nx hB3 hb4 (Nat.le_refl _)
     go_wp2_with fail
     go_ret
     exact ⟨rfl,hB4⟩
    ·have hgo:r.d=n/\0<=r.a:=by
      have h1:=go_ok (rn0 (newM p mo)) l rfl (by rw [<- HR.out];exact he)
      rw [<- HR.out] at h1
      refine ⟨by rw [h1.1,HN.out];show 0+_=_;omega,h1.2⟩
     obtain ⟨ra,hra⟩:∃ ra,ra=r.a:=⟨_,rfl⟩
     have hlast:n ≠ 0->∃ y,l[n - 1]?=some y/\y.a=ra:=fun h0=>by
      obtain ⟨y,hy⟩:∃ y,l[n - 1]?=some y:=⟨_,List.getElem?_eq_getElem (by rw [<- HN.out];omega)⟩
      refine ⟨y,hy,?_⟩
      rw [hra,HR.out]
      exact (go_last (rn0 (newM p mo)) l hy (by rw [<- HN.out];omega) (by rw [<- HR.out];exact he)).symm
     have hra0:r=(rn0 (newM p mo)).go l->ra=(if n=0 then 0 else ra):=fun _=>by
      by_cases h0:n=0
      ·rw [if_pos h0,hra,HR.out,List.length_eq_zero_iff.1 (show l.length=0 by rw [<- HN.out];exact h0)];rfl
      ·rw [if_neg h0]
     have hra64:Ent.I64b ra:=by
      by_cases h0:n=0
      ·have:=hra0 HR.out;rw [if_pos h0] at this;rw [this];exact Ent.i64_zero
      ·obtain ⟨y,hy,hya⟩:=hlast h0
       rw [<- hya];exact (hok y (List.mem_of_getElem? hy)).a
     have hz0:n=0->ra=0:=fun h0=>by have:=hra0 HR.out;rw [if_pos h0] at this;exact this
     have hl3:=hl2.below hb3
     have HE:=Lib.hid he
     have HRA:=Lib.hid hra
     have HGO:=Lib.hid hgo
     clear he hra hgo hra0 hP2 hX2 hl2
     go_upto_if 45 with fail
     go_cut [11] from 43 to 52 (fun av W=>av=.int .i64 ra/\W=w3)
     case first=>
      by_cases h0:n=0
      ·obtain rfl:=hz0 h0
       have e1:decide (0<(n:Int))=false:=by simp;omega
       have e2 : ¬ (0<(n:Int)):=by omega
       clear hlast hz0 h0
       go_wp2_with fail
       go_meet
       exact ⟨rfl,rfl⟩
      ·obtain ⟨y,hy,hya⟩:=hlast h0
       obtain ⟨b,off,rfl,-, y0,-⟩:=hl3.at hy
       rw [hya] at y0
       have e1:decide (0<(n:Int))=true:=by simp;omega
       have e2:0<(n:Int):=by omega
       have hwn:IntKind.i64.wrap ((n:Int) - 1)=((n - 1:Nat):Int):=by rw [IntKind.wrap_i64];omega
       have q0:(0:Int)<=((n - 1:Nat):Int):=by omega
       have q1:((n - 1:Nat):Int)<(n:Int):=by omega
       clear hlast hz0 h0 hy hya
       go_wp2_with fail
       go_meet
       exact ⟨rfl,rfl⟩
     case rest=>
      obtain ⟨rfl,hwc⟩:=hcut
      rw [hwc]
      clear hwc wc hlast hz0
      have x3:w3.cell? ⟨w.heap.size+1,3,none⟩=some (.int .i64 x.t):=hX3.cell rfl
      have hmv:=mmoves_any x.t w3 hM.md hM.inv.sane
      have hll:=moves_len hM.inv x.t
      obtain ⟨L,hL⟩:∃ L,L=r.M.moves x.t:=⟨_,rfl⟩
      rw [<- hL] at hmv hll
      have HL:=Lib.hid hL
      have HI:=Lib.hid hM.inv
      clear hL hM hI0
      go_wp2_with fail
      refine hmv.mono ?_
      clear hmv x3
      rintro e w7 ⟨v,rfl,hE,hb7⟩
      obtain ⟨oa,oc,rfl⟩:=hE.slice
      have hE7:=hE.1
      have hP7:=hP3.on hb7
      have hX7:=hX3.on hb7
      have hl7:=hl3.below hb7
      have hB7:=below_nx hB3 hb7 (Nat.le_refl _)
      have hp7:=hp2.later (below_nx hb3 hb7 (Nat.le_refl _))
      clear hE hb7 hb3 hp2 hP3 hX3 hl3 hB3
      have hl1000:l.length<=1000:=by rw [<- HN.out];omega
      have hnx:=fun (y:En)=>Rn.go_app (rn0 (newM p mo)) l y
      simp only [<- HR.out] at hnx
      have hckA:∀ (y:En),y.ok->∀ (W':World),Below w7.heap.size w7 W'->∀ fa fc,EnRow W' (.slice fa (n+1) fc) (l ++ [y])->Calls Tryz.prog 16 #[.agg #[v1,v2,v3],.int .i64 (mo:Int),.slice fa (n+1) fc] W' fun e w'=>e=.returned (.tuple #[.int .i64 ((r.step y).d:Int),.int .i64 (r.step y).e])/\Below W'.heap.size W' w':=fun y hy W' hW' fa fc hr=>by
       have:=rcheck_ok mo W' (hp7.later hW') hsm hck0 hok1 hok2 hr (by rw [List.length_append,List.length_singleton];omega) (fun z hz=>by
        rcases List.mem_append.1 hz with hz | hz
        ·exact hok z hz
        ·rw [List.mem_singleton] at hz;rw [hz];exact hy)
       rw [hnx y] at this
       exact this
      have hlenA:∀ y:En,(l ++ [y]).length=n+1:=fun y=>by rw [List.length_append,List.length_singleton, <- HN.out]
      clear hp7 hsm hck0 hok hnx h120
      go_wp2_with fail
      go_loopw [13,14] (fun bv iv wr=>∃ (c:Nat) (b:Bool),c<=L.length/\bv=.bool b/\iv=.int .i64 (c:Int)/\Hid (b=isA L x c)/\Below w7.heap.size w7 wr) (fun _ iv _=>L.length - (intOf iv).toNat)
      case atStart=>exact ⟨0,false,Nat.zero_le _,rfl,rfl,Lib.hid (by simp [isA]),Below.refl _ _⟩
      case round=>
       obtain ⟨c,b,hc,rfl,rfl,HB,hC⟩:=hrel
       by_cases hcl:c<L.length
       ·have hcl':(c:Int)<(L.length:Int):=by omega
        have c0:(0:Int)<=(c:Int):=by omega
        have hwc:IntKind.i64.wrap ((c:Int)+1)=(c:Int)+1:=by rw [IntKind.wrap_i64];omega
        obtain ⟨y,hy⟩:∃ y,L[c]?=some y:=⟨_,List.getElem?_eq_getElem hcl⟩
        have hmem:y ∈ r.M.moves x.t:=by rw [<- HL.out];exact List.mem_of_getElem? hy
        have hyok:=(moves_ok HI.out y hmem).1.wf
        have hsy:(setA y ra).ok:=⟨hra64,hyok.k,hyok.w,hyok.t,hyok.p,hyok.c,hyok.b,hyok.q,hyok.v,hyok.u,hyok.e,hyok.s⟩
        have hst:=next_ok HI.out HE.out HGO.out.2 hmem
        rw [<- HRA.out] at hst
        have hck1:=hckA (setA y ra) hsy
        rw [hst] at hck1
        simp only [HGO.out.1] at hck1
        have HS:=Lib.hid (isA_snoc L x hy)
        have HY:=Lib.hid hy
        obtain ⟨w8,hw8⟩:∃ w8,w8=wr.alloc (.cells (enA y) 39):=⟨_,rfl⟩
        have hC8:Below w7.heap.size w7 w8:=by rw [hw8];exact Mch.Below.al hC hC.size _
        have hY8:Blk w8 wr.heap.size 39 (enA y):=by rw [hw8];exact blk_new wr _ _
        obtain ⟨Q,hQ⟩:∃ Q,Q=wr.heap.size:=⟨_,rfl⟩
        rw [<- hQ] at hY8
        have hQ7:w7.heap.size<=Q:=by rw [hQ];exact hC.size
        obtain ⟨b2,off2,rfl,-, y0,y1,y2,y3,y4,y5,y6,y7,y8,y9,y10,y11,y12⟩:=(hE7.below hC).at hy
        clear hmem hyok hsy hst hy
        go_upto_region 15 with fail
        rw [<- hw8, <- hQ]
        clear hw8 hQ  y0 y1 y2 y3 y4 y5 y6 y7 y8 y9 y10 y11 y12 hC
        have fz:w8.frozen? ⟨Q,0,none⟩=false:=hY8.frozen 0
        have q0:w8.cell? ⟨Q,0,none⟩=some (.int .i64 y.a):=hY8.cell rfl
        obtain ⟨w9,hw9⟩:∃ w9,w9=w8.setCell ⟨Q,0,none⟩ (.int .i64 ra):=⟨_,rfl⟩
        have hY9:Blk w9 Q 39 (enA (setA y ra)):=by
         rw [hw9]
         have:=hY8.set 0 (.int .i64 ra)
         simp only [List.setIfInBounds_toArray,List.set_cons_zero] at this
         exact this
        have hC9:Below w7.heap.size w7 w9:=by rw [hw9];exact hC8.setCell (p:=⟨Q,0,none⟩) hQ7 _
        go_upto_region 16 with fail
        rw [<- hw9]
        clear hw9 fz q0 hY8 hC8
        go_cut [16,17] from 69 to 79 (fun av fv W=>av=.int .i64 ((n:Int)+1)/\fv=.int .i64 0/\Below w7.heap.size w7 W)
        case first=>
         have hlen1:=hlenA (setA y ra)
         have hPr:Blk w9.drew w.heap.size 26 #[v1,v2,v3]:=(hP7.on hC9).drew
         have hYr:Blk w9.drew Q 39 (enA (setA y ra)):=hY9.drew
         have hlr:EnRow w9.drew (.slice la n lc) l:=hl7.below hC9.drew
         have hBd:Below w7.heap.size w7 w9.drew:=hC9.drew
         have hck:∀ (W':World),Below w9.drew.heap.size w9.drew W'->∀ fa fc,EnRow W' (.slice fa (n+1) fc) (l ++ [setA y ra])->Calls Tryz.prog 16 #[.agg #[v1,v2,v3],.int .i64 (mo:Int),.slice fa (n+1) fc] W' fun e w'=>e=.returned (.tuple #[.int .i64 ((n:Int)+1),.int .i64 0])/\Below W'.heap.size W' w':=fun W' hW' fa fc hr=>hck1 W' (below_nx hBd hW' (Nat.le_refl _)) fa fc hr
         clear hckA hck1 hlenA
         have hS0:Blk w9.drew w.heap.size 26 #[v1,v2,v3]/\Blk w9.drew Q 39 (enA (setA y ra)):=⟨hPr,hYr⟩
         have hS:∀ W,Below w9.drew.heap.size w9.drew W->Blk W w.heap.size 26 #[v1,v2,v3]/\Blk W Q 39 (enA (setA y ra)):=fun W hW=>⟨hS0.1.on hW,hS0.2.on hW⟩
         refine wp_region_held_drew (S:=fun W=>Blk W w.heap.size 26 #[v1,v2,v3]/\Blk W Q 39 (enA (setA y ra))) (by kernel_rfl) hS0 (fun hHeld=>?_)
         obtain ⟨wd,hwd⟩:∃ wd,wd=w9.drew:=⟨_,rfl⟩
         rw [<- hwd] at hS0 hS hHeld hlr hck hBd ⊢
         clear hwd hPr hYr
         refine takeD (i:=0) (d:=some 70) (v:=.agg #[v1,v2,v3]) (by kernel_rfl) (by kernel_rfl) (by kernel_rfl) (by kernel_rfl) (fun _ _ _ h=>h) (fun oi h=>?_) hHeld ?_
         ·simp only [uA,uZ,Option.some.injEq] at h
          subst h
          refine Or.inl ⟨by rfl,fun w' hSw=>?_⟩
          exact exec_load_row rfl rfl hSw.1 Tryz.underlying26 rfl hz
         try simp only [Act.put,tA,tZ,tS]
         refine takeD (i:=1) (d:=some 71) (v:=.int .i64 (mo:Int)) (by kernel_rfl) (by kernel_rfl) (by kernel_rfl) (by kernel_rfl) (fun _ _ _ h=>h) (fun oi h=>?_) hHeld ?_
         ·simp only [uA,uS,uZ,Option.some.injEq] at h
          subst h
          refine Or.inl ⟨by rfl,fun w' hSw=>?_⟩
          go_simp
         try simp only [Act.put,tA,tZ,tS]
         refine takeD (i:=2) (d:=some 72) (v:=.slice la n lc) (by kernel_rfl) (by kernel_rfl) (by kernel_rfl) (by kernel_rfl) (fun _ _ _ h=>h) (fun oi h=>?_) hHeld ?_
         ·simp only [uA,uS,uZ,Option.some.injEq] at h
          subst h
          refine Or.inl ⟨by rfl,fun w' hSw=>?_⟩
          go_simp
         try simp only [Act.put,tA,tZ,tS]
         refine takeD (i:=4) (d:=some 74) (v:=enV (setA y ra)) (by kernel_rfl) (by kernel_rfl) (by kernel_rfl) (by kernel_rfl) (fun _ _ _ h=>h) (fun oi h=>?_) hHeld ?_
         ·simp only [uA,uS,uZ,Option.some.injEq] at h
          subst h
          refine Or.inl ⟨by rfl,fun w' hSw=>?_⟩
          exact exec_load_row rfl rfl hSw.2 Tryz.underlying39 rfl szEn
         try simp only [Act.put,tA,tZ,tS]
         refine wpAnyH_ready (rs:=[3,5]) (by kernel_rfl) (by simp) ?_
         refine AllReadyH.cons rfl (fun K hKK=>?_) (AllReadyH.cons rfl (fun K hKK=>?_) AllReadyH.nil)
         ·skip
          refine step_copyE (some 73) (.tmp 72) rfl rfl rfl rfl (hlr) (by omega) ?_
          intro va w3' ho hb3
          refine hKK.out _ _ (hS _ (hb3)) (fun hHeld=>?_)
          clear hKK K
          try simp only [Act.put,tA,tZ,tS]
          refine wpAnyH_ready (rs:=[5]) (by kernel_rfl) (by simp) ?_
          refine AllReadyH.cons rfl (fun K hKK=>?_) AllReadyH.nil
          go_simp
          have hbn:=below1 w3' (.cells (enA (setA y ra)) 39)
          have hnw:=blk_new w3' 39 (enA (setA y ra))
          obtain ⟨w5,hw5⟩:∃ w5,w5=w3'.alloc (.cells (enA (setA y ra)) 39):=⟨_,rfl⟩
          rw [<- hw5] at hbn hnw
          refine hKK.out _ _ (hS _ (by rw [<- show w5=_ from hw5];exact below_nx hb3 hbn (Nat.le_refl _))) (fun hHeld=>?_)
          clear hKK K
          try simp only [Act.put,tA,tZ,tS]
          rw [<- show w5=_ from hw5] at hHeld ⊢
          clear hw5
          refine wpAnyH_ready (rs:=[6]) (by kernel_rfl) (by simp) ?_
          refine AllReadyH.cons rfl (fun K hKK=>?_) AllReadyH.nil
          refine step_moreE (some 76) (.tmp 73) (.tmp 75) rfl rfl rfl rfl rfl (owns_fresh ho hbn) (hnw) (below_nx hb3 hbn (Nat.le_refl _)) (by omega) ?_
          intro vf w6 hrow hb6'
          have hb6:=below_nx (Below.refl _ _) hb6' (Nat.le_refl _)
          obtain ⟨fa,fc,hvf⟩:=hrow.slice
          rw [hlen1] at hvf
          subst hvf
          refine hKK.out _ _ (hS _ hb6) (fun hHeld=>?_)
          clear hKK K
          try simp only [Act.put,tA,tZ,tS]
          refine wpAnyH_ready (rs:=[7]) (by kernel_rfl) (by simp) ?_
          refine AllReadyH.cons rfl (fun K hKK=>?_) AllReadyH.nil
          go_simp
          refine (hck _ hb6 fa fc hrow).mono ?_
          rintro e w7' ⟨rfl,hb7⟩
          have hb8:=below_nx hb6 hb7 (Nat.le_refl _)
          refine hKK.out _ _ (hS _ hb8) (fun hHeld=>?_)
          clear hKK K
          try simp only [Act.put,tA,tZ,tS]
          refine takeD (i:=8) (d:=some 69) (v:=.tuple #[.int .i64 ((n:Int)+1),.int .i64 0]) (by kernel_rfl) (by kernel_rfl) (by kernel_rfl) (by kernel_rfl) (fun _ _ _ h=>h) (fun oi h=>?_) hHeld ?_
          ·simp only [uA,uS,uZ,Option.some.injEq] at h
           subst h
           refine Or.inl ⟨by rfl,fun w' hSw=>?_⟩
           go_simp
          try simp only [Act.put,tA,tZ,tS]
          refine takeD (i:=9) (d:=some 78) (v:=.int .i64 ((n:Int)+1)) (by kernel_rfl) (by kernel_rfl) (by kernel_rfl) (by kernel_rfl) (fun _ _ _ h=>h) (fun oi h=>?_) hHeld ?_
          ·simp only [uA,uS,uZ,Option.some.injEq] at h
           subst h
           refine Or.inl ⟨by rfl,fun w' hSw=>?_⟩
           go_simp
          try simp only [Act.put,tA,tZ,tS]
          refine takeD (i:=10) (d:=some 79) (v:=.int .i64 0) (by kernel_rfl) (by kernel_rfl) (by kernel_rfl) (by kernel_rfl) (fun _ _ _ h=>h) (fun oi h=>?_) hHeld ?_
          ·simp only [uA,uS,uZ,Option.some.injEq] at h
           subst h
           refine Or.inl ⟨by rfl,fun w' hSw=>?_⟩
           go_simp
          try simp only [Act.put,tA,tZ,tS]
          refine takeD (i:=11) (d:=some 16) (v:=.int .i64 ((n:Int)+1)) (by kernel_rfl) (by kernel_rfl) (by kernel_rfl) (by kernel_rfl) (fun _ _ _ h=>h) (fun oi h=>?_) hHeld ?_
          ·simp only [uA,uS,uZ,Option.some.injEq] at h
           subst h
           refine Or.inl ⟨by rfl,fun w' hSw=>?_⟩
           go_simp
          try simp only [Act.put,tA,tZ,tS]
          refine takeD (i:=12) (d:=some 17) (v:=.int .i64 0) (by kernel_rfl) (by kernel_rfl) (by kernel_rfl) (by kernel_rfl) (fun _ _ _ h=>h) (fun oi h=>?_) hHeld ?_
          ·simp only [uA,uS,uZ,Option.some.injEq] at h
           subst h
           refine Or.inl ⟨by rfl,fun w' hSw=>?_⟩
           go_simp
          try simp only [Act.put,tA,tZ,tS]
          refine wpAnyH_done (by kernel_rfl) ?_ _
          go_wp2_with fail
          go_meet
          exact ⟨rfl,rfl,below_nx hBd hb8 (Nat.le_refl _)⟩
         ·skip
          go_simp
          have hb5:=below1 wd (.cells (enA (setA y ra)) 39)
          have hnw:=blk_new wd 39 (enA (setA y ra))
          obtain ⟨w5,hw5⟩:∃ w5,w5=wd.alloc (.cells (enA (setA y ra)) 39):=⟨_,rfl⟩
          rw [<- hw5] at hb5 hnw
          refine hKK.out _ _ (hS _ (by rw [<- show w5=_ from hw5];exact hb5)) (fun hHeld=>?_)
          clear hKK K
          try simp only [Act.put,tA,tZ,tS]
          rw [<- show w5=_ from hw5] at hHeld ⊢
          clear hw5
          refine wpAnyH_ready (rs:=[3]) (by kernel_rfl) (by simp) ?_
          refine AllReadyH.cons rfl (fun K hKK=>?_) AllReadyH.nil
          refine step_copyE (some 73) (.tmp 72) rfl rfl rfl rfl (hlr.below hb5) (by omega) ?_
          intro va w3' ho hb3
          refine hKK.out _ _ (hS _ (below_nx hb5 hb3 (Nat.le_refl _))) (fun hHeld=>?_)
          clear hKK K
          try simp only [Act.put,tA,tZ,tS]
          refine wpAnyH_ready (rs:=[6]) (by kernel_rfl) (by simp) ?_
          refine AllReadyH.cons rfl (fun K hKK=>?_) AllReadyH.nil
          refine step_moreE (some 76) (.tmp 73) (.tmp 75) rfl rfl rfl rfl rfl (ho) (hnw.on hb3) (hb3) (by omega) ?_
          intro vf w6 hrow hb6'
          have hb6:=below_nx (hb5) hb6' (Nat.le_refl _)
          obtain ⟨fa,fc,hvf⟩:=hrow.slice
          rw [hlen1] at hvf
          subst hvf
          refine hKK.out _ _ (hS _ hb6) (fun hHeld=>?_)
          clear hKK K
          try simp only [Act.put,tA,tZ,tS]
          refine wpAnyH_ready (rs:=[7]) (by kernel_rfl) (by simp) ?_
          refine AllReadyH.cons rfl (fun K hKK=>?_) AllReadyH.nil
          go_simp
          refine (hck _ hb6 fa fc hrow).mono ?_
          rintro e w7' ⟨rfl,hb7⟩
          have hb8:=below_nx hb6 hb7 (Nat.le_refl _)
          refine hKK.out _ _ (hS _ hb8) (fun hHeld=>?_)
          clear hKK K
          try simp only [Act.put,tA,tZ,tS]
          refine takeD (i:=8) (d:=some 69) (v:=.tuple #[.int .i64 ((n:Int)+1),.int .i64 0]) (by kernel_rfl) (by kernel_rfl) (by kernel_rfl) (by kernel_rfl) (fun _ _ _ h=>h) (fun oi h=>?_) hHeld ?_
          ·simp only [uA,uS,uZ,Option.some.injEq] at h
           subst h
           refine Or.inl ⟨by rfl,fun w' hSw=>?_⟩
           go_simp
          try simp only [Act.put,tA,tZ,tS]
          refine takeD (i:=9) (d:=some 78) (v:=.int .i64 ((n:Int)+1)) (by kernel_rfl) (by kernel_rfl) (by kernel_rfl) (by kernel_rfl) (fun _ _ _ h=>h) (fun oi h=>?_) hHeld ?_
          ·simp only [uA,uS,uZ,Option.some.injEq] at h
           subst h
           refine Or.inl ⟨by rfl,fun w' hSw=>?_⟩
           go_simp
          try simp only [Act.put,tA,tZ,tS]
          refine takeD (i:=10) (d:=some 79) (v:=.int .i64 0) (by kernel_rfl) (by kernel_rfl) (by kernel_rfl) (by kernel_rfl) (fun _ _ _ h=>h) (fun oi h=>?_) hHeld ?_
          ·simp only [uA,uS,uZ,Option.some.injEq] at h
           subst h
           refine Or.inl ⟨by rfl,fun w' hSw=>?_⟩
           go_simp
          try simp only [Act.put,tA,tZ,tS]
          refine takeD (i:=11) (d:=some 16) (v:=.int .i64 ((n:Int)+1)) (by kernel_rfl) (by kernel_rfl) (by kernel_rfl) (by kernel_rfl) (fun _ _ _ h=>h) (fun oi h=>?_) hHeld ?_
          ·simp only [uA,uS,uZ,Option.some.injEq] at h
           subst h
           refine Or.inl ⟨by rfl,fun w' hSw=>?_⟩
           go_simp
          try simp only [Act.put,tA,tZ,tS]
          refine takeD (i:=12) (d:=some 17) (v:=.int .i64 0) (by kernel_rfl) (by kernel_rfl) (by kernel_rfl) (by kernel_rfl) (fun _ _ _ h=>h) (fun oi h=>?_) hHeld ?_
          ·simp only [uA,uS,uZ,Option.some.injEq] at h
           subst h
           refine Or.inl ⟨by rfl,fun w' hSw=>?_⟩
           go_simp
          try simp only [Act.put,tA,tZ,tS]
          refine wpAnyH_done (by kernel_rfl) ?_ _
          go_wp2_with fail
          go_meet
          exact ⟨rfl,rfl,below_nx hBd hb8 (Nat.le_refl _)⟩
        case rest=>
         obtain ⟨rfl,rfl,hCc⟩:=hcut
         have hwn1:IntKind.i64.wrap ((n:Int)+1)=(n:Int)+1:=by rw [IntKind.wrap_i64];omega
         have e3:(((n:Int)+1) != ((n:Int)+1))=false:=by simp
         have hXc:=hX7.on hCc
         clear hck1 hC9 hY9 hckA hlenA
         obtain ⟨w10,hw10⟩:∃ w10,w10=wc.alloc (.cells (enA x) 39):=⟨_,rfl⟩
         have hC10:Below w7.heap.size w7 w10:=by rw [hw10];exact Mch.Below.al hCc hCc.size _
         have hZ10:Blk w10 wc.heap.size 39 (enA x):=by rw [hw10];exact blk_new wc _ _
         obtain ⟨Z,hZ⟩:∃ Z,Z=wc.heap.size:=⟨_,rfl⟩
         rw [<- hZ] at hZ10
         have hZ7:w7.heap.size<=Z:=by rw [hZ];exact hCc.size
         have x0:wc.cell? ⟨w.heap.size+1,0,none⟩=some (.int .i64 x.a):=hXc.cell rfl
         have x1:wc.cell? ⟨w.heap.size+1,1,none⟩=some (.int .u8 (x.k:Int)):=hXc.cell rfl
         have x2:wc.cell? ⟨w.heap.size+1,2,none⟩=some (.int .i64 x.w):=hXc.cell rfl
         have x3:wc.cell? ⟨w.heap.size+1,3,none⟩=some (.int .i64 x.t):=hXc.cell rfl
         have x4:wc.cell? ⟨w.heap.size+1,4,none⟩=some (.int .i64 x.p):=hXc.cell rfl
         have x5:wc.cell? ⟨w.heap.size+1,5,none⟩=some (.int .i64 x.c):=hXc.cell rfl
         have x6:wc.cell? ⟨w.heap.size+1,6,none⟩=some (.int .i64 x.b):=hXc.cell rfl
         have x7:wc.cell? ⟨w.heap.size+1,7,none⟩=some (.int .i64 x.q):=hXc.cell rfl
         have x8:wc.cell? ⟨w.heap.size+1,8,none⟩=some (.int .i64 x.v):=hXc.cell rfl
         have x9:wc.cell? ⟨w.heap.size+1,9,none⟩=some (.int .i64 x.u):=hXc.cell rfl
         have x10:wc.cell? ⟨w.heap.size+1,10,none⟩=some (.bool x.o):=hXc.cell rfl
         have x11:wc.cell? ⟨w.heap.size+1,11,none⟩=some (.int .i64 x.e):=hXc.cell rfl
         have x12:wc.cell? ⟨w.heap.size+1,12,none⟩=some (.int .u64 (x.s:Int)):=hXc.cell rfl
         go_upto_region 20 with fail
         rw [<- hw10, <- hZ]
         clear hw10 hZ  x0 x1 x2 x3 x4 x5 x6 x7 x8 x9 x10 x11 x12 hXc hwn1 e3 hCc
         have fz:w10.frozen? ⟨Z,0,none⟩=false:=hZ10.frozen 0
         have q0:w10.cell? ⟨Z,0,none⟩=some (.int .i64 x.a):=hZ10.cell rfl
         obtain ⟨w11,hw11⟩:∃ w11,w11=w10.setCell ⟨Z,0,none⟩ (.int .i64 0):=⟨_,rfl⟩
         have hZ11:Blk w11 Z 39 #[.int .i64 0,.int .u8 (x.k:Int),.int .i64 x.w,.int .i64 x.t,.int .i64 x.p,.int .i64 x.c,.int .i64 x.b,.int .i64 x.q,.int .i64 x.v,.int .i64 x.u,.bool x.o,.int .i64 x.e,.int .u64 (x.s:Int)]:=by
          rw [hw11]
          have:=hZ10.set 0 (.int .i64 0)
          simpa using this
         have hC11:Below w7.heap.size w7 w11:=by rw [hw11];exact hC10.setCell (p:=⟨Z,0,none⟩) hZ7 _
         go_upto_region 21 with fail
         rw [<- hw11]
         clear hw11 fz q0 hZ10 hC10
         have hCd:∀ m,Below w7.heap.size w7 (w11.drewN m):=fun m=>Mch.below_drewN hC11 m
         cases b with
         | true=>
          have HT:Hid (true=isA L x (c+1)):=Lib.hid (by rw [HS.out, <- HB.out];rfl)
          clear hZ11
          go_quiet (fail)
          go_wp2_with fail
          go_roundw
          case rel=>exact ⟨c+1,true,by omega,rfl,by go_num,HT,hCd _⟩
          case measure=>simp [intOf];omega
         | false=>
          obtain ⟨b3,off3,hab,-, y0,y1,y2,y3,y4,y5,y6,y7,y8,y9,y10,y11,y12⟩:=(hE7.below hC11).at HY.out
          cases hab
          have q0:w11.cell? ⟨Z,0,none⟩=some (.int .i64 0):=hZ11.cell rfl
          have q1:w11.cell? ⟨Z,1,none⟩=some (.int .u8 (x.k:Int)):=hZ11.cell rfl
          have q2:w11.cell? ⟨Z,2,none⟩=some (.int .i64 x.w):=hZ11.cell rfl
          have q3:w11.cell? ⟨Z,3,none⟩=some (.int .i64 x.t):=hZ11.cell rfl
          have q4:w11.cell? ⟨Z,4,none⟩=some (.int .i64 x.p):=hZ11.cell rfl
          have q5:w11.cell? ⟨Z,5,none⟩=some (.int .i64 x.c):=hZ11.cell rfl
          have q6:w11.cell? ⟨Z,6,none⟩=some (.int .i64 x.b):=hZ11.cell rfl
          have q7:w11.cell? ⟨Z,7,none⟩=some (.int .i64 x.q):=hZ11.cell rfl
          have q8:w11.cell? ⟨Z,8,none⟩=some (.int .i64 x.v):=hZ11.cell rfl
          have q9:w11.cell? ⟨Z,9,none⟩=some (.int .i64 x.u):=hZ11.cell rfl
          have q10:w11.cell? ⟨Z,10,none⟩=some (.bool x.o):=hZ11.cell rfl
          have q11:w11.cell? ⟨Z,11,none⟩=some (.int .i64 x.e):=hZ11.cell rfl
          have q12:w11.cell? ⟨Z,12,none⟩=some (.int .u64 (x.s:Int)):=hZ11.cell rfl
          obtain ⟨q,hq⟩:∃ q,q=Ent.En.eq y (En.at0 x):=⟨_,rfl⟩
          have qe:∀ W,(binOp .eql 39 (enV y) (.agg #[.int .i64 0,.int .u8 (x.k:Int),.int .i64 x.w,.int .i64 x.t,.int .i64 x.p,.int .i64 x.c,.int .i64 x.b,.int .i64 x.q,.int .i64 x.v,.int .i64 x.u,.bool x.o,.int .i64 x.e,.int .u64 (x.s:Int)])).run Tryz.prog W=.ok (.bool q) W:=fun W=>by rw [hq];exact eq_run y (En.at0 x) W
          have HT:Hid (q=isA L x (c+1)):=Lib.hid (by rw [HS.out, <- HB.out,hq];simp)
          clear hq hZ11
          go_quiet (fail)
          go_wp2_with fail
          go_roundw
          case rel=>exact ⟨c+1,q,by omega,rfl,by go_num,HT,hCd _⟩
          case measure=>simp [intOf];omega
       ·have hcl' : ¬ (c:Int)<(L.length:Int):=by omega
        obtain rfl:c=L.length:=by omega
        have hck1:=hckA x hx
        obtain ⟨s,hs⟩:∃ s,s=r.step x:=⟨_,rfl⟩
        have HST:=Lib.hid hs
        rw [<- hs] at hck1
        obtain ⟨dd,hdd⟩:∃ dd,dd=s.d:=⟨_,rfl⟩
        obtain ⟨ee,hee⟩:∃ ee,ee=s.e:=⟨_,rfl⟩
        rw [<- hdd, <- hee] at hck1
        have HEE:=Lib.hid hee
        clear hs hdd hee hcl
        go_upto_region 22 with fail
        go_cut [19,20] from 100 to 110 (fun av fv W=>av=.int .i64 (dd:Int)/\fv=.int .i64 ee/\Below w7.heap.size w7 W)
        case first=>
         have hlen1:=hlenA x
         have hPr:Blk wr.drew w.heap.size 26 #[v1,v2,v3]:=(hP7.on hC).drew
         have hYr:Blk wr.drew (w.heap.size+1) 39 (enA x):=(hX7.on hC).drew
         have hlr:EnRow wr.drew (.slice la n lc) l:=hl7.below hC.drew
         have hBd:Below w7.heap.size w7 wr.drew:=hC.drew
         have hck:∀ (W':World),Below wr.drew.heap.size wr.drew W'->∀ fa fc,EnRow W' (.slice fa (n+1) fc) (l ++ [x])->Calls Tryz.prog 16 #[.agg #[v1,v2,v3],.int .i64 (mo:Int),.slice fa (n+1) fc] W' fun e w'=>e=.returned (.tuple #[.int .i64 (dd:Int),.int .i64 ee])/\Below W'.heap.size W' w':=fun W' hW' fa fc hr=>hck1 W' (below_nx hBd hW' (Nat.le_refl _)) fa fc hr
         clear hckA hck1 hlenA
         have hS0:Blk wr.drew w.heap.size 26 #[v1,v2,v3]/\Blk wr.drew (w.heap.size+1) 39 (enA (x)):=⟨hPr,hYr⟩
         have hS:∀ W,Below wr.drew.heap.size wr.drew W->Blk W w.heap.size 26 #[v1,v2,v3]/\Blk W (w.heap.size+1) 39 (enA (x)):=fun W hW=>⟨hS0.1.on hW,hS0.2.on hW⟩
         refine wp_region_held_drew (S:=fun W=>Blk W w.heap.size 26 #[v1,v2,v3]/\Blk W (w.heap.size+1) 39 (enA (x))) (by kernel_rfl) hS0 (fun hHeld=>?_)
         obtain ⟨wd,hwd⟩:∃ wd,wd=wr.drew:=⟨_,rfl⟩
         rw [<- hwd] at hS0 hS hHeld hlr hck hBd ⊢
         clear hwd hPr hYr
         refine takeD (i:=0) (d:=some 101) (v:=.agg #[v1,v2,v3]) (by kernel_rfl) (by kernel_rfl) (by kernel_rfl) (by kernel_rfl) (fun _ _ _ h=>h) (fun oi h=>?_) hHeld ?_
         ·simp only [uA,uZ,Option.some.injEq] at h
          subst h
          refine Or.inl ⟨by rfl,fun w' hSw=>?_⟩
          exact exec_load_row rfl rfl hSw.1 Tryz.underlying26 rfl hz
         try simp only [Act.put,tA,tZ,tS]
         refine takeD (i:=1) (d:=some 102) (v:=.int .i64 (mo:Int)) (by kernel_rfl) (by kernel_rfl) (by kernel_rfl) (by kernel_rfl) (fun _ _ _ h=>h) (fun oi h=>?_) hHeld ?_
         ·simp only [uA,uS,uZ,Option.some.injEq] at h
          subst h
          refine Or.inl ⟨by rfl,fun w' hSw=>?_⟩
          go_simp
         try simp only [Act.put,tA,tZ,tS]
         refine takeD (i:=2) (d:=some 103) (v:=.slice la n lc) (by kernel_rfl) (by kernel_rfl) (by kernel_rfl) (by kernel_rfl) (fun _ _ _ h=>h) (fun oi h=>?_) hHeld ?_
         ·simp only [uA,uS,uZ,Option.some.injEq] at h
          subst h
          refine Or.inl ⟨by rfl,fun w' hSw=>?_⟩
          go_simp
         try simp only [Act.put,tA,tZ,tS]
         refine takeD (i:=4) (d:=some 105) (v:=enV (x)) (by kernel_rfl) (by kernel_rfl) (by kernel_rfl) (by kernel_rfl) (fun _ _ _ h=>h) (fun oi h=>?_) hHeld ?_
         ·simp only [uA,uS,uZ,Option.some.injEq] at h
          subst h
          refine Or.inl ⟨by rfl,fun w' hSw=>?_⟩
          exact exec_load_row rfl rfl hSw.2 Tryz.underlying39 rfl szEn
         try simp only [Act.put,tA,tZ,tS]
         refine wpAnyH_ready (rs:=[3,5]) (by kernel_rfl) (by simp) ?_
         refine AllReadyH.cons rfl (fun K hKK=>?_) (AllReadyH.cons rfl (fun K hKK=>?_) AllReadyH.nil)
         ·skip
          refine step_copyE (some 104) (.tmp 103) rfl rfl rfl rfl (hlr) (by omega) ?_
          intro va w3' ho hb3
          refine hKK.out _ _ (hS _ (hb3)) (fun hHeld=>?_)
          clear hKK K
          try simp only [Act.put,tA,tZ,tS]
          refine wpAnyH_ready (rs:=[5]) (by kernel_rfl) (by simp) ?_
          refine AllReadyH.cons rfl (fun K hKK=>?_) AllReadyH.nil
          go_simp
          have hbn:=below1 w3' (.cells (enA (x)) 39)
          have hnw:=blk_new w3' 39 (enA (x))
          obtain ⟨w5,hw5⟩:∃ w5,w5=w3'.alloc (.cells (enA (x)) 39):=⟨_,rfl⟩
          rw [<- hw5] at hbn hnw
          refine hKK.out _ _ (hS _ (by rw [<- show w5=_ from hw5];exact below_nx hb3 hbn (Nat.le_refl _))) (fun hHeld=>?_)
          clear hKK K
          try simp only [Act.put,tA,tZ,tS]
          rw [<- show w5=_ from hw5] at hHeld ⊢
          clear hw5
          refine wpAnyH_ready (rs:=[6]) (by kernel_rfl) (by simp) ?_
          refine AllReadyH.cons rfl (fun K hKK=>?_) AllReadyH.nil
          refine step_moreE (some 107) (.tmp 104) (.tmp 106) rfl rfl rfl rfl rfl (owns_fresh ho hbn) (hnw) (below_nx hb3 hbn (Nat.le_refl _)) (by omega) ?_
          intro vf w6 hrow hb6'
          have hb6:=below_nx (Below.refl _ _) hb6' (Nat.le_refl _)
          obtain ⟨fa,fc,hvf⟩:=hrow.slice
          rw [hlen1] at hvf
          subst hvf
          refine hKK.out _ _ (hS _ hb6) (fun hHeld=>?_)
          clear hKK K
          try simp only [Act.put,tA,tZ,tS]
          refine wpAnyH_ready (rs:=[7]) (by kernel_rfl) (by simp) ?_
          refine AllReadyH.cons rfl (fun K hKK=>?_) AllReadyH.nil
          go_simp
          refine (hck _ hb6 fa fc hrow).mono ?_
          rintro e w7' ⟨rfl,hb7⟩
          have hb8:=below_nx hb6 hb7 (Nat.le_refl _)
          refine hKK.out _ _ (hS _ hb8) (fun hHeld=>?_)
          clear hKK K
          try simp only [Act.put,tA,tZ,tS]
          refine takeD (i:=8) (d:=some 100) (v:=.tuple #[.int .i64 (dd:Int),.int .i64 ee]) (by kernel_rfl) (by kernel_rfl) (by kernel_rfl) (by kernel_rfl) (fun _ _ _ h=>h) (fun oi h=>?_) hHeld ?_
          ·simp only [uA,uS,uZ,Option.some.injEq] at h
           subst h
           refine Or.inl ⟨by rfl,fun w' hSw=>?_⟩
           go_simp
          try simp only [Act.put,tA,tZ,tS]
          refine takeD (i:=9) (d:=some 109) (v:=.int .i64 (dd:Int)) (by kernel_rfl) (by kernel_rfl) (by kernel_rfl) (by kernel_rfl) (fun _ _ _ h=>h) (fun oi h=>?_) hHeld ?_
          ·simp only [uA,uS,uZ,Option.some.injEq] at h
           subst h
           refine Or.inl ⟨by rfl,fun w' hSw=>?_⟩
           go_simp
          try simp only [Act.put,tA,tZ,tS]
          refine takeD (i:=10) (d:=some 110) (v:=.int .i64 ee) (by kernel_rfl) (by kernel_rfl) (by kernel_rfl) (by kernel_rfl) (fun _ _ _ h=>h) (fun oi h=>?_) hHeld ?_
          ·simp only [uA,uS,uZ,Option.some.injEq] at h
           subst h
           refine Or.inl ⟨by rfl,fun w' hSw=>?_⟩
           go_simp
          try simp only [Act.put,tA,tZ,tS]
          refine takeD (i:=11) (d:=some 19) (v:=.int .i64 (dd:Int)) (by kernel_rfl) (by kernel_rfl) (by kernel_rfl) (by kernel_rfl) (fun _ _ _ h=>h) (fun oi h=>?_) hHeld ?_
          ·simp only [uA,uS,uZ,Option.some.injEq] at h
           subst h
           refine Or.inl ⟨by rfl,fun w' hSw=>?_⟩
           go_simp
          try simp only [Act.put,tA,tZ,tS]
          refine takeD (i:=12) (d:=some 20) (v:=.int .i64 ee) (by kernel_rfl) (by kernel_rfl) (by kernel_rfl) (by kernel_rfl) (fun _ _ _ h=>h) (fun oi h=>?_) hHeld ?_
          ·simp only [uA,uS,uZ,Option.some.injEq] at h
           subst h
           refine Or.inl ⟨by rfl,fun w' hSw=>?_⟩
           go_simp
          try simp only [Act.put,tA,tZ,tS]
          refine wpAnyH_done (by kernel_rfl) ?_ _
          go_wp2_with fail
          go_meet
          exact ⟨rfl,rfl,below_nx hBd hb8 (Nat.le_refl _)⟩
         ·skip
          go_simp
          have hb5:=below1 wd (.cells (enA (x)) 39)
          have hnw:=blk_new wd 39 (enA (x))
          obtain ⟨w5,hw5⟩:∃ w5,w5=wd.alloc (.cells (enA (x)) 39):=⟨_,rfl⟩
          rw [<- hw5] at hb5 hnw
          refine hKK.out _ _ (hS _ (by rw [<- show w5=_ from hw5];exact hb5)) (fun hHeld=>?_)
          clear hKK K
          try simp only [Act.put,tA,tZ,tS]
          rw [<- show w5=_ from hw5] at hHeld ⊢
          clear hw5
          refine wpAnyH_ready (rs:=[3]) (by kernel_rfl) (by simp) ?_
          refine AllReadyH.cons rfl (fun K hKK=>?_) AllReadyH.nil
          refine step_copyE (some 104) (.tmp 103) rfl rfl rfl rfl (hlr.below hb5) (by omega) ?_
          intro va w3' ho hb3
          refine hKK.out _ _ (hS _ (below_nx hb5 hb3 (Nat.le_refl _))) (fun hHeld=>?_)
          clear hKK K
          try simp only [Act.put,tA,tZ,tS]
          refine wpAnyH_ready (rs:=[6]) (by kernel_rfl) (by simp) ?_
          refine AllReadyH.cons rfl (fun K hKK=>?_) AllReadyH.nil
          refine step_moreE (some 107) (.tmp 104) (.tmp 106) rfl rfl rfl rfl rfl (ho) (hnw.on hb3) (hb3) (by omega) ?_
          intro vf w6 hrow hb6'
          have hb6:=below_nx (hb5) hb6' (Nat.le_refl _)
          obtain ⟨fa,fc,hvf⟩:=hrow.slice
          rw [hlen1] at hvf
          subst hvf
          refine hKK.out _ _ (hS _ hb6) (fun hHeld=>?_)
          clear hKK K
          try simp only [Act.put,tA,tZ,tS]
          refine wpAnyH_ready (rs:=[7]) (by kernel_rfl) (by simp) ?_
          refine AllReadyH.cons rfl (fun K hKK=>?_) AllReadyH.nil
          go_simp
          refine (hck _ hb6 fa fc hrow).mono ?_
          rintro e w7' ⟨rfl,hb7⟩
          have hb8:=below_nx hb6 hb7 (Nat.le_refl _)
          refine hKK.out _ _ (hS _ hb8) (fun hHeld=>?_)
          clear hKK K
          try simp only [Act.put,tA,tZ,tS]
          refine takeD (i:=8) (d:=some 100) (v:=.tuple #[.int .i64 (dd:Int),.int .i64 ee]) (by kernel_rfl) (by kernel_rfl) (by kernel_rfl) (by kernel_rfl) (fun _ _ _ h=>h) (fun oi h=>?_) hHeld ?_
          ·simp only [uA,uS,uZ,Option.some.injEq] at h
           subst h
           refine Or.inl ⟨by rfl,fun w' hSw=>?_⟩
           go_simp
          try simp only [Act.put,tA,tZ,tS]
          refine takeD (i:=9) (d:=some 109) (v:=.int .i64 (dd:Int)) (by kernel_rfl) (by kernel_rfl) (by kernel_rfl) (by kernel_rfl) (fun _ _ _ h=>h) (fun oi h=>?_) hHeld ?_
          ·simp only [uA,uS,uZ,Option.some.injEq] at h
           subst h
           refine Or.inl ⟨by rfl,fun w' hSw=>?_⟩
           go_simp
          try simp only [Act.put,tA,tZ,tS]
          refine takeD (i:=10) (d:=some 110) (v:=.int .i64 ee) (by kernel_rfl) (by kernel_rfl) (by kernel_rfl) (by kernel_rfl) (fun _ _ _ h=>h) (fun oi h=>?_) hHeld ?_
          ·simp only [uA,uS,uZ,Option.some.injEq] at h
           subst h
           refine Or.inl ⟨by rfl,fun w' hSw=>?_⟩
           go_simp
          try simp only [Act.put,tA,tZ,tS]
          refine takeD (i:=11) (d:=some 19) (v:=.int .i64 (dd:Int)) (by kernel_rfl) (by kernel_rfl) (by kernel_rfl) (by kernel_rfl) (fun _ _ _ h=>h) (fun oi h=>?_) hHeld ?_
          ·simp only [uA,uS,uZ,Option.some.injEq] at h
           subst h
           refine Or.inl ⟨by rfl,fun w' hSw=>?_⟩
           go_simp
          try simp only [Act.put,tA,tZ,tS]
          refine takeD (i:=12) (d:=some 20) (v:=.int .i64 ee) (by kernel_rfl) (by kernel_rfl) (by kernel_rfl) (by kernel_rfl) (fun _ _ _ h=>h) (fun oi h=>?_) hHeld ?_
          ·simp only [uA,uS,uZ,Option.some.injEq] at h
           subst h
           refine Or.inl ⟨by rfl,fun w' hSw=>?_⟩
           go_simp
          try simp only [Act.put,tA,tZ,tS]
          refine wpAnyH_done (by kernel_rfl) ?_ _
          go_wp2_with fail
          go_meet
          exact ⟨rfl,rfl,below_nx hBd hb8 (Nat.le_refl _)⟩
        case rest=>
         obtain ⟨rfl,rfl,hCc⟩:=hcut
         have hXc:=hX7.on hCc
         have x0:wc.cell? ⟨w.heap.size+1,0,none⟩=some (.int .i64 x.a):=hXc.cell rfl
         have x1:wc.cell? ⟨w.heap.size+1,1,none⟩=some (.int .u8 (x.k:Int)):=hXc.cell rfl
         have hBc:=below_nx hB7 hCc (Nat.le_refl _)
         have hfin:x.k<=11->(ee == 0)=(b && decide (ra<=x.a)):=fun hk=>by
          rw [HEE.out,HST.out,next_is HI.out HE.out HGO.out.2 x hk,HB.out,HL.out,HRA.out]
         clear hXc hck1 hckA hlenA HB HEE HST hC
         by_cases hk:11<x.k
         ·have d1:decide ((11:Int)<(x.k:Int))=true:=by simp;omega
          have d2:(11:Int)<(x.k:Int):=by omega
          clear hfin hk
          go_wp2_with fail
          refine (ralive_any _).mono ?_
          rintro e wz ⟨rfl,hbz⟩
          have hBz:=below_nx hBc hbz (Nat.le_refl _)
          go_wp2_with fail
          go_ret
          exact ⟨rfl,hBz⟩
         ·have d1:decide ((11:Int)<(x.k:Int))=false:=by simp;omega
          have d2 : ¬ (11:Int)<(x.k:Int):=by omega
          have hf:=hfin (by omega)
          clear hfin hk
          cases b with
          | false=>
           have e1:(ee == 0)=false:=by rw [hf];rfl
           clear hf
           go_wp2_with fail
           refine (ralive_any _).mono ?_
           rintro e wz ⟨rfl,hbz⟩
           have hBz:=below_nx hBc hbz (Nat.le_refl _)
           go_wp2_with fail
           go_ret
           exact ⟨rfl,hBz⟩
          | true=>
           rw [Bool.true_and] at hf
           by_cases hle:ra<=x.a
           ·have e2:decide (ra<=x.a)=true:=by simpa using hle
            have e1:(ee == 0)=true:=by rw [hf,e2]
            clear hf
            go_wp2_with fail
            refine (ralive_any _).mono ?_
            rintro e wz ⟨rfl,hbz⟩
            have hBz:=below_nx hBc hbz (Nat.le_refl _)
            go_wp2_with fail
            go_ret
            exact ⟨rfl,hBz⟩
           ·have e2:decide (ra<=x.a)=false:=by simpa using hle
            have e1:(ee == 0)=false:=by rw [hf,e2]
            clear hf
            go_wp2_with fail
            refine (ralive_any _).mono ?_
            rintro e wz ⟨rfl,hbz⟩
            have hBz:=below_nx hBc hbz (Nat.le_refl _)
            go_wp2_with fail
            go_ret
            exact ⟨rfl,hBz⟩
end Go.Proofs.YtnfbncgfpmcpnaaGreat.Mdl
