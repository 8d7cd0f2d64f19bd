/-
  ReplayNext: its walks, part 29.
-/
import Derived.Test.YtnfbncgfpmcpnaaGreatQ28
set_option maxRecDepth 100000
set_option maxHeartbeats 12800000
namespace Go.Proofs.YtnfbncgfpmcpnaaGreat.Mdl
open Go.RowKit
open Ent (En EnRow EnAt en_one)
open Mch (Wt Gt Chn grown_below below1 below_nx owns_slice' boxed_below)
theorem step_append_at {P:Program} {ops:Array Oper} {o:Oper} {a:Act} {w:World} {K:Act->World->Prop} {Q:Exit->Act->World->Prop} {E:Prop}
  (hg:o.guard=none) (s x:Operand) (t:TypeId) (ho:o.op=.call { callee:=.builtin .append,args:=#[s,x],argTypes:=#[t,t] })
  (base:Nat) (e:TypeId) (i:TypeInfo) (z:Value) (size bytes:Nat) (ht:P.underlying t=some (.slice e)) (hi:P.info? e=some i) (hz:i.zero=some z)
  (hsize:i.size=size) (hby:i.bytes=bytes) (hzs:z.cells.size=size) (hsz:0<size)
  (v:Value) (n:Nat) (xs:List Value) (hs:a.eval s=v) (hown:w.ownsRow base e size v n xs)
  (ad:Addr) (m c:Nat) (news:List Value) (hx:a.eval x=.slice (some ad) m c) (hl:news.length=m * size) (hnews:∀ j u,news[j]?=some u->w.cell? (ad.add j)=some u) (h1:∀ u ∈ news,u.oneCell'=true)
  (h63:n+m<=maxLen) (hbytes:(n+m) * bytes<=140737488355328) (hbase:base<=w.heap.size)
  (h:∀ v' w',w'.ownsRow base e size v' (n+m) (xs ++ news)->w.grownBy w' v.ownBlock->(v'.ownBlock=v.ownBlock \/ v'.ownBlock=some w.heap.size)->K (a.put o.dst v') w') :
  if Region.wanted o (yielded ops a.tmps)=true then Oper.wp P o a w K Q else E:=by
 have hw:Region.wanted o (yielded ops a.tmps)=true:=by simp [Region.wanted,hg]
 rw [if_pos hw]
 obtain ⟨v',w',hr,h2,h3,_,h5⟩:=run_append_own_at (P:=P) w base t o.type e i z size bytes ht hi hz hsize hby hzs hsz v n xs hown ad m c news hl hnews h1 h63 hbytes hbase
 unfold Oper.wp execOp
 simp only [ho,resolve,invoke,builtin,Sem.run_bind,Sem.run_pure,Result.andThen_ok,List.map_toArray,List.map_cons,List.map_nil,hs,hx,hr]
 exact h v' w' h2 h3 h5
theorem befalls_take {M:Mod} {t:Int} {k:Nat} {c:Cha} (hc:M.C[k]?=some c) :
  ((M.C.mapIdx (befallE M t)).take (k+1)).flatten=((M.C.mapIdx (befallE M t)).take k).flatten ++ befallE M t k c:=by
 rw [List.take_add_one,List.getElem?_mapIdx,hc]
 simp
theorem befallE_len {M:Mod} {t:Int} (k:Nat) (c:Cha):(befallE M t k c).length<=1:=by
 unfold befallE
 split
 ·split
  ·simp
  ·split <;> simp
 ·simp
theorem befalls_len {M:Mod} {t:Int} (k:Nat):(((M.C.mapIdx (befallE M t)).take k).flatten).length<=k:=by
 induction k with
 | zero=>simp
 | succ k ih=>
  cases h:M.C[k]? with
  | none=>
   rw [List.take_add_one,List.getElem?_mapIdx,h]
   simp only [Option.map_none,Option.toList_none,List.append_nil]
   omega
  | some c=>
   rw [befalls_take h,List.length_append]
   have:=befallE_len (M:=M) (t:=t) k c
   omega
theorem befalls_any {o:Nat->Nat} {B:Nat} {M:Mod} (t:Int) (w:World) (h:Md w o B M) (hl:∀ i,(M.ch i).S.length<=900/\(M.ch i).R.length<=900) (hC6:M.C.length<=6) :
    Calls Tryz.prog 41 #[ptrV B,.int .i64 t] w fun e w'=>∃ v,e=.returned v/\EnNew w.heap.size w' v (befalls M t)/\Below w.heap.size w w':=by
  obtain ⟨i0,hi,hz0,hz1,hz2⟩:=info_parts infoEnt
  obtain ⟨lo,hi',v1,v2,v3,vT,vC,Cs,h⟩:=h
  have p5:=h.cn
  obtain ⟨va,vcap,rfl⟩:=owns_slice' h.chans
  rw [h.len] at p5
  obtain ⟨DD,hDD⟩:∃ DD:Nat->List En,DD=fun k=>((M.C.mapIdx (befallE M t)).take k).flatten:=⟨_,rfl⟩
  have HD:=Lib.hid hDD
  clear hDD
  obtain ⟨n,hn⟩:∃ n,n=M.C.length:=⟨_,rfl⟩
  rw [<- hn] at p5 hC6
  have HN:=Lib.hid hn
  clear hn
  have hD0:DD 0 = []:=by rw [HD.out];simp
  have hDn:Hid (DD n=befalls M t):=Lib.hid (by rw [HD.out,HN.out];show ((M.C.mapIdx (befallE M t)).take M.C.length).flatten=_;rw [List.take_of_length_le (by simp)];rfl)
  go_enter Tryz.func41,Tryz.ntmps41
  go_wp2_with fail
  go_loopw [4,16] (fun lv iv wr=>∃ k:Nat,k<=n/\iv=.int .i64 (k:Int)/\Below w.heap.size w wr/\wr.ownsRow w.heap.size 39 13 lv (DD k).length (flatE (DD k))) (fun _ iv _=>n - (intOf iv).toNat)
  case atStart=>exact ⟨0,by omega,rfl,Below.refl _ _,by rw [hD0];exact World.ownsRow_nil _ _ _ _⟩
  case round=>
    obtain ⟨k,hk,rfl,hB,hR⟩:=hrel
    have hr:=h.below hB
    by_cases hlt:k<n
    · have hlt':(k:Int)<(n:Int):=by omega
      have q0:(0:Int)<=(k:Int):=by omega
      have q6:(k:Int)<6:=by omega
      have hwr:IntKind.i64.wrap ((k:Int)+1)=(k:Int)+1:=by rw [IntKind.wrap_i64];omega
      obtain ⟨C,g,cap,hC,hvC,hcell,hch⟩:=hr.chan (show k<M.C.length by rw [<- HN.out];exact hlt)
      obtain ⟨rfl,-, -⟩:=Value.slice.inj hvC
      have hlS:=(hl k).1
      have hlR:=(hl k).2
      obtain ⟨c,hcc⟩:∃ c,c=M.ch (k:Int):=⟨_,rfl⟩
      have hcs:M.C[k]?=some c:=by
        rw [hcc];unfold Mod.ch
        rw [Int.toNat_natCast,List.getElem?_eq_getElem (show k<M.C.length by rw [<- HN.out];exact hlt)];rfl
      rw [<- hcc] at hch hlS hlR
      have HS:Hid (DD (k+1)=DD k ++ befallE M t k c):=Lib.hid (by rw [HD.out];exact befalls_take hcs)
      obtain ⟨b',u0,u1,hA,-⟩:=hch.at
      have hcl:=Mch.closed_any wr hA
      have hFR:∀ W,Below w.heap.size w W->Below wr.heap.size wr W->Calls Tryz.prog 83 #[ptrV C,.bool false] W fun e w'=>e=.returned (.tuple #[(Mch.headW c.R).val,.bool c.R.head?.isSome])/\Below W.heap.size W w':=fun W _ hb=>by
        have hA':=hA.below hb
        exact Mch.first_any W (hA'.w false) (hA'.row false) (by omega)
      have hFS:∀ W,Below w.heap.size w W->Below wr.heap.size wr W->Calls Tryz.prog 83 #[ptrV C,.bool true] W fun e w'=>e=.returned (.tuple #[(Mch.headW c.S).val,.bool c.S.head?.isSome])/\Below W.heap.size W w':=fun W _ hb=>by
        have hA':=hA.below hb
        exact Mch.first_any W (hA'.w true) (hA'.row true) (by omega)
      obtain ⟨D,hD⟩:∃ D,D=DD k:=⟨_,rfl⟩
      have hDl:D.length<=6:=by rw [hD,HD.out];have:=befalls_len (M:=M) (t:=t) k;exact Nat.le_trans this (by omega)
      rw [<- hD] at hR HS
      clear hD hcs hcc hC hA hch hvC
      cases hcb:c.cl with
      | false=>
        rw [hcb] at hcl
        have hE0:befallE M t k c = []:=by unfold befallE;rw [hcb];rfl
        have HX:Hid (DD (k+1)=D):=Lib.hid (by rw [HS.out,hE0,List.append_nil])
        clear hE0 hFR hFS hcb
        go_wp2_with fail
        refine hcl.mono ?_
        rintro e wr ⟨rfl,rfl⟩
        go_wp2_with fail
        go_roundw
        case rel=>exact ⟨k+1,by omega,by go_num,hB,by rw [HX.out];exact hR⟩
        case measure=>simp [intOf];omega
      | true=>
        rw [hcb] at hcl
        obtain ⟨r,hr1⟩:∃ r,r=Mch.headW c.R:=⟨_,rfl⟩
        obtain ⟨s,hs1⟩:∃ s,s=Mch.headW c.S:=⟨_,rfl⟩
        obtain ⟨br,hbr⟩:∃ br,br=c.R.head?.isSome:=⟨_,rfl⟩
        obtain ⟨bs,hbs⟩:∃ bs,bs=c.S.head?.isSome:=⟨_,rfl⟩
        simp only [<- hr1, <- hbr] at hFR
        simp only [<- hs1, <- hbs] at hFS
        have HB:Hid (befallE M t k c=if br && (r.t == t) then [⟨0,6,0,t,M.K k,k,r.c,0,0,0,false,0,0⟩] else if !br && bs && (s.t == t) then [faultE t (M.K k) 140] else []):=Lib.hid (by
          unfold befallE;rw [hcb,if_pos rfl,hr1,hs1,hbr,hbs];rfl)
        clear hr1 hs1 hbr hbs hcb
        obtain ⟨rt,rc,rv⟩:=r
        obtain ⟨st,sc,sv⟩:=s
        simp only at HB
        unfold Wt.val at hFR hFS
        go_wp2_with fail
        refine hcl.mono ?_
        rintro e wr ⟨rfl,rfl⟩
        go_wp2_with fail
        refine (hFR _ hB (Below.refl _ _)).mono ?_
        rintro e w5 ⟨rfl,hb5⟩
        go_upto_region 6 with fail
        obtain ⟨w6,hw6⟩:∃ w6,w6=w5.alloc (.cells #[.int .i64 rt,.int .i64 rc,.int .i64 rv] 145):=⟨_,rfl⟩
        have hb6:Below wr.heap.size wr w6:=by rw [hw6];exact Mch.Below.al hb5 hb5.size _
        have hB6:=hB.trans (hb6.mono hB.size)
        have hA6:Blk w6 w5.heap.size 145 #[.int .i64 rt,.int .i64 rc,.int .i64 rv]:=by rw [hw6];exact blk_new w5 _ _
        rw [<- hw6]
        clear hw6
        go_wp2_with fail
        refine (hFS _ hB6 hb6).mono ?_
        rintro e w7 ⟨rfl,hb7⟩
        go_upto_region 7 with fail
        obtain ⟨w8,hw8⟩:∃ w8,w8=w7.alloc (.cells #[.int .i64 st,.int .i64 sc,.int .i64 sv] 145):=⟨_,rfl⟩
        have hb8:Below w6.heap.size w6 w8:=by rw [hw8];exact Mch.Below.al hb7 hb7.size _
        have hb68:=hb6.trans (hb8.mono hb6.size)
        have hB8:=hB.trans (hb68.mono hB.size)
        have hA8:=Blk.later hA6 hb8 hA6.lt
        have hS8:Blk w8 w7.heap.size 145 #[.int .i64 st,.int .i64 sc,.int .i64 sv]:=by rw [hw8];exact blk_new w7 _ _
        have hR8:=owns_fresh hR hb68
        rw [<- hw8]
        have kk:w8.cell? ⟨B,6+k,none⟩=some (.int .i64 (M.K k)):=(h.below hB8).kk (by omega)
        clear hw8 hcl hFR hFS hb5 hb6 hB6 hA6 hb7 hb8 hb68 hR hr hcell
        have r0:w8.cell? ⟨w5.heap.size,0,none⟩=some (.int .i64 rt):=hA8.cell rfl
        have r1:w8.cell? ⟨w5.heap.size,1,none⟩=some (.int .i64 rc):=hA8.cell rfl
        have s0:w8.cell? ⟨w7.heap.size,0,none⟩=some (.int .i64 st):=hS8.cell rfl
        obtain ⟨la,lc,rfl⟩:=owns_slice' hR8
        obtain ⟨K,hK⟩:∃ K,K=M.K k:=⟨_,rfl⟩
        rw [<- hK] at HB kk
        clear hK
        cases br with
        | true=>
          cases hrt:(rt == t) with
          | true=>
            rw [hrt] at HB
            obtain ⟨E,hE⟩:∃ E:En,E=⟨0,6,0,t,K,k,rc,0,0,0,false,0,0⟩:=⟨_,rfl⟩
            have hE1:befallE M t k c = [E]:=by rw [HB.out,hE];simp
            have HX:Hid (DD (k+1)=D ++ [E]):=Lib.hid (by rw [HS.out,hE1])
            have HEE:=Lib.hid hE
            clear hE1 HB hE s0
            have hR7:(w8.alloc (.cells #[.int .i64 0,.int .u8 6,.int .i64 0,.int .i64 t,.int .i64 K,.int .i64 (k:Int),.int .i64 rc,.int .i64 0,.int .i64 0,.int .i64 0,.bool false,.int .i64 0,.int .u64 0] 39)).drew.ownsRow w.heap.size 39 13 (.slice la D.length lc) D.length (flatE D):=(hR8.alloc _).drew
            have hB10:Below w.heap.size w (w8.alloc (.cells #[.int .i64 0,.int .u8 6,.int .i64 0,.int .i64 t,.int .i64 K,.int .i64 (k:Int),.int .i64 rc,.int .i64 0,.int .i64 0,.int .i64 0,.bool false,.int .i64 0,.int .u64 0] 39)).drew:=(Mch.Below.al hB8 hB8.size _).drew
            have hone:∀ u ∈ ([.int .i64 0,.int .u8 6,.int .i64 0,.int .i64 t,.int .i64 K,.int .i64 (k:Int),.int .i64 rc,.int .i64 0,.int .i64 0,.int .i64 0,.bool false,.int .i64 0,.int .u64 0]:List Value),u.oneCell'=true:=by
              have:=en_one [(⟨0,6,0,t,K,k,rc,0,0,0,false,0,0⟩:En)]
              simpa [Ent.En.cellsL] using this
            have hcl:∀ (j:Nat) (u:Value),([.int .i64 0,.int .u8 6,.int .i64 0,.int .i64 t,.int .i64 K,.int .i64 (k:Int),.int .i64 rc,.int .i64 0,.int .i64 0,.int .i64 0,.bool false,.int .i64 0,.int .u64 0]:List Value)[j]?=some u->(w8.alloc (.cells #[.int .i64 0,.int .u8 6,.int .i64 0,.int .i64 t,.int .i64 K,.int .i64 (k:Int),.int .i64 rc,.int .i64 0,.int .i64 0,.int .i64 0,.bool false,.int .i64 0,.int .u64 0] 39)).drew.cell? (Addr.add ⟨w8.heap.size,0,none⟩ j)=some u:=fun j u hj=>by
              rw [add0]
              exact Blk.cell (show Blk (w8.alloc (.cells #[.int .i64 0,.int .u8 6,.int .i64 0,.int .i64 t,.int .i64 K,.int .i64 (k:Int),.int .i64 rc,.int .i64 0,.int .i64 0,.int .i64 0,.bool false,.int .i64 0,.int .u64 0] 39)).drew w8.heap.size 39 #[.int .i64 0,.int .u8 6,.int .i64 0,.int .i64 t,.int .i64 K,.int .i64 (k:Int),.int .i64 rc,.int .i64 0,.int .i64 0,.int .i64 0,.bool false,.int .i64 0,.int .u64 0] from blk_new w8 _ _) (by simpa using hj)
            have hbs:w.heap.size<=(w8.alloc (.cells #[.int .i64 0,.int .u8 6,.int .i64 0,.int .i64 t,.int .i64 K,.int .i64 (k:Int),.int .i64 rc,.int .i64 0,.int .i64 0,.int .i64 0,.bool false,.int .i64 0,.int .u64 0] 39)).drew.heap.size:=hB10.size
            have kd:w8.drew.cell? ⟨B,6+k,none⟩=some (.int .i64 K):=kk
            have rd:w8.drew.cell? ⟨w5.heap.size,1,none⟩=some (.int .i64 rc):=r1
            skip
            go_upto_region 8 with fail
            go_region_law (first
              | (refine step_append_at rfl (.tmp 42) (.tmp 54) 51 rfl w.heap.size 39 i0 (.agg #[.int .i64 0,.int .u8 0,.int .i64 0,.int .i64 0,.int .i64 0,.int .i64 0,.int .i64 0,.int .i64 0,.int .i64 0,.int .i64 0,.bool false,.int .i64 0,.int .u64 0]) 13 104 Tryz.underlying51 hi hz0 hz1 hz2 rfl (by decide) (.slice la D.length lc) D.length (flatE D) rfl hR7 ⟨w8.heap.size,0,none⟩ 1 1 ([.int .i64 0,.int .u8 6,.int .i64 0,.int .i64 t,.int .i64 K,.int .i64 (k:Int),.int .i64 rc,.int .i64 0,.int .i64 0,.int .i64 0,.bool false,.int .i64 0,.int .u64 0]:List Value) rfl rfl hcl hone (by unfold maxLen;omega) (by omega) hbs ?_
                 intro v11 w11 hown hgrow _
                 obtain ⟨g1,cap1,rfl⟩:=ownsRow_succ hown))
            all_goals have hb11:=hB10.grown hgrow hbs (fun g e=>by have:=(hR7.lt g e).1;omega)
            all_goals have hown':w11.ownsRow w.heap.size 39 13 (.slice (some ⟨g1,0,none⟩) (D.length+1) cap1) (D.length+1) (flatE D ++ ([.int .i64 0,.int .u8 6,.int .i64 0,.int .i64 t,.int .i64 K,.int .i64 (k:Int),.int .i64 rc,.int .i64 0,.int .i64 0,.int .i64 0,.bool false,.int .i64 0,.int .u64 0]:List Value)):=hown
            all_goals clear hown hgrow hcl hR7 hB10 hR8 kd rd
            all_goals go_wp2_with fail
            all_goals go_roundw
            all_goals first
              | exact ⟨k+1,by omega,by go_num,hb11,by rw [HX.out,flatE_snoc,List.length_append,HEE.out];exact hown'⟩
              | (simp [intOf];omega)
          | false=>
            rw [hrt] at HB
            have hE0:befallE M t k c = []:=by rw [HB.out];simp
            have HX:Hid (DD (k+1)=D):=Lib.hid (by rw [HS.out,hE0,List.append_nil])
            clear hE0
            go_wp2_with fail
            go_roundw
            case rel=>exact ⟨k+1,by omega,by go_num,hB8,by rw [HX.out];exact hR8⟩
            case measure=>simp [intOf];omega
        | false=>
          cases bs with
          | false=>
            have hE0:befallE M t k c = []:=by rw [HB.out];simp
            have HX:Hid (DD (k+1)=D):=Lib.hid (by rw [HS.out,hE0,List.append_nil])
            clear hE0
            go_wp2_with fail
            go_roundw
            case rel=>exact ⟨k+1,by omega,by go_num,hB8,by rw [HX.out];exact hR8⟩
            case measure=>simp [intOf];omega
          | true=>
            cases hst:(st == t) with
            | false=>
              rw [hst] at HB
              have hE0:befallE M t k c = []:=by rw [HB.out];simp
              have HX:Hid (DD (k+1)=D):=Lib.hid (by rw [HS.out,hE0,List.append_nil])
              clear hE0
              go_wp2_with fail
              go_roundw
              case rel=>exact ⟨k+1,by omega,by go_num,hB8,by rw [HX.out];exact hR8⟩
              case measure=>simp [intOf];omega
            | true=>
              rw [hst] at HB
              have hE1:befallE M t k c = [faultE t K 140]:=by rw [HB.out];simp
              have HX:Hid (DD (k+1)=D ++ [faultE t K 140]):=Lib.hid (by rw [HS.out,hE1])
              clear hE1 HB
              have hf:=fun W=>fault_any t K 140 W
              go_wp2_with fail
              refine (hf _).mono ?_
              clear kk r0 r1 s0 hA8 hS8
              rintro e w9 ⟨rfl,hb9⟩
              have hB9:=hB8.trans (hb9.mono hB8.size)
              have hR7:=(owns_fresh hR8 hb9).alloc (.cells (enA (faultE t K 140)) 39)
              have hB10:=Mch.Below.al hB9 hB9.size (.cells (enA (faultE t K 140)) 39)
              have hcl:=en_cells (x:=faultE t K 140) (blk_new w9 39 _)
              have hone:∀ u ∈ (faultE t K 140).cellsL,u.oneCell'=true:=by simpa using en_one [faultE t K 140]
              have hbs:=hB9.size
              go_wp2_with (at_builtin;refine wpList_append_own _ rfl _ _ 51 rfl w.heap.size 39 i0 (.agg #[.int .i64 0,.int .u8 0,.int .i64 0,.int .i64 0,.int .i64 0,.int .i64 0,.int .i64 0,.int .i64 0,.int .i64 0,.int .i64 0,.bool false,.int .i64 0,.int .u64 0]) 13 104 Tryz.underlying51 hi hz0 hz1 hz2 rfl (by decide) _ D.length (flatE D) rfl hR7 ⟨w9.heap.size,0,none⟩ 1 1 (faultE t K 140).cellsL rfl ?c0 ?c1 ?c2 ?c3 ?c4 ?c5 ?_)
              case c0=>rfl
              case c1=>exact hcl
              case c2=>exact hone
              case c3=>unfold maxLen;omega
              case c4=>omega
              try (case c5=>first | omega | (simp;omega))
              intro v11 w11 hown hgrow _
              have hb11:=hB10.grown hgrow (Nat.le_trans hbs (by simp)) (fun g e=>by have:=(hR7.lt g e).1;omega)
              have hown':w11.ownsRow w.heap.size 39 13 v11 (DD (k+1)).length (flatE (DD (k+1))):=by
                rw [HX.out,flatE_snoc,List.length_append]
                exact hown
              clear hown hgrow hcl hR7 hB10
              go_wp2_with fail
              go_roundw
              case rel=>exact ⟨k+1,by omega,by go_num,hb11,hown'⟩
              case measure=>simp [intOf];omega
    · have hlt' : ¬ (k:Int)<(n:Int):=by omega
      obtain rfl:k=n:=by omega
      obtain ⟨la,lc,rfl⟩:=owns_slice' hR
      rw [hDn.out] at hR
      have hEn:=EnNew.of_owns hR
      have HL:Hid ((DD k).length=(befalls M t).length):=Lib.hid (by rw [hDn.out])
      clear hr hR
      go_wp2_with fail
      go_ret
      rw [HL.out]
      exact ⟨_,rfl,hEn,hB⟩
open Go.RowKit
open Mch (grown_below below1 below_nx owns_slice' boxed_below)
theorem standAt_no {o:Nat->Nat} {B:Nat} {M:Mod} (t:Int) (w:World) (h:Md w o B M) (hl:M.T.length<=1000) (hm:checkW M.p=none) (hs:Small M.p) (hn:(M.stand t).2 ≠ 0) :
  Calls Tryz.prog 42 #[ptrV B,.int .i64 t] w fun e w'=>e=.returned (.tuple #[zstV,.bool false])/\Below w.heap.size w w':=by
 obtain ⟨w1,hw1⟩:∃ w1,w1=w.alloc (.cells #[.pointer none,.int .i64 0,.int .i64 0,.int .i64 0,.int .i64 0,.int .i64 0,.int .i64 0,.int .i64 0,.int .i64 0,.int .i64 0,.int .i64 0,.int .i64 0,.int .u8 0,.int .i64 0,.int .i64 0,.int .i64 0,.int .i64 0] 107):=⟨_,rfl⟩
 have hB1:Below w.heap.size w w1:=by rw [hw1];exact below1 w _
 have hZ1:Blk w1 w.heap.size 107 #[.pointer none,.int .i64 0,.int .i64 0,.int .i64 0,.int .i64 0,.int .i64 0,.int .i64 0,.int .i64 0,.int .i64 0,.int .i64 0,.int .i64 0,.int .i64 0,.int .u8 0,.int .i64 0,.int .i64 0,.int .i64 0,.int .i64 0]:=by rw [hw1];exact blk_new w _ _
 have hst:=stand_any t w1 (h.below hB1) hl hm hs
 obtain ⟨g,hg⟩:∃ g,g=(M.stand t).1:=⟨_,rfl⟩
 obtain ⟨k,hk⟩:∃ k,k=(M.stand t).2:=⟨_,rfl⟩
 rw [<- hk] at hn
 rw [<- hg, <- hk] at hst
 have hb:(k != 0)=true:=by simpa using hn
 clear hg hk h hn
 go_enter Tryz.func42,Tryz.ntmps42
 go_wp2_with fail
 rw [<- hw1]
 clear hw1
 refine hst.mono ?_
 rintro e w2 ⟨rfl,hb2⟩
 obtain ⟨w3,hw3⟩:∃ w3,w3=w2.alloc (.cells (fraA g) 61):=⟨_,rfl⟩
 have hb3:Below w1.heap.size w1 w3:=by rw [hw3];exact Mch.Below.al hb2 hb2.size _
 have hZ3:=hZ1.later hb3 hZ1.lt
 have hB3:=below_nx hB1 hb3 (Nat.le_refl _)
 obtain ⟨z0,z1,z2,z3,z4,z5,z6,z7,z8,z9,z10,z11,z12,z13,z14,z15,z16⟩:=zst_cells hZ3
 have zf:=hZ3.frozen
 have hB4:=fun {w5:World} (E2:But [w.heap.size] w3 w5)=>hB3.trans (E2.below hB3.size (by simp))
 have hZ4:=hZ3
 rw [hw3] at hZ4
 have HW:=Lib.hid hw3
 clear hst hb2 hw3 hb3 hZ1 hZ3 z0 z1 z2 z3 z4 z5 z6 z7 z8 z9 z10 z11 z12 z13 z14 z15 z16 zf
 go_wp2_with (refine wpList_put rfl _ _ _ rfl w.heap.size #[.pointer none,.int .i64 0,.int .i64 0,.int .i64 0,.int .i64 0,.int .i64 0,.int .i64 0,.int .i64 0,.int .i64 0,.int .i64 0,.int .i64 0,.int .i64 0,.int .u8 0,.int .i64 0,.int .i64 0,.int .i64 0,.int .i64 0] rfl rfl hZ4 szStd rfl (by simp [Value.oneCell']) ?_;intro w5 E1 E2;go_frame)
 rw [<- HW.out] at E2
 refine bodyPost_ret (v:=.tuple #[zstV,.bool false]) (results_cell_row2 rfl _ _ w.heap.size 107 _ _ _ rfl rfl E1 Tryz.underlying107 rfl szStd) rfl ?_
 exact ⟨rfl,hB4 E2⟩
open Go.RowKit
open Mch (grown_below below1 below_nx owns_slice' boxed_below)
theorem below_five {n B:Nat} {w W:World} (h:Below n w W) (hB:n<=B) (a b c d e:Value):Below n w (((((W.setCell ⟨B,0,none⟩ a).setCell ⟨B,1,none⟩ b).setCell ⟨B,2,none⟩ c).setCell ⟨B,3,none⟩ d).setCell ⟨B,4,none⟩ e):=
 ((((h.setCell (p:=⟨B,0,none⟩) hB a).setCell (p:=⟨B,1,none⟩) hB b).setCell (p:=⟨B,2,none⟩) hB c).setCell (p:=⟨B,3,none⟩) hB d).setCell (p:=⟨B,4,none⟩) hB e
theorem standAt_ok {o:Nat->Nat} {B:Nat} {M:Mod} (t:Int) (w:World) (h:Md w o B M) (hl:M.T.length<=1000) (hm:checkW M.p=none) (hs:Small M.p) {f:Fra} {x:In} (hst0:M.stand t=(f,0)) (hx:atF M.p f=some x) :
  Calls Tryz.prog 42 #[ptrV B,.int .i64 t] w fun e w'=>e=.returned (.tuple #[stdV B t f x,.bool true])/\Below w.heap.size w w':=by
 obtain ⟨w1,hw1⟩:∃ w1,w1=w.alloc (.cells #[.pointer none,.int .i64 0,.int .i64 0,.int .i64 0,.int .i64 0,.int .i64 0,.int .i64 0,.int .i64 0,.int .i64 0,.int .i64 0,.int .i64 0,.int .i64 0,.int .u8 0,.int .i64 0,.int .i64 0,.int .i64 0,.int .i64 0] 107):=⟨_,rfl⟩
 have hB1:Below w.heap.size w w1:=by rw [hw1];exact below1 w _
 have hZ1:Blk w1 w.heap.size 107 #[.pointer none,.int .i64 0,.int .i64 0,.int .i64 0,.int .i64 0,.int .i64 0,.int .i64 0,.int .i64 0,.int .i64 0,.int .i64 0,.int .i64 0,.int .i64 0,.int .u8 0,.int .i64 0,.int .i64 0,.int .i64 0,.int .i64 0]:=by rw [hw1];exact blk_new w _ _
 have hst:=stand_any t w1 (h.below hB1) hl hm hs
 rw [hst0] at hst
 simp only at hst
 clear hst0
 go_enter Tryz.func42,Tryz.ntmps42
 go_wp2_with fail
 rw [<- hw1]
 clear hw1
 refine hst.mono ?_
 rintro e w2 ⟨rfl,hb2⟩
 obtain ⟨w3,hw3⟩:∃ w3,w3=w2.alloc (.cells (fraA f) 61):=⟨_,rfl⟩
 have hb3:Below w1.heap.size w1 w3:=by rw [hw3];exact Mch.Below.al hb2 hb2.size _
 have hF3:FrAt w3 w2.heap.size f:=by rw [hw3];exact blk_new w2 _ _
 have hZ3:=hZ1.later hb3 hZ1.lt
 have hB3:=below_nx hB1 hb3 (Nat.le_refl _)
 have hM3:=h.below hB3
 have HW:=Lib.hid hw3
 clear hst hb2 hw3 hZ1 h
 go_wp2_with fail
 rw [<- HW.out]
 clear HW
 go_cut [8,9] from 19 to 27 (fun xv bv W=>∃ X,xv=.pointer (some ⟨X,0,none⟩)/\bv=.bool true/\Blk W X 95 #[.int .u8 (x.o:Int),.int .i64 x.a,.int .i64 x.b,.int .i64 x.c,.int .i64 x.k]/\Below w3.heap.size w3 W)
 case first=>
  obtain ⟨lo,hi,v1,v2,v3,vT,vC,Cs,hM⟩:=hM3
  have m0:=hM.p1
  have m1:=hM.p2
  have m2:=hM.p3
  obtain ⟨f0,f1,f2,f3,f4,f5,f6,f7,f8,f9⟩:=fra_cells hF3
  have hat:∀ W,Below w3.heap.size w3 W->Calls Tryz.prog 85 #[.agg #[v1,v2,v3],fraV f] W fun e w'=>e=.returned (.tuple #[.agg #[.int .u8 (x.o:Int),.int .i64 x.a,.int .i64 x.b,.int .i64 x.c,.int .i64 x.k],.bool true])/\Below w3.heap.size w3 w'/\Below W.heap.size W w':=fun W hb=>(fat_any W (hM.below hb).prog hs f).mono (fun e w' hp=>by
   rw [hx] at hp
   exact ⟨hp.1,hb.trans (hp.2.mono hb.size),hp.2⟩)
  have d0:w3.drew.cell? ⟨B,0,none⟩=_:=m0
  have d1:w3.drew.cell? ⟨B,1,none⟩=_:=m1
  have d2:w3.drew.cell? ⟨B,2,none⟩=_:=m2
  have hS:∀ W,Below w3.heap.size w3 W->W.cell? ⟨B,0,none⟩=some v1/\W.cell? ⟨B,1,none⟩=some v2/\W.cell? ⟨B,2,none⟩=some v3/\W.cell? ⟨w2.heap.size,0,none⟩=some (.int .i64 f.c)/\W.cell? ⟨w2.heap.size,1,none⟩=some (.int .i64 f.p)/\W.cell? ⟨w2.heap.size,2,none⟩=some (.int .i64 f.r0)/\W.cell? ⟨w2.heap.size,3,none⟩=some (.int .i64 f.r1)/\W.cell? ⟨w2.heap.size,4,none⟩=some (.int .i64 f.r2)/\W.cell? ⟨w2.heap.size,5,none⟩=some (.int .i64 f.r3)/\W.cell? ⟨w2.heap.size,6,none⟩=some (.int .i64 f.r4)/\W.cell? ⟨w2.heap.size,7,none⟩=some (.int .i64 f.r5)/\W.cell? ⟨w2.heap.size,8,none⟩=some (.int .i64 f.r6)/\W.cell? ⟨w2.heap.size,9,none⟩=some (.int .i64 f.r7):=fun W hb=>by
   have h1:=hM.below hb
   obtain ⟨g0,g1,g2,g3,g4,g5,g6,g7,g8,g9⟩:=fra_cells (hF3.later hb hF3.lt)
   exact ⟨h1.p1,h1.p2,h1.p3,g0,g1,g2,g3,g4,g5,g6,g7,g8,g9⟩
  have r0:Below w3.heap.size w3 w3.drew:=(Below.refl _ _).drew
  have r1:∀ ob,Below w3.heap.size w3 (w3.alloc ob).drew:=fun ob=>(below1 w3 ob).drew
  have hI0:Blk (w3.alloc (.cells #[.int .u8 0,.int .i64 0,.int .i64 0,.int .i64 0,.int .i64 0] 95)).drew w3.heap.size 95 #[.int .u8 0,.int .i64 0,.int .i64 0,.int .i64 0,.int .i64 0]:=blk_new w3 _ _
  clear hM m0 m1 m2 d0 d1 d2 f0 f1 f2 f3 f4 f5 f6 f7 f8 f9
  go_region_held3 (fun w'=>w'.cell? ⟨B,0,none⟩=some v1/\w'.cell? ⟨B,1,none⟩=some v2/\w'.cell? ⟨B,2,none⟩=some v3/\w'.cell? ⟨w2.heap.size,0,none⟩=some (.int .i64 f.c)/\w'.cell? ⟨w2.heap.size,1,none⟩=some (.int .i64 f.p)/\w'.cell? ⟨w2.heap.size,2,none⟩=some (.int .i64 f.r0)/\w'.cell? ⟨w2.heap.size,3,none⟩=some (.int .i64 f.r1)/\w'.cell? ⟨w2.heap.size,4,none⟩=some (.int .i64 f.r2)/\w'.cell? ⟨w2.heap.size,5,none⟩=some (.int .i64 f.r3)/\w'.cell? ⟨w2.heap.size,6,none⟩=some (.int .i64 f.r4)/\w'.cell? ⟨w2.heap.size,7,none⟩=some (.int .i64 f.r5)/\w'.cell? ⟨w2.heap.size,8,none⟩=some (.int .i64 f.r6)/\w'.cell? ⟨w2.heap.size,9,none⟩=some (.int .i64 f.r7))
   ((refine hS _ ?_;with_reducible first | exact r0 | exact r1 _ | exact hb4 | exact Mch.Below.al hb4 hb4.size _ | exact (Mch.Below.al hb4 hb4.size _).drew | exact below_five hb4 (Nat.le_refl _) _ _ _ _ _))
   ((first
    | (go_at_call 85;with_reducible refine (hat w3.drew r0).mono ?_;rintro e w4 ⟨rfl,hb4,hn4⟩)
    | (go_at_call 85;with_reducible refine (hat (w3.alloc _).drew (r1 _)).mono ?_;rintro e w4 ⟨rfl,hb4,hn4⟩;have X4:Blk w4 w3.heap.size 95 #[.int .u8 0,.int .i64 0,.int .i64 0,.int .i64 0,.int .i64 0]:=hI0.later hn4 hI0.lt;obtain ⟨z0,z1,z2,z3,z4⟩:=ins_cells (x:=In.zero) X4;have zf:=X4.frozen)))
  all_goals go_wp2_with fail
  all_goals go_meet
  all_goals first
   | exact ⟨_,rfl,rfl,(sto5 X4 (.int .u8 (x.o:Int)) (.int .i64 x.a) (.int .i64 x.b) (.int .i64 x.c) (.int .i64 x.k)).1,below_five hb4 (Nat.le_refl _) _ _ _ _ _⟩
   | exact ⟨_,rfl,rfl,blk_new w4 _ _,Mch.Below.al hb4 hb4.size _⟩
 case rest=>
  obtain ⟨X,rfl,rfl,hX,hb⟩:=hcut
  obtain ⟨f0,f1,f2,f3,f4,f5,f6,f7,f8,f9⟩:=fra_cells (hF3.later hb hF3.lt)
  obtain ⟨i0,i1,i2,i3,i4⟩:=ins_cells (x:=x) hX
  have hZ:=hZ3.later hb (Nat.lt_of_lt_of_le hZ3.lt (Nat.le_refl _))
  obtain ⟨z0,z1,z2,z3,z4,z5,z6,z7,z8,z9,z10,z11,z12,z13,z14,z15,z16⟩:=zst_cells hZ
  have zf:=hZ.frozen
  have hBc:=below_nx hB3 hb (Nat.le_refl _)
  have hB4:=fun {w5:World} (E2:But [w.heap.size] wc w5)=>hBc.trans (E2.below hBc.size (by simp))
  clear hX hZ3 hF3 hM3 hb z0 z1 z2 z3 z4 z5 z6 z7 z8 z9 z10 z11 z12 z13 z14 z15 z16 zf
  go_wp2_with (refine wpList_put rfl _ _ _ rfl w.heap.size (stdA B t f x) rfl rfl hZ szStd rfl (by simp [Value.oneCell']) ?_;intro w5 E1 E2;go_frame)
  refine bodyPost_ret (v:=.tuple #[stdV B t f x,.bool true]) (results_cell_row2 rfl _ _ w.heap.size 107 _ _ _ rfl rfl E1 Tryz.underlying107 rfl szStd) rfl ?_
  exact ⟨rfl,hB4 E2⟩
open Go.RowKit
open Ent (En EnRow EnAt en_one)
open Mch (grown_below below1 below_nx owns_slice' boxed_below)
structure Sane (M:Mod):Prop where
 chk:checkW M.p=none
 small:Small M.p
 tl:M.T.length<=1000
 cl:M.C.length<=6
 wl:∀ i,(M.ch i).S.length<=900/\(M.ch i).R.length<=900
 st:∀ t,(M.stand t).2=0->Stands M (M.stand t).1 (M.does t)
theorem moves_none {o:Nat->Nat} {B:Nat} {M:Mod} (t:Int) (w:World) (h:Md w o B M) (hS:Sane M) (hy:M.task t=none) :
  Calls Tryz.prog 15 #[ptrV B,.int .i64 t] w fun e w'=>∃ v,e=.returned v/\EnNew w.heap.size w' v (M.moves t)/\Below w.heap.size w w':=by
 have htk:=task_any t w h hS.tl
 have HM:Hid (M.moves t = []):=Lib.hid (by unfold Mod.moves;rw [hy])
 rw [hy] at htk
 clear hy hS
 obtain ⟨P,hP⟩:∃ P,P=Option.getD (none:Option Pla) Pla.zero:=⟨_,rfl⟩
 rw [<- hP] at htk
 have htk':Calls Tryz.prog 20 #[ptrV B,.int .i64 t] w fun e w'=>e=.returned (.tuple #[plaV P,.bool false])/\Below w.heap.size w w':=htk
 clear htk hP
 go_enter Tryz.func15,Tryz.ntmps15
 go_wp2_with fail
 refine htk'.mono ?_
 rintro e w1 ⟨rfl,hb1⟩
 have hB2:=Mch.Below.al hb1 hb1.size (.cells (plaA P) 63)
 go_wp2_with fail
 go_ret
 rw [HM.out]
 exact ⟨_,rfl,EnNew.nil _ _,hB2⟩
theorem moves_halted {o:Nat->Nat} {B:Nat} {M:Mod} (t:Int) (w:World) (h:Md w o B M) (hS:Sane M) {y:Pla} (hy:M.task t=some y) (he : ¬ M.e=0) :
  Calls Tryz.prog 15 #[ptrV B,.int .i64 t] w fun e w'=>∃ v,e=.returned v/\EnNew w.heap.size w' v (M.moves t)/\Below w.heap.size w w':=by
 have htk:=task_any t w h hS.tl
 rw [hy] at htk
 have htk':Calls Tryz.prog 20 #[ptrV B,.int .i64 t] w fun e w'=>e=.returned (.tuple #[plaV y,.bool true])/\Below w.heap.size w w':=htk
 clear htk
 have hhl:=fun W (hW:Below w.heap.size w W)=>halted_any W (h.below hW)
 have HM:Hid (M.moves t = []):=Lib.hid (by unfold Mod.moves;rw [hy];simp only;rw [if_pos he])
 have hne:(M.e != 0)=true:=by simpa using he
 rw [hne] at hhl
 clear hy hS he hne
 go_enter Tryz.func15,Tryz.ntmps15
 go_wp2_with fail
 refine htk'.mono ?_
 rintro e w1 ⟨rfl,hb1⟩
 have hB2:=Mch.Below.al hb1 hb1.size (.cells (plaA y) 63)
 have hh2:=hhl _ hB2
 go_wp2_with fail
 refine hh2.mono ?_
 rintro e w2 ⟨rfl,rfl⟩
 go_wp2_with fail
 go_ret
 rw [HM.out]
 exact ⟨_,rfl,EnNew.nil _ _,hB2⟩
theorem moves_waits {o:Nat->Nat} {B:Nat} {M:Mod} (t:Int) (w:World) (h:Md w o B M) (hS:Sane M) {y:Pla} (hy:M.task t=some y) (he:M.e=0) (h2:y.s=2) :
  Calls Tryz.prog 15 #[ptrV B,.int .i64 t] w fun e w'=>∃ v,e=.returned v/\EnNew w.heap.size w' v (M.moves t)/\Below w.heap.size w w':=by
 have htk:=task_any t w h hS.tl
 rw [hy] at htk
 have htk':Calls Tryz.prog 20 #[ptrV B,.int .i64 t] w fun e w'=>e=.returned (.tuple #[plaV y,.bool true])/\Below w.heap.size w w':=htk
 clear htk
 have hhl:=fun W (hW:Below w.heap.size w W)=>halted_any W (h.below hW)
 have hne:(M.e != 0)=false:=by simp [he]
 rw [hne] at hhl
 have HM:Hid (M.moves t=befalls M t):=Lib.hid (by unfold Mod.moves;rw [hy];simp only;rw [if_neg (by simp [he]),if_pos h2])
 have hbf:=fun W (hW:Below w.heap.size w W)=>befalls_any t W (h.below hW) hS.wl hS.cl
 obtain ⟨L,hL⟩:∃ L,L=befalls M t:=⟨_,rfl⟩
 rw [<- hL] at HM
 simp only [<- hL] at hbf
 obtain ⟨ys,yf⟩:=y
 simp only at h2
 subst h2
 clear hL hy hS he hne
 go_enter Tryz.func15,Tryz.ntmps15
 go_wp2_with fail
 refine htk'.mono ?_
 rintro e w1 ⟨rfl,hb1⟩
 have hB2:=Mch.Below.al hb1 hb1.size (.cells (plaA ⟨2,yf⟩) 63)
 have hh2:=hhl _ hB2
 have hb2:=hbf _ hB2
 go_wp2_with fail
 refine hh2.mono ?_
 rintro e w2 ⟨rfl,rfl⟩
 go_wp2_with fail
 refine hb2.mono ?_
 rintro e w3 ⟨v,rfl,hR,hb3⟩
 obtain ⟨a,c,rfl⟩:=hR.slice
 go_wp2_with fail
 go_ret
 rw [HM.out]
 exact ⟨_,rfl,hR.mono hB2.size,below_nx hB2 hb3 (Nat.le_refl _)⟩
theorem moves_stays {o:Nat->Nat} {B:Nat} {M:Mod} (t:Int) (w:World) (h:Md w o B M) (hS:Sane M) {y:Pla} (hy:M.task t=some y) (he:M.e=0) (h2 : ¬ y.s=2) (hst : ¬ (M.stand t).2=0) :
  Calls Tryz.prog 15 #[ptrV B,.int .i64 t] w fun e w'=>∃ v,e=.returned v/\EnNew w.heap.size w' v (M.moves t)/\Below w.heap.size w w':=by
 have htk:=task_any t w h hS.tl
 rw [hy] at htk
 have htk':Calls Tryz.prog 20 #[ptrV B,.int .i64 t] w fun e w'=>e=.returned (.tuple #[plaV y,.bool true])/\Below w.heap.size w w':=htk
 clear htk
 have hhl:=fun W (hW:Below w.heap.size w W)=>halted_any W (h.below hW)
 have hne:(M.e != 0)=false:=by simp [he]
 rw [hne] at hhl
 have hn2:((y.s:Int) == 2)=false:=by simp;omega
 have HM:Hid (M.moves t = []):=Lib.hid (by unfold Mod.moves;rw [hy];simp only;rw [if_neg (by simp [he]),if_neg h2,if_pos hst])
 have hsa:=fun W (hW:Below w.heap.size w W)=>standAt_no t W (h.below hW) hS.tl hS.chk hS.small hst
 clear hst hy hS he hne h2
 go_enter Tryz.func15,Tryz.ntmps15
 go_wp2_with fail
 refine htk'.mono ?_
 rintro e w1 ⟨rfl,hb1⟩
 have hB2:=Mch.Below.al hb1 hb1.size (.cells (plaA y) 63)
 have hh2:=hhl _ hB2
 have hs2:=hsa _ hB2
 go_wp2_with fail
 refine hh2.mono ?_
 rintro e w2 ⟨rfl,rfl⟩
 go_wp2_with fail
 refine hs2.mono ?_
 rintro e w3 ⟨rfl,hb3⟩
 have hB3:=below_nx hB2 hb3 (Nat.le_refl _)
 go_wp2_with fail
 go_ret
 rw [HM.out]
 exact ⟨_,rfl,EnNew.nil _ _,Mch.Below.al hB3 hB3.size _⟩
theorem moves_runs {o:Nat->Nat} {B:Nat} {M:Mod} (t:Int) (w:World) (h:Md w o B M) (hS:Sane M) {y:Pla} (hy:M.task t=some y) (he:M.e=0) (h2 : ¬ y.s=2) (hst:(M.stand t).2=0) :
  Calls Tryz.prog 15 #[ptrV B,.int .i64 t] w fun e w'=>∃ v,e=.returned v/\EnNew w.heap.size w' v (M.moves t)/\Below w.heap.size w w':=by
 have htk:=task_any t w h hS.tl
 rw [hy] at htk
 have htk':Calls Tryz.prog 20 #[ptrV B,.int .i64 t] w fun e w'=>e=.returned (.tuple #[plaV y,.bool true])/\Below w.heap.size w w':=htk
 clear htk
 have hhl:=fun W (hW:Below w.heap.size w W)=>halted_any W (h.below hW)
 have hne:(M.e != 0)=false:=by simp [he]
 rw [hne] at hhl
 have hn2:((y.s:Int) == 2)=false:=by simp;omega
 obtain ⟨x,hx,hdo,-⟩:=stand_at hS.chk hst
 have hSt:=hS.st t hst
 have HM:Hid (M.moves t=mayE M t (M.stand t).1 (M.does t)):=Lib.hid (by unfold Mod.moves;rw [hy];simp only;rw [if_neg (by simp [he]),if_neg h2,if_neg (by simp [hst])])
 rw [hdo] at HM hSt
 obtain ⟨f,hf⟩:∃ f,f=(M.stand t).1:=⟨_,rfl⟩
 rw [<- hf] at HM hSt hx
 have hst0:M.stand t=(f,0):=by rw [hf, <- hst]
 have hsa:=fun W (hW:Below w.heap.size w W)=>standAt_ok t W (h.below hW) hS.tl hS.chk hS.small hst0 hx
 have hru:=fun W=>rule_any B t f x W hSt.lo hSt.hi
 have hma:=fun W (hW:Below w.heap.size w W)=>may_any t f x W (h.below hW) hSt hS.wl hS.tl
 obtain ⟨F1,hF1⟩:∃ F1,F1=tryF B t f x x.o:=⟨_,rfl⟩
 have hrv:rulV B t f x x.o=.agg #[F1,.func (.func (mayK x.o)) #[stdV B t f x] #[]]:=by unfold rulV;rw [mayF_eq _ _ _ _ _ hSt.lo hSt.hi,hF1]
 simp only [hrv] at hru
 have hen:=may_enters x.o
 obtain ⟨KF,hKF⟩:∃ KF,KF=mayK x.o:=⟨_,rfl⟩
 simp only [<- hKF] at hru hma hen
 have qf:∀ W:World,(Instr.field 113 (.agg #[F1,.func (.func KF) #[stdV B t f x] #[]]) 1).run Tryz.prog W=.ok (.func (.func KF) #[stdV B t f x] #[]) W:=fun W=>rul_may _ _ W
 obtain ⟨L,hL⟩:∃ L,L=mayE M t f x:=⟨_,rfl⟩
 rw [<- hL] at HM
 simp only [<- hL] at hma
 clear hF1 hrv hKF hL hst0 hf hSt hdo hx hst hy hS he hne h2
 go_enter Tryz.func15,Tryz.ntmps15
 go_wp2_with fail
 refine htk'.mono ?_
 rintro e w1 ⟨rfl,hb1⟩
 have hB2:=Mch.Below.al hb1 hb1.size (.cells (plaA y) 63)
 have hh2:=hhl _ hB2
 have hs2:=hsa _ hB2
 go_wp2_with fail
 refine hh2.mono ?_
 rintro e w2 ⟨rfl,rfl⟩
 go_wp2_with fail
 refine hs2.mono ?_
 rintro e w3 ⟨rfl,hb3⟩
 have hB3:=below_nx hB2 hb3 (Nat.le_refl _)
 go_upto_region 7 with fail
 obtain ⟨w4,hw4⟩:∃ w4,w4=w3.alloc (.cells (stdA B t f x) 107):=⟨_,rfl⟩
 have hB4:Below w.heap.size w w4:=by rw [hw4];exact Mch.Below.al hB3 hB3.size _
 have hS4:StAt w4 w3.heap.size B t f x:=by rw [hw4];exact blk_new w3 _ _
 rw [<- hw4]
 clear hw4 hh2 hs2 hhl hsa hb1 hb3
 obtain ⟨s0,s1,s2,s3,s4,s5,s6,s7,s8,s9,s10,s11,s12,s13,s14,s15,s16⟩:=std_cells hS4
 go_wp2_with fail
 refine (hru _).mono ?_
 rintro e w5 ⟨rfl,hb5⟩
 have hB5:=below_nx hB4 hb5 (Nat.le_refl _)
 have hm5:=hma _ hB5
 clear s0 s1 s2 s3 s4 s5 s6 s7 s8 s9 s10 s11 s12 s13 s14 s15 s16 hS4 hru hma
 go_wp2_with fail
 refine hm5.mono ?_
 rintro e w6 ⟨v,rfl,hR,hb6⟩
 obtain ⟨a,c,rfl⟩:=hR.slice
 go_wp2_with fail
 go_ret
 rw [HM.out]
 exact ⟨_,rfl,hR.mono hB5.size,below_nx hB5 hb6 (Nat.le_refl _)⟩
theorem mmoves_any {o:Nat->Nat} {B:Nat} {M:Mod} (t:Int) (w:World) (h:Md w o B M) (hS:Sane M) :
  Calls Tryz.prog 15 #[ptrV B,.int .i64 t] w fun e w'=>∃ v,e=.returned v/\EnNew w.heap.size w' v (M.moves t)/\Below w.heap.size w w':=by
 cases hy:M.task t with
 | none=>exact moves_none t w h hS hy
 | some y=>
  by_cases he:M.e=0
  case neg=>exact moves_halted t w h hS hy he
  case pos=>
   by_cases h2:y.s=2
   ·exact moves_waits t w h hS hy he h2
   ·by_cases hst:(M.stand t).2=0
    ·exact moves_runs t w h hS hy he h2 hst
    ·exact moves_stays t w h hS hy he h2 hst
end Go.Proofs.YtnfbncgfpmcpnaaGreat.Mdl
