/-
  ReplayNext: its walks, part 34.
-/
import Derived.Test.YtnfbncgfpmcpnaaGreatQ33
set_option maxRecDepth 100000
set_option maxHeartbeats 12800000
namespace Go.Proofs.YtnfbncgfpmcpnaaGreat.Mdl
open Go.RowKit
open Mch (Chn Frm Fw Fl below1 below_nx owns_slice' boxed_below)
def chsOf (p:Prg):List Cha:=p.caps.map fun m=>⟨m.toNat,false,[],[],[]⟩
def newM (p:Prg) (most:Nat):Mod:=⟨p,most,[⟨1,begF 0⟩],chsOf p,fun _=>0,0,0⟩
theorem inv_new {p:Prg} {most:Nat} (hc:checkW p=none) (hs:Small p) (hf:Fit p) (h1:1<=most) (h32:most<=32):Inv (newM p most) where
 chk:=hc
 small:=hs
 fit:=hf
 mo:=h32
 tl:=h1
 cl:=by simp [newM,chsOf]
 fr:=fun x hx=>by
  rw [List.mem_singleton.1 hx]
  exact rok_at0 rok_zero 0
 ch:=fun c hx=>by
  obtain ⟨m,hm,rfl⟩:=List.mem_map.1 hx
  exact ⟨Nat.zero_le _,fun e=>absurd rfl e,fun e=>absurd rfl e,by simp,by simp,by simp,List.Pairwise.nil,List.Pairwise.nil⟩
 k:=fun i c hx hcl=>by
  unfold newM chsOf at hx
  simp only [List.getElem?_map] at hx
  cases hm:p.caps[i]? with
  | none=>rw [hm] at hx;cases hx
  | some m=>rw [hm] at hx;simp only [Option.map_some,Option.some.injEq] at hx;subst hx;cases hcl
theorem owns_blk {W:World} {r size:Nat} {ty:TypeId} {cs:Array Value} (h:Blk W r ty cs) (hs:cs.size=size):W.ownsRow 0 ty size (.slice (some ⟨r,0,none⟩) 1 1) 1 cs.toList:=by
 refine ⟨by simp [hs],.inr ⟨r,1,cs,rfl,Nat.zero_le _,h,Nat.le_refl _,by unfold maxLen;omega,by omega,?_⟩⟩
 rw [List.take_of_length_le (by simp;omega)]
theorem new_md {W:World} {o1:Nat->Nat} {cv U1 U2 U3:Value} {Ds:List Nat} {p:Prg} {most lo hi r A b c0:Nat} {F:Fra} (hF:F=begF 0)
  (hh:Blk W A 81 #[U1,U2,U3,.int .i64 (most:Int),.slice (some ⟨r,0,none⟩) 1 1,cv,.int .i64 0,.int .i64 0,.int .i64 0,.int .i64 0,.int .i64 0,.int .i64 0,.int .i64 0,.int .i64 0]) (hp:PrgAt lo hi W U1 U2 U3 p) (hr:Blk W r 63 #[.int .u8 1,.int .i64 F.c,.int .i64 F.p,.int .i64 F.r0,.int .i64 F.r1,.int .i64 F.r2,.int .i64 F.r3,.int .i64 F.r4,.int .i64 F.r5,.int .i64 F.r6,.int .i64 F.r7]) (hc:ChRow W o1 cv Ds (chsOf p))
  (hob:∀ k,o1 k ≠ 0->b<=k/\k<c0) (hlo:c0<=lo) (hrc:c0<=r) (hAc:c0<=A) (hrA:r ≠ A) (hrp : ¬ (lo<=r/\r<hi)) (hAp : ¬ (lo<=A/\A<hi)) (hbc:b<=c0) :
  Md W (asmO o1 A lo hi (.slice (some ⟨r,0,none⟩) 1 1)) A (newM p most)/\(∀ k,asmO o1 A lo hi (.slice (some ⟨r,0,none⟩) 1 1) k ≠ 0->b<=k)/\(∀ k,k<b->asmO o1 A lo hi (.slice (some ⟨r,0,none⟩) 1 1) k=0):=by
 have hz:∀ k,c0<=k->o1 k=0:=fun k hk=>by by_cases h0:o1 k=0;exact h0;have:=hob k h0;omega
 have hown:∀ g,(Value.slice (some ⟨r,0,none⟩) 1 1).ownBlock=some g->g=r:=fun g e=>by simpa [Value.ownBlock] using e.symm
 have hrow:W.ownsRow 0 63 11 (.slice (some ⟨r,0,none⟩) 1 1) (newM p most).T.length (flatP (newM p most).T):=by
  have:=owns_blk hr rfl
  rw [hF] at this
  simpa [newM,flatP,Pla.cellsL] using this
 have hn:=asm_new (o1:=o1) (vT:=.slice (some ⟨r,0,none⟩) 1 1) (A:=A) (lo:=lo) (hi:=hi) (b:=b) (by omega) (by omega) (fun g e=>by have:=hown g e;omega) (fun k hk=>(hob k hk).1)
 refine ⟨md_made (M:=newM p most) hh hp hrow hc (hz A hAc) (fun k h1 h2=>⟨hz k (by omega),by rintro rfl;exact hAp ⟨h1,h2⟩⟩) (fun g e=>?_),hn,fun k hk=>by
  by_cases h0:asmO o1 A lo hi (.slice (some ⟨r,0,none⟩) 1 1) k=0;exact h0;have:=hn k h0;omega⟩
 obtain rfl:=hown g e
 exact ⟨hz g hrc,hrA,hrp⟩
theorem new_fin {w W:World} {o':Nat->Nat} {A E b:Nat} {M:Mod} (hE:Boxed W E 31 (.int .i64 0)) (hN:Md W o' A M) (hn:∀ k,o' k ≠ 0->b<=k) (hz:∀ k,k<b->o' k=0) (hB:Below w.heap.size w W) (hEw:w.heap.size<=E) (hEb:E<b) (hwb:w.heap.size<=b) :
  Boxed (W.setCell ⟨E,0,none⟩ (.int .i64 0)) E 31 (.int .i64 0)/\NewMd w M A (W.setCell ⟨E,0,none⟩ (.int .i64 0))/\Below w.heap.size w (W.setCell ⟨E,0,none⟩ (.int .i64 0)):=by
 have hF:Frm (fun j=>j=E) W (W.setCell ⟨E,0,none⟩ (.int .i64 0)):=Mch.Frm.set (F:=fun j=>j=E) (p:=⟨E,0,none⟩) W _ rfl
 exact ⟨hE.set _,⟨o',md_off hN hF (hz E hEb),fun k hk=>Nat.le_trans hwb (hn k hk)⟩,frm_low hB hF (fun k e=>by omega)⟩
def NewPost (w:World) (p:Prg) (most:Nat) (e:Ending) (w':World):Prop:=∃ A,e=.returned (.tuple #[ptrV A,.int .i64 0])/\NewMd w (newM p most) A w'/\Below w.heap.size w w'
def newDefer (E:Nat):List Deferred:=[{ target:=Target.fn (.func 22) #[.pointer (some ⟨E,0,none⟩)],args:=#[] }]
theorem new_dies {w:World} (E:Nat) (w1:World) (T:Array Value) (k x0:Int) (h4:T[4]?.getD undef=.pointer none) (h5:T[5]?.getD undef=.pointer (some ⟨E,0,none⟩))
  (hE:Boxed w1 E 31 (.int .i64 x0)) (hB:Below w.heap.size w w1) (hw:w.heap.size<=E) :
  bodyPostD Tryz.prog Tryz.f7 (fun e w'=>e=.returned (.tuple #[.pointer none,.int .i64 k])/\Below w.heap.size w w') (.panic [{ v:=.iface 68 (.agg #[.int .i64 k]),recovered:=false }]) { tmps:=T,defers:=newDefer E } w1:=by
 refine leaves_cons (f:=22) (args:=#[.pointer (some ⟨E,0,none⟩)]) (by simp) (by simp [go_sem]) ?_
 refine (new_caught E k [] w1 x0 hE).mono ?_
 rintro e' u' w'' ⟨rfl,rfl,hE',hbt⟩
 have q:=hE'.cell
 have hbb:Below w.heap.size w w'':=hB.trans (hbt.below hB.size (by simpa using hw))
 simp [Leaves,settle,results,Tryz.f7,go_sem,h4,h5,q,hbb]
theorem new_ends {w:World} {p:Prg} {most:Nat} (E A:Nat) (w1:World) (T:Array Value) (h4:T[4]?.getD undef=ptrV A) (h5:T[5]?.getD undef=.pointer (some ⟨E,0,none⟩))
  (hE:Boxed w1 E 31 (.int .i64 0)) (hN:NewMd w (newM p most) A w1) (hB:Below w.heap.size w w1) :
  bodyPostD Tryz.prog Tryz.f7 (NewPost w p most) .ret { tmps:=T,defers:=newDefer E } w1:=by
 refine leaves_cons (f:=22) (args:=#[.pointer (some ⟨E,0,none⟩)]) (by simp) (by simp [go_sem]) ?_
 refine (new_idle E w1).mono ?_
 rintro e' u' w'' ⟨rfl,rfl,hbt⟩
 have q:=(boxed_below hE hbt).cell
 obtain ⟨o',hm,hn⟩:=hN
 have hfin:NewPost w p most (.returned (.tuple #[ptrV A,.int .i64 0])) w'':=⟨A,rfl,⟨o',hm.below hbt,hn⟩,hB.trans (hbt.mono hB.size)⟩
 simp [Leaves,settle,results,Tryz.f7,go_sem,h4,h5,q]
 exact hfin
section
variable {lo hi:Nat} {v1 v2 v3:Value} {p:Prg}
theorem new_bad (most:Int) (w:World) (h:PrgAt lo hi w v1 v2 v3 p) (hs:Small p) (hb:checkW p ≠ none) :
  Calls Tryz.prog 7 #[.agg #[v1,v2,v3],.int .i64 most] w fun e w'=>e=.returned (.tuple #[.pointer none,.int .i64 2])/\Below w.heap.size w w':=by
 obtain ⟨a1,c1,rfl⟩:=h.caps.slice
 obtain ⟨a2,c2,rfl⟩:=h.codes.slice
 obtain ⟨a3,c3,rfl⟩:=h.sites.slice
 obtain ⟨w2,hw2⟩:∃ w2,w2=(w.alloc (.cells #[.slice a1 p.caps.length c1,.slice a2 p.codes.length c2,.slice a3 p.sites.length c3] 26)).alloc (.cells #[.int .i64 0] 31):=⟨_,rfl⟩
 have hB2:Below w.heap.size w w2:=by rw [hw2];exact below2 w _ _
 have hX2:Blk w2 w.heap.size 26 #[.slice a1 p.caps.length c1,.slice a2 p.codes.length c2,.slice a3 p.sites.length c3]:=by rw [hw2];exact (blk_new w _ _).alloc _
 have hE2:Boxed w2 (w.heap.size+1) 31 (.int .i64 0):=by
  have h1:=Boxed.new (w.alloc (.cells #[.slice a1 p.caps.length c1,.slice a2 p.codes.length c2,.slice a3 p.sites.length c3] 26)) 31 (.int .i64 0)
  rw [World.size_alloc] at h1
  rw [hw2];exact h1
 have hP2:=h.later hB2
 have hmf:∀ (fn:Fn) (first cap:Array Value) (w:World),(Instr.makeFunc fn first cap).run Tryz.prog w=.ok (.func fn first cap) w:=fun _ _ _ _=>rfl
 have x0:w2.cell? ⟨w.heap.size,0,none⟩=some (.slice a1 p.caps.length c1):=hX2.cell rfl
 have x1:w2.cell? ⟨w.heap.size,1,none⟩=some (.slice a2 p.codes.length c2):=hX2.cell rfl
 have x2:w2.cell? ⟨w.heap.size,2,none⟩=some (.slice a3 p.sites.length c3):=hX2.cell rfl
 have hck:=Go.Proofs.YtnfbncgfpmcpnaaGreat.progCheck_any w2 hP2 hs
 obtain ⟨z0,hz0⟩:∃ z,z=(checkT p).1:=⟨_,rfl⟩
 obtain ⟨z1,hz1⟩:∃ z,z=(checkT p).2.1:=⟨_,rfl⟩
 obtain ⟨z2,hz2⟩:∃ z,z=(checkT p).2.2:=⟨_,rfl⟩
 rw [<- hz0, <- hz1, <- hz2] at hck
 have hne:(z2 == 0)=false:=by
  have:z2 ≠ 0:=fun e=>hb (check_zero.1 (by rw [<- hz2];exact e))
  simpa using this
 clear hz0 hz1 hz2 hb hs h hP2 hX2
 go_enter_defers Tryz.func7,Tryz.ntmps7
 go_wp2_with fail
 rw [<- hw2]
 clear hw2
 refine hck.mono ?_
 rintro e w3 ⟨rfl,hb3⟩
 go_wp2_with fail
 refine (mneed_bad 2 w3).mono ?_
 rintro e w3 ⟨rfl,rfl⟩
 go_wp2_with fail
 exact new_dies (w.heap.size+1) _ _ 2 0 rfl rfl (boxed_below hE2 hb3) (below_nx hB2 hb3 (Nat.le_refl _)) (by omega)
theorem new_ok (most:Nat) (w:World) (h:PrgAt lo hi w v1 v2 v3 p) (hs:Small p) (hc:checkW p=none) (hm1:1<=most) (hm2:most<=32) :
    Calls Tryz.prog 7 #[.agg #[v1,v2,v3],.int .i64 (most:Int)] w (NewPost w p most):=by
  obtain ⟨i0,hi0,hz0,hz1,hz2⟩:=info_parts infoPtr
  obtain ⟨a1,c1,rfl⟩:=h.caps.slice
  obtain ⟨a2,c2,rfl⟩:=h.codes.slice
  obtain ⟨a3,c3,rfl⟩:=h.sites.slice
  obtain ⟨w2,hw2⟩:∃ w2,w2=(w.alloc (.cells #[.slice a1 p.caps.length c1,.slice a2 p.codes.length c2,.slice a3 p.sites.length c3] 26)).alloc (.cells #[.int .i64 0] 31):=⟨_,rfl⟩
  have hB2:Below w.heap.size w w2:=by rw [hw2];exact below2 w _ _
  have hX2:Blk w2 w.heap.size 26 #[.slice a1 p.caps.length c1,.slice a2 p.codes.length c2,.slice a3 p.sites.length c3]:=by rw [hw2];exact (blk_new w _ _).alloc _
  have hE2:Boxed w2 (w.heap.size+1) 31 (.int .i64 0):=by
    have h1:=Boxed.new (w.alloc (.cells #[.slice a1 p.caps.length c1,.slice a2 p.codes.length c2,.slice a3 p.sites.length c3] 26)) 31 (.int .i64 0)
    rw [World.size_alloc] at h1
    rw [hw2];exact h1
  have hP2:=h.later hB2
  have hmf:∀ (fn:Fn) (first cap:Array Value) (w:World),(Instr.makeFunc fn first cap).run Tryz.prog w=.ok (.func fn first cap) w:=fun _ _ _ _=>rfl
  have x0:w2.cell? ⟨w.heap.size,0,none⟩=some (.slice a1 p.caps.length c1):=hX2.cell rfl
  have x1:w2.cell? ⟨w.heap.size,1,none⟩=some (.slice a2 p.codes.length c2):=hX2.cell rfl
  have x2:w2.cell? ⟨w.heap.size,2,none⟩=some (.slice a3 p.sites.length c3):=hX2.cell rfl
  have hck:=Go.Proofs.YtnfbncgfpmcpnaaGreat.progCheck_any w2 hP2 hs
  rw [check_zero.2 hc] at hck
  obtain ⟨y0,hy0⟩:∃ z,z=(checkT p).1:=⟨_,rfl⟩
  obtain ⟨y1,hy1⟩:∃ z,z=(checkT p).2.1:=⟨_,rfl⟩
  rw [<- hy0, <- hy1] at hck
  have q1:(1:Int)<=(most:Int):=by omega
  have q2:(most:Int)<=32:=by omega
  have d1:decide ((1:Int)<=(most:Int))=true:=by simp;omega
  have d2:decide ((most:Int)<=32)=true:=by simp;omega
  clear hy0 hy1 hm1 hm2
  go_enter_defers Tryz.func7,Tryz.ntmps7
  go_wp2_with fail
  rw [<- hw2]
  clear hw2
  refine hck.mono ?_
  rintro e w3 ⟨rfl,hb3⟩
  have hP3:=hP2.later hb3
  have hX3:=Blk.later hX2 hb3 hX2.lt
  have hE3:=boxed_below hE2 hb3
  have hB3:=below_nx hB2 hb3 (Nat.le_refl _)
  clear x0 x1 x2 hck hP2 hX2 hE2 hb3 h
  have x0:w3.cell? ⟨w.heap.size,0,none⟩=some (.slice a1 p.caps.length c1):=Blk.cell hX3 rfl
  go_wp2_with fail
  refine (mneed_ok 2 w3).mono ?_
  rintro e w3 ⟨rfl,rfl⟩
  go_wp2_with fail
  refine (mneed_ok 2 w3).mono ?_
  rintro e w3 ⟨rfl,rfl⟩
  obtain ⟨n,hn⟩:∃ n,n=p.caps.length:=⟨_,rfl⟩
  have hn6:n<=6:=by rw [hn];exact caps_le hc
  have HN:=Lib.hid hn
  have hP3':=hP3
  rw [<- hn] at x0 hP3'
  clear hn
  go_wp2_with fail
  clear x0
  go_loopw [9,35] (fun cv iv wr=>∃ j:Nat,j<=n/\iv=.int .i64 (j:Int)/\∃ o1 Ds,ChRow wr o1 cv Ds ((chsOf p).take j)/\Below w3.heap.size w3 wr/\(∀ k,o1 k ≠ 0->w3.heap.size<=k)) (fun _ iv _=>n - (intOf iv).toNat)
  case atStart=>exact ⟨0,by omega,rfl,_,_,by simpa using ChRow.nil w3,Below.refl _ _,fun k hk=>absurd rfl hk⟩
  case round=>
    obtain ⟨j,hj,rfl,o1,Ds,hR,hB,hnew⟩:=hrel
    by_cases hlt:j<n
    · have hlt':(j:Int)<(n:Int):=by omega
      have q3:(0:Int)<=(j:Int):=by omega
      have q6:(j:Int)<6:=by omega
      have hwr:IntKind.i64.wrap ((j:Int)+1)=(j:Int)+1:=by rw [IntKind.wrap_i64];omega
      obtain ⟨b,off,cx,rfl,-, -, hcx,-, hcell⟩:=(hP3'.later hB).caps.at (show j<p.caps.length by rw [<- HN.out];exact hlt)
      have hcb:=caps_all hc hcx
      obtain ⟨m,rfl⟩:∃ m:Nat,cx=(m:Int):=⟨cx.toNat,by omega⟩
      have hm8:m<=8:=by omega
      have hcn:=Mch.cnew_ok m wr hm8
      have hch:(chsOf p)[j]?=some ⟨m,false,[],[],[]⟩:=by unfold chsOf;rw [List.getElem?_map,hcx];rfl
      clear hcb hcx
      go_wp2_with fail
      refine hcn.mono ?_
      rintro e w6 ⟨D,rfl,hD6,hb6⟩
      go_wp2_with fail
      refine (mneed_ok 2 w6).mono ?_
      rintro e w6 ⟨rfl,rfl⟩
      obtain ⟨av,cv,rfl⟩:=owns_slice' hR.row
      obtain ⟨nD,hnD⟩:∃ nD,nD=Ds.length:=⟨_,rfl⟩
      have hnDj:nD<=6:=by have h1:=hR.len;rw [List.length_take] at h1;omega
      have hRrow:=hR.row
      have HD:=Lib.hid hnD
      rw [<- hnD] at hRrow hR
      rw [<- hnD]
      clear hnD hcn hcell
      have hrow2:(w6.alloc (.cells #[ptrV D] 46)).ownsRow 0 46 1 (.slice av nD cv) nD (Ds.map ptrV):=(owns_fresh hRrow hb6).alloc _
      have hcl2:∀ (k:Nat) (u:Value),([ptrV D]:List Value)[k]?=some u->(w6.alloc (.cells #[ptrV D] 46)).cell? (Addr.add ⟨w6.heap.size,0,none⟩ k)=some u:=fun k u hk=>by
        rw [add0];exact Blk.cell (blk_new w6 46 #[ptrV D]) (by simpa using hk)
      have hone:∀ u ∈ ([ptrV D]:List Value),u.oneCell'=true:=by simp [Value.oneCell']
      go_wp2_with (at_builtin;refine wpList_append_own_at _ rfl _ _ 73 rfl 0 46 i0 (.pointer none) 1 8 Tryz.underlying73 hi0 hz0 hz1 hz2 rfl (by decide) _ nD (Ds.map ptrV) rfl hrow2 ⟨w6.heap.size,0,none⟩ 1 1 [ptrV D] rfl rfl ?k1 ?k2 ?k3 ?k4 ?k5 ?_)
      case k1=>exact hcl2
      case k2=>exact hone
      case k3=>unfold maxLen;omega
      case k4=>omega
      try (case k5=>exact Nat.zero_le _)
      intro v7 w7 hown7 hg7 _ hat7
      obtain ⟨g7,cap7,rfl⟩:=ownsRow_succ hown7
      obtain ⟨⟨o2,hR2,hn2⟩,hF2⟩:=row_round (v7:=.slice (some ⟨g7,0,none⟩) (nD+1) cap7) (c:=⟨m,false,[],[],[]⟩) hR hnew hB.size hD6 hb6 hg7 (by rw [<- HD.out];exact hown7) (by rw [World.size_alloc];exact hat7)
      rw [show (chsOf p).take j ++ [⟨m,false,[],[],[]⟩]=(chsOf p).take (j+1) from (take_snoc' _ hch).symm] at hR2
      have hB7:Below w3.heap.size w3 w7:=frm_low hB hF2 (fun k e=>e)
      clear hR hnew hB hD6 hb6 hg7 hown7 hat7 hF2 hrow2 hcl2 hone hRrow hch
      go_wp2_with fail
      go_roundw
      case rel=>exact ⟨j+1,by omega,by go_num,o2,_,hR2,hB7,hn2⟩
      case measure=>simp [intOf];omega
    · obtain rfl:j=n:=by omega
      have hTk:(chsOf p).take j=chsOf p:=List.take_of_length_le (by rw [HN.out];simp [chsOf])
      rw [hTk] at hR
      obtain ⟨av,cv,rfl⟩:=owns_slice' hR.row
      have hbg:=begin_any 0 wr
      have hEs:w.heap.size+1<w3.heap.size:=hE3.lt
      have hBr:Below w.heap.size w wr:=hB3.trans (hB.mono hB3.size)
      have hEr:=boxed_below hE3 hB
      have hXr:=Blk.later hX3 hB hX3.lt
      have hPr:=hP3.later hB
      obtain ⟨F,hF⟩:∃ F,F=begF 0:=⟨_,rfl⟩
      rw [<- hF] at hbg
      have HF:=Lib.hid hF
      clear hF
      clear hTk hX3 hE3 hP3 hP3'
      go_wp2_with fail
      refine hbg.mono ?_
      rintro e w4 ⟨rfl,hb4⟩
      go_upto_region 14 with fail
      obtain ⟨T0,hT0⟩:∃ T0,T0=w4.heap.size:=⟨_,rfl⟩
      obtain ⟨w8,hw8⟩:∃ w8,w8=w4.alloc (.cells #[.int .u8 1,.int .i64 F.c,.int .i64 F.p,.int .i64 F.r0,.int .i64 F.r1,.int .i64 F.r2,.int .i64 F.r3,.int .i64 F.r4,.int .i64 F.r5,.int .i64 F.r6,.int .i64 F.r7] 63):=⟨_,rfl⟩
      have hb8:Below wr.heap.size wr w8:=by rw [hw8];exact Mch.Below.al hb4 hb4.size _
      have hT8:Blk w8 T0 63 #[.int .u8 1,.int .i64 F.c,.int .i64 F.p,.int .i64 F.r0,.int .i64 F.r1,.int .i64 F.r2,.int .i64 F.r3,.int .i64 F.r4,.int .i64 F.r5,.int .i64 F.r6,.int .i64 F.r7]:=by rw [hw8,hT0];exact blk_new w4 _ _
      rw [<- hw8, <- hT0]
      have hT8l:=hT8.lt
      clear hw8 hT0 hb4 hbg
      have hR8:=hR.below hb8
      have hE8:=boxed_below hEr hb8
      have hX8:=Blk.later hXr hb8 hXr.lt
      have hP8:=hPr.later hb8
      have hB8:=hBr.trans (hb8.mono hBr.size)
      have hcp:=fun (W:World) (hW:Below w8.heap.size w8 W)=>Go.Proofs.YtnfbncgfpmcpnaaGreat.copy_any W (hP8.later hW) hs
      have r0:Below w8.heap.size w8 w8.drew:=(Below.refl _ _).drew
      have r1:Below w8.heap.size w8 (w8.alloc (.cells #[.int .u8 1,.int .i64 F.c,.int .i64 F.p,.int .i64 F.r0,.int .i64 F.r1,.int .i64 F.r2,.int .i64 F.r3,.int .i64 F.r4,.int .i64 F.r5,.int .i64 F.r6,.int .i64 F.r7] 63)).drew:=(below1 w8 _).drew
      have x0:w8.drew.cell? ⟨w.heap.size,0,none⟩=some (.slice a1 p.caps.length c1):=Blk.cell hX8 rfl
      have x1:w8.drew.cell? ⟨w.heap.size,1,none⟩=some (.slice a2 p.codes.length c2):=Blk.cell hX8 rfl
      have x2:w8.drew.cell? ⟨w.heap.size,2,none⟩=some (.slice a3 p.sites.length c3):=Blk.cell hX8 rfl
      have hXa:=Blk.later hX8 r1 hX8.lt
      have y0:(w8.alloc (.cells #[.int .u8 1,.int .i64 F.c,.int .i64 F.p,.int .i64 F.r0,.int .i64 F.r1,.int .i64 F.r2,.int .i64 F.r3,.int .i64 F.r4,.int .i64 F.r5,.int .i64 F.r6,.int .i64 F.r7] 63)).drew.cell? ⟨w.heap.size,0,none⟩=some (.slice a1 p.caps.length c1):=Blk.cell hXa rfl
      have y1:(w8.alloc (.cells #[.int .u8 1,.int .i64 F.c,.int .i64 F.p,.int .i64 F.r0,.int .i64 F.r1,.int .i64 F.r2,.int .i64 F.r3,.int .i64 F.r4,.int .i64 F.r5,.int .i64 F.r6,.int .i64 F.r7] 63)).drew.cell? ⟨w.heap.size,1,none⟩=some (.slice a2 p.codes.length c2):=Blk.cell hXa rfl
      have y2:(w8.alloc (.cells #[.int .u8 1,.int .i64 F.c,.int .i64 F.p,.int .i64 F.r0,.int .i64 F.r1,.int .i64 F.r2,.int .i64 F.r3,.int .i64 F.r4,.int .i64 F.r5,.int .i64 F.r6,.int .i64 F.r7] 63)).drew.cell? ⟨w.heap.size,2,none⟩=some (.slice a3 p.sites.length c3):=Blk.cell hXa rfl
      have t0:w8.drew.cell? ⟨T0,0,none⟩=some (.int .u8 1):=Blk.cell (show Blk w8.drew T0 _ _ from hT8) rfl
      have t1:w8.drew.cell? ⟨T0,1,none⟩=some (.int .i64 F.c):=Blk.cell (show Blk w8.drew T0 _ _ from hT8) rfl
      have t2:w8.drew.cell? ⟨T0,2,none⟩=some (.int .i64 F.p):=Blk.cell (show Blk w8.drew T0 _ _ from hT8) rfl
      have t3:w8.drew.cell? ⟨T0,3,none⟩=some (.int .i64 F.r0):=Blk.cell (show Blk w8.drew T0 _ _ from hT8) rfl
      have t4:w8.drew.cell? ⟨T0,4,none⟩=some (.int .i64 F.r1):=Blk.cell (show Blk w8.drew T0 _ _ from hT8) rfl
      have t5:w8.drew.cell? ⟨T0,5,none⟩=some (.int .i64 F.r2):=Blk.cell (show Blk w8.drew T0 _ _ from hT8) rfl
      have t6:w8.drew.cell? ⟨T0,6,none⟩=some (.int .i64 F.r3):=Blk.cell (show Blk w8.drew T0 _ _ from hT8) rfl
      have t7:w8.drew.cell? ⟨T0,7,none⟩=some (.int .i64 F.r4):=Blk.cell (show Blk w8.drew T0 _ _ from hT8) rfl
      have t8:w8.drew.cell? ⟨T0,8,none⟩=some (.int .i64 F.r5):=Blk.cell (show Blk w8.drew T0 _ _ from hT8) rfl
      have t9:w8.drew.cell? ⟨T0,9,none⟩=some (.int .i64 F.r6):=Blk.cell (show Blk w8.drew T0 _ _ from hT8) rfl
      have t10:w8.drew.cell? ⟨T0,10,none⟩=some (.int .i64 F.r7):=Blk.cell (show Blk w8.drew T0 _ _ from hT8) rfl
      refine Mch.wp_onlyN ?_
      go_region_law (first
        | (go_simp;with_reducible refine (hcp _ r0).mono ?_;rintro e w9 ⟨u1,u2,u3,rfl,hO9,hb9⟩
           have hb89:Below w8.heap.size w8 w9:=r0.trans (hb9.mono r0.size)
           have hP9:=hO9.at hP8.fit
           obtain ⟨d1',f1,rfl⟩:=hP9.caps.slice
           obtain ⟨d2',f2,rfl⟩:=hP9.codes.slice
           obtain ⟨d3',f3,rfl⟩:=hP9.sites.slice
           have hT9:=Blk.later hT8 hb89 hT8.lt
           have hE9:=boxed_below hE8 hb89
           have hEa:∀ o1 o2,((w9.alloc o1).alloc o2).cell? ⟨w.heap.size+1,0,none⟩=some (.int .i64 0):=fun o1 o2=>(boxed_below hE9 (below2 w9 o1 o2)).cell
           have hEf:∀ o1 o2,((w9.alloc o1).alloc o2).frozen? ⟨w.heap.size+1,0,none⟩=false:=fun o1 o2=>(boxed_below hE9 (below2 w9 o1 o2)).frozen
           have s0:w9.cell? ⟨T0,0,none⟩=some (.int .u8 1):=Blk.cell hT9 rfl
           have s1:w9.cell? ⟨T0,1,none⟩=some (.int .i64 F.c):=Blk.cell hT9 rfl
           have s2:w9.cell? ⟨T0,2,none⟩=some (.int .i64 F.p):=Blk.cell hT9 rfl
           have s3:w9.cell? ⟨T0,3,none⟩=some (.int .i64 F.r0):=Blk.cell hT9 rfl
           have s4:w9.cell? ⟨T0,4,none⟩=some (.int .i64 F.r1):=Blk.cell hT9 rfl
           have s5:w9.cell? ⟨T0,5,none⟩=some (.int .i64 F.r2):=Blk.cell hT9 rfl
           have s6:w9.cell? ⟨T0,6,none⟩=some (.int .i64 F.r3):=Blk.cell hT9 rfl
           have s7:w9.cell? ⟨T0,7,none⟩=some (.int .i64 F.r4):=Blk.cell hT9 rfl
           have s8:w9.cell? ⟨T0,8,none⟩=some (.int .i64 F.r5):=Blk.cell hT9 rfl
           have s9:w9.cell? ⟨T0,9,none⟩=some (.int .i64 F.r6):=Blk.cell hT9 rfl
           have s10:w9.cell? ⟨T0,10,none⟩=some (.int .i64 F.r7):=Blk.cell hT9 rfl)
        | (go_simp;with_reducible refine (hcp _ r1).mono ?_;rintro e w9 ⟨u1,u2,u3,rfl,hO9,hb9⟩
           have hb89:Below w8.heap.size w8 w9:=r1.trans (hb9.mono r1.size)
           have hP9:=hO9.at hP8.fit
           obtain ⟨d1',f1,rfl⟩:=hP9.caps.slice
           obtain ⟨d2',f2,rfl⟩:=hP9.codes.slice
           obtain ⟨d3',f3,rfl⟩:=hP9.sites.slice
           have hE9:=boxed_below hE8 hb89
           have hEa:∀ o1,(w9.alloc o1).cell? ⟨w.heap.size+1,0,none⟩=some (.int .i64 0):=fun o1=>(boxed_below hE9 (below1 w9 o1)).cell
           have hEf:∀ o1,(w9.alloc o1).frozen? ⟨w.heap.size+1,0,none⟩=false:=fun o1=>(boxed_below hE9 (below1 w9 o1)).frozen))
      all_goals simp only [Mch.onlyN]
      all_goals have hs89:=hb89.size
      all_goals have hs9:=hb9.size
      all_goals have hs38:w3.heap.size<=w8.heap.size:=Nat.le_trans hB.size hb8.size
      all_goals have hob:∀ k,o1 k ≠ 0->w3.heap.size<=k/\k<w8.heap.size:=fun k hk=>⟨hnew k hk,hR8.low k hk⟩
      all_goals have hE3s:w.heap.size+1<w3.heap.size:=hEs
      all_goals have hC9:=hR8.below hb89
      all_goals have hB9:=hB8.trans (hb89.mono hB8.size)
      all_goals first
        | (have hb2:=below2 w9 (.cells #[.int .u8 1,.int .i64 F.c,.int .i64 F.p,.int .i64 F.r0,.int .i64 F.r1,.int .i64 F.r2,.int .i64 F.r3,.int .i64 F.r4,.int .i64 F.r5,.int .i64 F.r6,.int .i64 F.r7] 63) (.cells #[.slice d1' p.caps.length f1,.slice d2' p.codes.length f2,.slice d3' p.sites.length f3,.int .i64 (most:Int),.slice (some ⟨w9.heap.size,0,none⟩) 1 1,.slice av Ds.length cv,.int .i64 0,.int .i64 0,.int .i64 0,.int .i64 0,.int .i64 0,.int .i64 0,.int .i64 0,.int .i64 0] 81)
           have hz9:w8.heap.size<=w9.heap.size:=hs89
           have hmd:=new_md (W:=((w9.alloc (.cells #[.int .u8 1,.int .i64 F.c,.int .i64 F.p,.int .i64 F.r0,.int .i64 F.r1,.int .i64 F.r2,.int .i64 F.r3,.int .i64 F.r4,.int .i64 F.r5,.int .i64 F.r6,.int .i64 F.r7] 63)).alloc (.cells #[.slice d1' p.caps.length f1,.slice d2' p.codes.length f2,.slice d3' p.sites.length f3,.int .i64 (most:Int),.slice (some ⟨w9.heap.size,0,none⟩) 1 1,.slice av Ds.length cv,.int .i64 0,.int .i64 0,.int .i64 0,.int .i64 0,.int .i64 0,.int .i64 0,.int .i64 0,.int .i64 0] 81))) (F:=F) (r:=w9.heap.size) (A:=w9.heap.size+1) (b:=w3.heap.size) (c0:=w8.heap.size) HF.out (blk_at (by simp)) (hP9.later hb2) ((blk_new w9 _ _).alloc _) (hC9.below hb2) hob (Nat.le_refl _) hz9 (by omega) (by omega) (fun e=>by omega) (fun e=>by omega) hs38
           obtain ⟨g1,g2,g3⟩:=new_fin (w:=w) (boxed_below hE9 hb2) hmd.1 hmd.2.1 hmd.2.2 (hB9.trans (hb2.mono hB9.size)) (by omega) hE3s hB3.size
           clear hmd hb2
           generalize ((w9.alloc (.cells #[.int .u8 1,.int .i64 F.c,.int .i64 F.p,.int .i64 F.r0,.int .i64 F.r1,.int .i64 F.r2,.int .i64 F.r3,.int .i64 F.r4,.int .i64 F.r5,.int .i64 F.r6,.int .i64 F.r7] 63)).alloc (.cells #[.slice d1' p.caps.length f1,.slice d2' p.codes.length f2,.slice d3' p.sites.length f3,.int .i64 (most:Int),.slice (some ⟨w9.heap.size,0,none⟩) 1 1,.slice av Ds.length cv,.int .i64 0,.int .i64 0,.int .i64 0,.int .i64 0,.int .i64 0,.int .i64 0,.int .i64 0,.int .i64 0] 81)).setCell ⟨w.heap.size+1,0,none⟩ (.int .i64 0)=wf at g1 g2 g3 ⊢
           go_wp2_with fail
           exact new_ends (w.heap.size+1) _ _ _ rfl rfl g1 g2 g3)
        | (have hb2:=below1 w9 (.cells #[.slice d1' p.caps.length f1,.slice d2' p.codes.length f2,.slice d3' p.sites.length f3,.int .i64 (most:Int),.slice (some ⟨w8.heap.size,0,none⟩) 1 1,.slice av Ds.length cv,.int .i64 0,.int .i64 0,.int .i64 0,.int .i64 0,.int .i64 0,.int .i64 0,.int .i64 0,.int .i64 0] 81)
           have hrs:(w8.alloc (.cells #[.int .u8 1,.int .i64 F.c,.int .i64 F.p,.int .i64 F.r0,.int .i64 F.r1,.int .i64 F.r2,.int .i64 F.r3,.int .i64 F.r4,.int .i64 F.r5,.int .i64 F.r6,.int .i64 F.r7] 63)).drew.heap.size=w8.heap.size+1:=World.size_alloc _ _
           have hs10:w8.heap.size+1<=w9.heap.size:=by rw [<- hrs];exact hs9
           have hrow9:Blk w9 w8.heap.size 63 #[.int .u8 1,.int .i64 F.c,.int .i64 F.p,.int .i64 F.r0,.int .i64 F.r1,.int .i64 F.r2,.int .i64 F.r3,.int .i64 F.r4,.int .i64 F.r5,.int .i64 F.r6,.int .i64 F.r7]:=Blk.later (show Blk (w8.alloc (.cells #[.int .u8 1,.int .i64 F.c,.int .i64 F.p,.int .i64 F.r0,.int .i64 F.r1,.int .i64 F.r2,.int .i64 F.r3,.int .i64 F.r4,.int .i64 F.r5,.int .i64 F.r6,.int .i64 F.r7] 63)).drew _ _ _ from blk_new w8 _ _) hb9 (by rw [hrs];omega)
           have hmd:=new_md (W:=(w9.alloc (.cells #[.slice d1' p.caps.length f1,.slice d2' p.codes.length f2,.slice d3' p.sites.length f3,.int .i64 (most:Int),.slice (some ⟨w8.heap.size,0,none⟩) 1 1,.slice av Ds.length cv,.int .i64 0,.int .i64 0,.int .i64 0,.int .i64 0,.int .i64 0,.int .i64 0,.int .i64 0,.int .i64 0] 81))) (F:=F) (r:=w8.heap.size) (A:=w9.heap.size) (b:=w3.heap.size) (c0:=w8.heap.size) HF.out (blk_new w9 _ _) (hP9.later hb2) (hrow9.alloc _) (hC9.below hb2) hob (by rw [hrs];omega) (Nat.le_refl _) (by omega) (by omega) (fun e=>by rw [hrs] at e;omega) (fun e=>by omega) hs38
           obtain ⟨g1,g2,g3⟩:=new_fin (w:=w) (boxed_below hE9 hb2) hmd.1 hmd.2.1 hmd.2.2 (hB9.trans (hb2.mono hB9.size)) (by omega) hE3s hB3.size
           clear hmd hb2
           generalize (w9.alloc (.cells #[.slice d1' p.caps.length f1,.slice d2' p.codes.length f2,.slice d3' p.sites.length f3,.int .i64 (most:Int),.slice (some ⟨w8.heap.size,0,none⟩) 1 1,.slice av Ds.length cv,.int .i64 0,.int .i64 0,.int .i64 0,.int .i64 0,.int .i64 0,.int .i64 0,.int .i64 0,.int .i64 0] 81)).setCell ⟨w.heap.size+1,0,none⟩ (.int .i64 0)=wf at g1 g2 g3 ⊢
           go_wp2_with fail
           exact new_ends (w.heap.size+1) _ _ _ rfl rfl g1 g2 g3)
end
open Go.RowKit
open Mch (below1 below_nx)
def twoP:Prg:=⟨[0],[[⟨9,0,0,0,1⟩,⟨5,0,0,0,0⟩,⟨10,0,0,0,0⟩],[⟨6,1,2,0,0⟩,⟨10,0,0,0,0⟩]],[]⟩
theorem ins_fit {o:Nat} {a b c k:Int} (ho:o<256) (ha:0<=a/\a<=9) (hb:0<=b/\b<=9) (hc:0<=c/\c<=9) (hk:0<=k/\k<=9):(In.mk o a b c k).ok:=
 ⟨ho,⟨by show (-9223372036854775808:Int)<=a;omega,by show a<=9223372036854775807;omega⟩,⟨by show (-9223372036854775808:Int)<=b;omega,by show b<=9223372036854775807;omega⟩,⟨by show (-9223372036854775808:Int)<=c;omega,by show c<=9223372036854775807;omega⟩,⟨by show (-9223372036854775808:Int)<=k;omega,by show k<=9223372036854775807;omega⟩⟩
theorem owns_row {W:World} {r n size base:Nat} {ty:TypeId} {cs:Array Value} (h:Blk W r ty cs) (hs:cs.size=n * size) (hn:0<n) (hm:n<=100) (hb:base<=r):W.ownsRow base ty size (.slice (some ⟨r,0,none⟩) n n) n cs.toList:=by
 refine ⟨by simp [hs],.inr ⟨r,n,cs,rfl,hb,h,Nat.le_refl _,by unfold maxLen;omega,hs,?_⟩⟩
 rw [List.take_of_length_le (by simp [hs])]
open Go.RowKit
open Ent (En EnRow okB)
open Mch (Frm below1 below_nx boxed_below)
section
variable {o:Nat->Nat} {B:Nat} {M:Mod} {x:En}
theorem moves_len (h:Inv M) (t:Int):(M.moves t).length<=1000:=by
 have hb:∀ i (c:Cha),(befallE M t i c).length<=1:=fun i c=>by
  unfold befallE
  split
  ·split
   ·simp
   ·split <;> simp
  ·simp
 have hfl:∀ (l:List (List En)),(∀ y ∈ l,y.length<=1)->l.flatten.length<=l.length:=fun l=>by
  induction l with
  | nil=>intro _;simp
  | cons y l ih=>intro hy;have h1:=ih (fun z hz=>hy z (List.mem_cons_of_mem _ hz));have h2:=hy y (List.mem_cons_self ..);simp only [List.flatten_cons,List.length_append,List.length_cons];omega
 have hmo:∀ idle l,l.length<=100->(movesO M t idle l).length<=1000:=fun idle l hl=>by
  unfold movesO
  split
  ·simp
  ·have:=commits_len (M:=M) (t:=t) l;omega
 unfold Mod.moves
 split
 ·simp
 ·split
  ·simp
  ·split
   ·unfold befalls
    have h1:=hfl (M.C.mapIdx (befallE M t)) (fun y hy=>by
     obtain ⟨i,hi,rfl⟩:=List.mem_iff_getElem.1 hy
     rw [List.getElem_mapIdx];exact hb _ _)
    rw [List.length_mapIdx] at h1
    have:=h.c6
    omega
   ·split
    ·simp
    ·rename_i h0
     have h0':(M.stand t).2=0:=by simpa using h0
     have hS:=h.stands h0'
     unfold mayE
     split
     ·exact hmo _ _ (hS.tries (.inl (by assumption))).len
     ·exact hmo _ _ (hS.tries (.inr (.inl (by assumption)))).len
     ·exact hmo _ _ (hS.tries (.inr (.inr (by assumption)))).len
     ·simp
     ·simp
     ·simp
set_option linter.unusedSimpArgs false in
theorem apply_not (w:World) (h:Md w o B M) (hI:Inv M) (he:M.e=0) (hx:x.ok) (hb:okB x=true) (hk:(decide (1<=x.k) && decide (x.k<=11))=true) (hm:En.at0 x ∉ M.moves x.t) :
  Calls Tryz.prog 9 #[ptrV B,enV x] w (AppPost o B M 171 w):=by
 obtain ⟨w2,hw2⟩:∃ w2,w2=(w.alloc (.cells (enA x) 39)).alloc (.cells #[.int .i64 0] 31):=⟨_,rfl⟩
 have hB2:Below w.heap.size w w2:=by rw [hw2];exact below2 w _ _
 have hX2:Blk w2 w.heap.size 39 (enA x):=by rw [hw2];exact (blk_new w _ _).alloc _
 have hE2:Boxed w2 (w.heap.size+1) 31 (.int .i64 0):=by
  have h1:=Boxed.new (w.alloc (.cells (enA x) 39)) 31 (.int .i64 0)
  rw [World.size_alloc] at h1
  rw [hw2];exact h1
 have hM2:=h.below hB2
 have hG2:Goes o o w w2:=Goes.of_below hB2
 have hE0:o (w.heap.size+1)=0:=h.off (by omega)
 have hhl:=halted_any w2 hM2
 have hmf:∀ (fn:Fn) (first cap:Array Value) (w:World),(Instr.makeFunc fn first cap).run Tryz.prog w=.ok (.func fn first cap) w:=fun _ _ _ _=>rfl
 have hA0:o w.heap.size=0:=h.off (Nat.le_refl _)
 have hne:(M.e != 0)=false:=by simpa using he
 rw [hne] at hhl
 have hck:=Ent.check_any x hx w2
 rw [show Ent.checkE x=0 by unfold Ent.checkE;rw [hb];rfl] at hck
 have hck':Calls Tryz.prog 31 #[enV x] w2 fun e w'=>e=.returned (.int .i64 0)/\Below w2.heap.size w2 w':=hck
 have hcm:=fun W=>commitE_any x.k W hx.k
 rw [hk] at hcm
 have hmv:=fun (W:World) (hW:Below w2.heap.size w2 W)=>mmoves_any x.t W (hM2.below hW) hI.sane
 have hml:(M.moves x.t).length<=1000:=moves_len hI x.t
 obtain ⟨L,hL⟩:∃ L,L=M.moves x.t:=⟨_,rfl⟩
 simp only [<- hL] at hmv
 rw [<- hL] at hml
 have HL:=Lib.hid hL
 have hkc:∀ W,Below w2.heap.size w2 W->W.cell? ⟨w.heap.size,1,none⟩=some (.int .u8 (x.k:Int)):=fun W hW=>Blk.cell (hX2.later hW hX2.lt) rfl
 obtain ⟨y,hy⟩:∃ y:En,y=En.at0 x:=⟨_,rfl⟩
 have hct:=fun (W:World) (v:Value) (hR:EnRow W v L)=>contains_any y v L W hR (by omega)
 have hyt:y.t=x.t:=by rw [hy];rfl
 have hyk:y.k=x.k:=by rw [hy];rfl
 have HY:=Lib.hid hy
 have x0:w2.cell? ⟨w.heap.size,0,none⟩=some (.int .i64 x.a):=Blk.cell hX2 rfl
 have x1:w2.cell? ⟨w.heap.size,1,none⟩=some (.int .u8 (x.k:Int)):=Blk.cell hX2 rfl
 have x2:w2.cell? ⟨w.heap.size,2,none⟩=some (.int .i64 x.w):=Blk.cell hX2 rfl
 have x3:w2.cell? ⟨w.heap.size,3,none⟩=some (.int .i64 x.t):=Blk.cell hX2 rfl
 have x4:w2.cell? ⟨w.heap.size,4,none⟩=some (.int .i64 x.p):=Blk.cell hX2 rfl
 have x5:w2.cell? ⟨w.heap.size,5,none⟩=some (.int .i64 x.c):=Blk.cell hX2 rfl
 have x6:w2.cell? ⟨w.heap.size,6,none⟩=some (.int .i64 x.b):=Blk.cell hX2 rfl
 have x7:w2.cell? ⟨w.heap.size,7,none⟩=some (.int .i64 x.q):=Blk.cell hX2 rfl
 have x8:w2.cell? ⟨w.heap.size,8,none⟩=some (.int .i64 x.v):=Blk.cell hX2 rfl
 have x9:w2.cell? ⟨w.heap.size,9,none⟩=some (.int .i64 x.u):=Blk.cell hX2 rfl
 have x10:w2.cell? ⟨w.heap.size,10,none⟩=some (.bool x.o):=Blk.cell hX2 rfl
 have x11:w2.cell? ⟨w.heap.size,11,none⟩=some (.int .i64 x.e):=Blk.cell hX2 rfl
 have x12:w2.cell? ⟨w.heap.size,12,none⟩=some (.int .u64 (x.s:Int)):=Blk.cell hX2 rfl
 have hF:decide (y ∈ L)=false:=by rw [hy,hL];simpa using hm
 simp only [hF] at hct
 clear hne he h hB2 hx hb hck hk hm hF hyk hmv hL hy
 go_enter_defers Tryz.func9,Tryz.ntmps9
 go_wp2_with fail
 rw [<- hw2]
 clear hw2
 refine (mneed_ok 1 w2).mono ?_
 rintro e w2 ⟨rfl,rfl⟩
 go_wp2_with fail
 refine hhl.mono ?_
 rintro e w2 ⟨rfl,rfl⟩
 go_wp2_with fail
 refine (mneed_ok 170 w2).mono ?_
 rintro e w2 ⟨rfl,rfl⟩
 go_wp2_with fail
 refine hck'.mono ?_
 rintro e w3 ⟨rfl,hb3⟩
 have hX3:=hX2.later hb3 hX2.lt
 have y0:w3.cell? ⟨w.heap.size,0,none⟩=some (.int .i64 x.a):=Blk.cell hX3 rfl
 have y1:=hkc w3 hb3
 have yf:=hX3.frozen
 clear hkc hck'
 go_wp2_with fail
 refine (hcm w3).mono ?_
 rintro e w3 ⟨rfl,rfl⟩
 go_wp2_with fail
 refine (mneed_ok 2 w3).mono ?_
 rintro e w3 ⟨rfl,rfl⟩
 go_upto_region 6 with fail
 have hX4:Blk (w3.setCell ⟨w.heap.size,0,none⟩ (.int .i64 0)) w.heap.size 39 (enA y):=by
  have:=hX3.set 0 (.int .i64 0)
  rw [HY.out];simpa [enA,En.at0] using this
 have hF4:Frm (fun j=>j=w.heap.size) w3 (w3.setCell ⟨w.heap.size,0,none⟩ (.int .i64 0)):=Mch.Frm.set (F:=fun j=>j=w.heap.size) (p:=⟨w.heap.size,0,none⟩) w3 _ rfl
 have hM4:=md_off (hM2.below hb3) hF4 hA0
 have hE4:Boxed (w3.setCell ⟨w.heap.size,0,none⟩ (.int .i64 0)) (w.heap.size+1) 31 (.int .i64 0):=Mch.boxed_frm (boxed_below hE2 hb3) hF4 (by omega)
 have hG4:Goes o o w (w3.setCell ⟨w.heap.size,0,none⟩ (.int .i64 0)):=by
  have h3:=hG2.trans (Goes.of_below hb3)
  exact ⟨fun _ _=>rfl,Mch.Frm.trans_new h3.frm hF4 (fun i hi=>.inr (by omega))⟩
 generalize w3.setCell ⟨w.heap.size,0,none⟩ (.int .i64 0)=w4 at hX4 hM4 hE4 hG4 ⊢
 clear hX3 hF4 y0 y1 yf hb3 hX2 hM2 hE2 hG2 hcm x0 x1 x2 x3 x4 x5 x6 x7 x8 x9 x10 x11 x12
 have r0:Below w4.heap.size w4 w4.drew:=(Below.refl _ _).drew
 have hmv':∀ W,Below w4.heap.size w4 W->Calls Tryz.prog 15 #[ptrV B,.int .i64 x.t] W fun e w'=>∃ v,e=.returned v/\EnRow w' v L/\Below W.heap.size W w':=fun W hW=>by rw [HL.out];exact (mmoves_any x.t W (hM4.below hW) hI.sane).mono (fun e w' ⟨v,e1,hR,hb⟩=>⟨v,e1,hR.1,hb⟩)
 refine wp_region_panD (AppAct (w.heap.size+1)) (fun ch w'=>ch = [{ v:=.iface 68 (.agg #[.int .i64 171]),recovered:=false }]/\Below w4.heap.size w4 w') ?hR ?_
 case hR=>
  rintro ch ⟨tm,df⟩ w' ⟨h1,h2⟩ ⟨rfl,h3⟩
  simp only at h1 h2
  subst h1
  go_simp
  exact apply_dies (w.heap.size+1) _ _ 171 0 h2 (boxed_below hE4 h3) (hM4.below h3) (hG4.trans (Goes.of_below h3)) hE0 (by omega)
 refine wp_region_held_drew (S:=fun W=>Blk W w.heap.size 39 (enA y)) (by kernel_rfl) hX4 (fun hHeld=>?_)
 refine takeD (i:=0) (d:=some 23) (v:=ptrV B) (by kernel_rfl) (by kernel_rfl) (by kernel_rfl) (by kernel_rfl) (appAct_put (by decide)) (fun oi h=>?_) hHeld ?_
 ·simp only [uA,uS,uZ,Option.some.injEq] at h
  subst h
  refine Or.inl ⟨by rfl,fun w' hSw=>?_⟩
  go_simp
 try simp only [Act.put,tA,tZ,tS]
 refine takeD (i:=1) (d:=some 24) (v:=.pointer (some ⟨w.heap.size,3,none⟩)) (by kernel_rfl) (by kernel_rfl) (by kernel_rfl) (by kernel_rfl) (appAct_put (by decide)) (fun oi h=>?_) hHeld ?_
 ·simp only [uA,uS,uZ,Option.some.injEq] at h
  subst h
  refine Or.inl ⟨by rfl,fun w' hSw=>?_⟩
  go_simp
 try simp only [Act.put,tA,tZ,tS]
 refine takeD (i:=2) (d:=some 25) (v:=.int .i64 x.t) (by kernel_rfl) (by kernel_rfl) (by kernel_rfl) (by kernel_rfl) (appAct_put (by decide)) (fun oi h=>?_) hHeld ?_
 ·simp only [uA,uS,uZ,Option.some.injEq] at h
  subst h
  refine Or.inl ⟨by rfl,fun w' hSw=>?_⟩
  have hx3:w'.cell? ⟨w.heap.size,3,none⟩=some (.int .i64 x.t):=by rw [<- hyt];exact Blk.cell hSw rfl
  go_simp
 try simp only [Act.put,tA,tZ,tS]
 refine takeD (i:=4) (d:=some 27) (v:=enV y) (by kernel_rfl) (by kernel_rfl) (by kernel_rfl) (by kernel_rfl) (appAct_put (by decide)) (fun oi h=>?_) hHeld ?_
 ·simp only [uA,uS,uZ,Option.some.injEq] at h
  subst h
  refine Or.inl ⟨by rfl,fun w' hSw=>?_⟩
  exact exec_load_row rfl rfl hSw Tryz.underlying39 rfl szEn
 try simp only [Act.put,tA,tZ,tS]
 refine wpAnyH_ready (rs:=[3]) (by kernel_rfl) (by simp) ?_
 refine AllReadyH.cons rfl (fun K hKK=>?_) AllReadyH.nil
 go_simp
 refine (hmv' _ r0).mono ?_
 rintro e w6 ⟨v6,rfl,hR6,hb6⟩
 obtain ⟨va,vc,rfl⟩:=hR6.slice
 have hb6':Below w4.heap.size w4 w6:=r0.trans (hb6.mono r0.size)
 refine hKK.out _ _ (hX4.later hb6' hX4.lt) (fun hHeld=>?_)
 clear hKK K
 try simp only [Act.put,tA,tZ,tS]
 refine wpAnyH_ready (rs:=[5]) (by kernel_rfl) (by simp) ?_
 refine AllReadyH.cons rfl (fun K hKK=>?_) AllReadyH.nil
 go_simp
 refine (hct _ _ hR6).mono ?_
 rintro e w7 ⟨rfl,hb7⟩
 have hb7':Below w4.heap.size w4 w7:=hb6'.trans (hb7.mono hb6'.size)
 refine hKK.out _ _ (hX4.later hb7' hX4.lt) (fun hHeld=>?_)
 clear hKK K
 try simp only [Act.put,tA,tZ,tS]
 refine wpAnyH_ready (rs:=[6]) (by kernel_rfl) (by simp) ?_
 refine AllReadyH.cons rfl (fun K hKK=>?_) AllReadyH.nil
 go_simp
 refine (mneed_bad 171 w7).mono ?_
 rintro e w7 ⟨rfl,rfl⟩
 exact ⟨⟨rfl,rfl⟩,rfl,hb7'⟩
end
end Go.Proofs.YtnfbncgfpmcpnaaGreat.Mdl
