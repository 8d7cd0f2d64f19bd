/-
  ReplayNext: its walks, part 19.
-/
import Derived.Test.YtnfbncgfpmcpnaaGreatQ16
set_option maxRecDepth 100000
set_option maxHeartbeats 12800000
namespace Go.Proofs.YtnfbncgfpmcpnaaGreat.Mch
open Go.RowKit
section
variable {C B m:Nat} {cl:Bool} {v0 v1:Value} {buf:List Int} {S R:List Wt}
theorem toSendK_meet (h:R.head?.isSome=true):toSendK false m buf R=2:=by cases R <;> simp_all [toSendK]
theorem toSendK_room (h:R.head?.isSome=false) (hb:buf.length<m):toSendK false m buf R=3:=by cases R <;> simp_all [toSendK]
theorem toSendK_full (h:R.head?.isSome=false) (hb : ¬ buf.length<m):toSendK false m buf R=6:=by cases R <;> simp_all [toSendK]
theorem ret_u8 {k:Nat} {n:Int} (h:(k:Int)=n):Ending.returned (Value.int .u8 n)=.returned (.int .u8 (k:Int)):=by rw [h]
theorem toSend_any (w:World) (h:ChAt w C B m cl v0 v1 buf S R) (hl:R.length<=1000) :
  Calls Tryz.prog 154 #[.pointer (some ⟨C,0,none⟩)] w fun e w'=>e=.returned (.int .u8 (toSendK cl m buf R:Int))/\Below w.heap.size w w':=by
 have hf:=first_any (s:=false) w h.r h.recvs hl
 obtain ⟨y,hy⟩:∃ y,y=headW R:=⟨_,rfl⟩
 obtain ⟨bm,hbm⟩:∃ b,b=R.head?.isSome:=⟨_,rfl⟩
 rw [<- hy, <- hbm] at hf
 clear hy
 unfold Wt.val at hf
 go_enter Tryz.func154,Tryz.ntmps154
 go_wp2_with fail
 refine hf.mono ?_
 clear hf
 rintro e w1 ⟨rfl,hb1⟩
 obtain ⟨w2,hw2⟩:∃ w2,w2=w1.alloc (.cells #[.int .i64 y.t,.int .i64 y.c,.int .i64 y.v] 145):=⟨_,rfl⟩
 have hb2:Below w.heap.size w w2:=by rw [hw2];exact Below.al hb1 hb1.size _
 have h2:=h.below hb2
 have hc:=h2.c
 have hb:=h2.b
 have hlen:=len_ring w2 h2.ring
 have hcap:=ccap_any w2 h2
 rw [hw2] at hc hb
 clear h h2 hb1
 cases cl with
 | true=>
  have HK:Hid (toSendK true m buf R=1):=Lib.hid rfl
  go_wp2_with fail
  go_ret
  rw [<- hw2]
  exact ⟨by rw [HK.out];rfl,hb2⟩
 | false=>
  cases hm:bm with
  | true=>
   have HK:=Lib.hid (toSendK_meet (m:=m) (buf:=buf) (hbm.symm.trans hm))
   clear hbm hm
   go_wp2_with fail
   go_ret
   rw [<- hw2]
   exact ⟨by rw [HK.out];rfl,hb2⟩
  | false=>
   have HK:Hid ((toSendK false m buf R:Int)=if buf.length<m then 3 else 6):=Lib.hid (by
    split
    ·rw [toSendK_room (hbm.symm.trans hm) (by assumption)];rfl
    ·rw [toSendK_full (hbm.symm.trans hm) (by assumption)];rfl)
   clear hbm hm
   by_cases hr:buf.length<m
   ·have hd:decide ((buf.length:Int)<(m:Int))=true:=by simp;omega
    have hd':(buf.length:Int)<(m:Int):=by omega
    have HK2:=Lib.hid (HK.out.trans (if_pos hr))
    clear HK hr
    go_wp2_with fail
    rw [<- hw2] at hc hb ⊢
    clear hw2
    refine hlen.mono ?_
    rintro e w2 ⟨rfl,rfl⟩
    go_wp2_with fail
    refine hcap.mono ?_
    rintro e w2 ⟨rfl,rfl⟩
    go_wp2_with fail
    go_ret
    exact ⟨ret_u8 HK2.out,hb2⟩
   ·have hd:decide ((buf.length:Int)<(m:Int))=false:=by simp;omega
    have hd' : ¬ (buf.length:Int)<(m:Int):=by omega
    have HK2:=Lib.hid (HK.out.trans (if_neg hr))
    clear HK hr
    go_wp2_with fail
    rw [<- hw2] at hc hb ⊢
    clear hw2
    refine hlen.mono ?_
    rintro e w2 ⟨rfl,rfl⟩
    go_wp2_with fail
    refine hcap.mono ?_
    rintro e w2 ⟨rfl,rfl⟩
    go_wp2_with fail
    go_ret
    exact ⟨ret_u8 HK2.out,hb2⟩
theorem toRecvK_meet (h:S.head?.isSome=true) (hm:m=0):toRecvK cl m buf S=2:=by cases S <;> simp_all [toRecvK]
theorem toRecvK_fill (h:S.head?.isSome=true) (hm:m ≠ 0):toRecvK cl m buf S=4:=by cases S <;> simp_all [toRecvK]
theorem toRecvK_buf (h:S.head?.isSome=false) (hb:buf ≠ []):toRecvK cl m buf S=3:=by cases S <;> simp_all [toRecvK]
theorem toRecvK_zero (h:S.head?.isSome=false) (hb:buf = []):toRecvK true m buf S=5:=by cases S <;> simp_all [toRecvK]
theorem toRecvK_wait (h:S.head?.isSome=false) (hb:buf = []):toRecvK false m buf S=6:=by cases S <;> simp_all [toRecvK]
theorem toRecv_any (w:World) (h:ChAt w C B m cl v0 v1 buf S R) (hl:S.length<=1000) :
  Calls Tryz.prog 155 #[.pointer (some ⟨C,0,none⟩)] w fun e w'=>e=.returned (.int .u8 (toRecvK cl m buf S:Int))/\Below w.heap.size w w':=by
 have hf:=first_any (s:=true) w h.s h.sends hl
 obtain ⟨y,hy⟩:∃ y,y=headW S:=⟨_,rfl⟩
 obtain ⟨bm,hbm⟩:∃ b,b=S.head?.isSome:=⟨_,rfl⟩
 rw [<- hy, <- hbm] at hf
 clear hy
 unfold Wt.val at hf
 go_enter Tryz.func155,Tryz.ntmps155
 go_wp2_with fail
 refine hf.mono ?_
 clear hf
 rintro e w1 ⟨rfl,hb1⟩
 obtain ⟨w2,hw2⟩:∃ w2,w2=w1.alloc (.cells #[.int .i64 y.t,.int .i64 y.c,.int .i64 y.v] 145):=⟨_,rfl⟩
 have hb2:Below w.heap.size w w2:=by rw [hw2];exact Below.al hb1 hb1.size _
 have h2:=h.below hb2
 have hc:=h2.c
 have hb:=h2.b
 have hlen:=len_ring w2 h2.ring
 have hcap:=ccap_any w2 h2
 rw [hw2] at hc hb
 clear h h2 hb1
 cases hm:bm with
 | true=>
  by_cases h0:m=0
  ·have HK:=Lib.hid (toRecvK_meet (cl:=cl) (buf:=buf) (hbm.symm.trans hm) h0)
   have hz:((m:Int) == 0)=true:=by simp [h0]
   have hz':(m:Int)=0:=by omega
   clear hbm hm h0
   go_wp2_with fail
   rw [<- hw2] at hc hb ⊢
   clear hw2
   refine hcap.mono ?_
   rintro e w2 ⟨rfl,rfl⟩
   go_wp2_with fail
   go_ret
   exact ⟨by rw [HK.out];rfl,hb2⟩
  ·have HK:=Lib.hid (toRecvK_fill (cl:=cl) (buf:=buf) (hbm.symm.trans hm) h0)
   have hz:((m:Int) == 0)=false:=by simp [h0]
   have hz' : ¬ (m:Int)=0:=by omega
   clear hbm hm h0
   go_wp2_with fail
   rw [<- hw2] at hc hb ⊢
   clear hw2
   refine hcap.mono ?_
   rintro e w2 ⟨rfl,rfl⟩
   go_wp2_with fail
   go_ret
   exact ⟨by rw [HK.out];rfl,hb2⟩
 | false=>
  by_cases h0:buf = []
  ·have hz:decide ((0:Int)<(buf.length:Int))=false:=by simp [h0]
   have hz' : ¬ (0:Int)<(buf.length:Int):=by simp [h0]
   have hz2 : ¬ 0<buf.length:=by simp [h0]
   cases cl with
   | true=>
    have HK:=Lib.hid (toRecvK_zero (m:=m) (hbm.symm.trans hm) h0)
    clear hbm hm h0
    go_wp2_with fail
    rw [<- hw2] at hc hb ⊢
    clear hw2
    refine hlen.mono ?_
    rintro e w2 ⟨rfl,rfl⟩
    go_wp2_with fail
    go_ret
    exact ⟨by rw [HK.out];rfl,hb2⟩
   | false=>
    have HK:=Lib.hid (toRecvK_wait (m:=m) (hbm.symm.trans hm) h0)
    clear hbm hm h0
    go_wp2_with fail
    rw [<- hw2] at hc hb ⊢
    clear hw2
    refine hlen.mono ?_
    rintro e w2 ⟨rfl,rfl⟩
    go_wp2_with fail
    go_ret
    exact ⟨by rw [HK.out];rfl,hb2⟩
  ·have hp:0<buf.length:=List.length_pos_iff.2 h0
   have hz:decide ((0:Int)<(buf.length:Int))=true:=by simp;omega
   have hz':(0:Int)<(buf.length:Int):=by omega
   have HK:=Lib.hid (toRecvK_buf (cl:=cl) (m:=m) (hbm.symm.trans hm) h0)
   clear hbm hm h0
   go_wp2_with fail
   rw [<- hw2] at hc hb ⊢
   clear hw2
   refine hlen.mono ?_
   rintro e w2 ⟨rfl,rfl⟩
   go_wp2_with fail
   go_ret
   exact ⟨by rw [HK.out];rfl,hb2⟩
theorem what_any (s:Bool) (w:World) (h:ChAt w C B m cl v0 v1 buf S R) (hlS:S.length<=1000) (hlR:R.length<=1000) :
  Calls Tryz.prog 140 #[.pointer (some ⟨C,0,none⟩),.bool s] w fun e w'=>e=.returned (.int .u8 (whatK cl m buf S R s:Int))/\Below w.heap.size w w':=by
 have h1:=toSend_any w h hlR
 have h2:=toRecv_any w h hlS
 clear h
 cases s with
 | true=>
  rw [show whatK cl m buf S R true=toSendK cl m buf R from rfl]
  go_enter Tryz.func140,Tryz.ntmps140
  go_wp2_with fail
  refine h1.mono ?_
  rintro e w1 ⟨rfl,hb1⟩
  go_wp2_with fail
  go_ret
  exact ⟨rfl,hb1⟩
 | false=>
  rw [show whatK cl m buf S R false=toRecvK cl m buf S from rfl]
  go_enter Tryz.func140,Tryz.ntmps140
  go_wp2_with fail
  refine h2.mono ?_
  rintro e w1 ⟨rfl,hb1⟩
  go_wp2_with fail
  go_ret
  exact ⟨rfl,hb1⟩
end
open Go.RowKit Go.Maps
def heldE:Value->Option (DataW Value × List MemPlace):=fun v=>some (.held v,[])
theorem keyK {i:Nat} (h:i<256):keyOf Tryz.prog 5 (.int .u8 (i:Int))=some (.int .u8 (i:Int)):=keyOf_int_mk Tryz.underlying5 (by
 have e1:IntKind.u8.min=0:=rfl
 have e2:IntKind.u8.max=255:=rfl
 simp [Lit.wf,e1,e2]
 omega)
theorem keyed:Keyed Tryz.prog 5:=int_keyed Tryz.underlying5
def zeroD:Value:=.agg #[.nilFunc,.nilFunc]
theorem zeroDE (w:World):(zeroValue 231).run Tryz.prog w=.ok zeroD w:=by kernel_rfl
theorem keyLit {i:Nat} (h:i<256):WideAt.IsKeyLit (.int .u8 (i:Int)):=keyed.key (keyK h)
theorem lit_ne {i j:Nat} (h:i ≠ j):(Lit.int .u8 (i:Int)) ≠ .int .u8 (j:Int):=fun e=>h (by
 simp only [Lit.int.injEq,true_and] at e
 omega)
theorem held_inj {a b:Value} (h:(DataW.held a:DataW Value)=.held b):a=b:=by cases h;rfl
def MapAt (W:World) (M:Nat) (g:Nat->Option Value) (c:Nat):Prop:=
 ∃ D:DataW Value,W.ownsMap Tryz.prog 5 heldE M c D/\Maps.size D=c/\∀ i:Nat,i<256->Maps.has D (.int .u8 (i:Int))=(g i).isSome/\D.atKey (.int .u8 (i:Int)) (.held zeroD)=.held ((g i).getD zeroD)
def upd (g:Nat->Option Value) (i:Nat) (x:Option Value):Nat->Option Value:=fun k=>if k=i then x else g k
theorem upd_same (g:Nat->Option Value) (i:Nat) (x:Option Value):upd g i x i=x:=by simp [upd]
theorem upd_ne {g:Nat->Option Value} {i k:Nat} {x:Option Value} (h:k ≠ i):upd g i x k=g k:=by simp [upd,h]
section
variable {W W':World} {M c:Nat} {g:Nat->Option Value}
theorem MapAt.lt (h:MapAt W M g c):M<W.heap.size:=by obtain ⟨_,h,_⟩:=h;exact h.lt
theorem MapAt.of_block (h:MapAt W M g c) (hb:W'.heap[M]?=W.heap[M]?):MapAt W' M g c:=by
 obtain ⟨D,⟨es,clock,h1,r⟩,h2⟩:=h
 exact ⟨D,⟨es,clock,hb.trans h1,r⟩,h2⟩
theorem mapAt_made (w:World):MapAt (w.alloc (.map #[] 0)) w.heap.size (fun _=>none) 0:=
 ⟨.map [],World.ownsMap_made w _ _ _,rfl,fun _ _=>⟨rfl,rfl⟩⟩
theorem MapAt.look (h:MapAt W M g c) {i:Nat} (hi:i<256):(Instr.lookup 233 (.map (some M)) (.int .u8 (i:Int)) true).run Tryz.prog W=.ok (.tuple #[(g i).getD zeroD,.bool (g i).isSome]) W:=by
 obtain ⟨D,hown,_,hD⟩:=h
 obtain ⟨v,ps,hrun,hv⟩:=hown.look_ok keyed Tryz.underlying233 (zeroDE W) (show heldE zeroD=some (.held zeroD,[]) from rfl) (keyK hi)
 obtain ⟨h1,h2⟩:=hD i hi
 simp only [heldE,Option.some.injEq,Prod.mk.injEq] at hv
 rw [h2] at hv
 rw [hrun,h1,held_inj hv.1]
theorem MapAt.store (h:MapAt W M g c) (hc:c<maxLen) {i:Nat} (hi:i<256) (x:Value) :
  ∃ W',(Instr.mapUpdate 233 (.map (some M)) (.int .u8 (i:Int)) x).run Tryz.prog W=.ok () W'/\MapAt W' M (upd g i (some x)) (if (g i).isSome then c else c+1)/\W.grownBy W' (some M):=by
 obtain ⟨D,hown,hs,hD⟩:=h
 obtain ⟨W',hrun,hown',hg⟩:=hown.update keyed Tryz.underlying233 hc (keyK hi) (show heldE x=some (.held x,[]) from rfl)
 have hT:=hown.tidy keyed
 have hsz:=size_put (k:=.int .u8 (i:Int)) hT (.held x)
 rw [(hD i hi).1,hs] at hsz
 refine ⟨W',hrun,⟨_,?_,hsz,fun k hk=>?_⟩,hg⟩
 ·obtain ⟨es,clock,hb,F,hn,hD'⟩:=hown'
  refine ⟨es,clock,hb,F,?_,hD'⟩
  rw [hD'] at hsz
  simp only [Maps.size,length_sorted,List.length_map,Array.length_toList] at hsz
  omega
 ·by_cases e:k=i
  ·subst e
   rw [upd_same]
   exact ⟨has_put_same hT.isMap (keyLit hk) _,atKey_put_same hT.isMap (keyLit hk) _ _⟩
  ·rw [upd_ne e]
   have e':=lit_ne e
   exact ⟨(has_put_other e' _).trans (hD k hk).1,(atKey_put_other e' _ _).trans (hD k hk).2⟩
end
def fnM (f:FuncId) (C:Nat):Value:=.func (.func f) #[.pointer (some ⟨C,0,none⟩)] #[]
def dV (C:Nat) (k:Nat):Value:=match k with
 | 2=>.agg #[fnM 156 C,fnM 157 C]
 | 3=>.agg #[fnM 158 C,fnM 159 C]
 | 4=>.agg #[.nilFunc,fnM 160 C]
 | _=>.agg #[.nilFunc,fnM 161 C]
def dG (C j:Nat):Nat->Option Value:=fun k=>if 2<=k/\k<j+2 then some (dV C k) else none
def DMap (W:World) (M C j:Nat):Prop:=MapAt W M (dG C j) j
section
variable {W W':World} {M C j:Nat}
theorem DMap.of_block (h:DMap W M C j) (hb:W'.heap[M]?=W.heap[M]?):DMap W' M C j:=MapAt.of_block h hb
theorem DMap.lt (h:DMap W M C j):M<W.heap.size:=MapAt.lt h
theorem dmap_made (w:World) (C:Nat):DMap (w.alloc (.map #[] 0)) w.heap.size C 0:=by
 have h:=mapAt_made w
 have e:dG C 0=fun _=>none:=by funext k;simp [dG]
 unfold DMap
 rw [e];exact h
theorem DMap.store (h:DMap W M C j) (hj:j<4) :
  ∃ W',(Instr.mapUpdate 233 (.map (some M)) (.int .u8 ((j+2:Nat):Int)) (dV C (j+2))).run Tryz.prog W=.ok () W'/\DMap W' M C (j+1)/\W.grownBy W' (some M):=by
 obtain ⟨W',hrun,r1,r2⟩:=MapAt.store h (by unfold maxLen;omega) (i:=j+2) (by omega) (dV C (j+2))
 have hno:(dG C j (j+2)).isSome=false:=by simp [dG]
 rw [hno] at r1
 have e:upd (dG C j) (j+2) (some (dV C (j+2)))=dG C (j+1):=by
  funext k
  by_cases e:k=j+2
  ·subst e;simp [upd,dG]
  ·rw [upd_ne e]
   unfold dG
   by_cases h1:2<=k/\k<j+2
   ·rw [if_pos h1,if_pos (by omega)]
   ·rw [if_neg h1,if_neg (by omega)]
 rw [e] at r1
 exact ⟨W',hrun,r1,r2⟩
theorem DMap.look (h:DMap W M C 4) {k:Nat} (hk:2<=k/\k<6):(Instr.lookup 233 (.map (some M)) (.int .u8 (k:Int)) true).run Tryz.prog W=.ok (.tuple #[dV C k,.bool true]) W:=by
 rw [MapAt.look h (by omega)]
 simp [dG,hk]
theorem DMap.not (h:DMap W M C 4) {k:Nat} (hk : ¬ (2<=k/\k<6)) (hl:k<256):(Instr.lookup 233 (.map (some M)) (.int .u8 (k:Int)) true).run Tryz.prog W=.ok (.tuple #[zeroD,.bool false]) W:=by
 rw [MapAt.look h hl]
 have e:dG C 4 k=none:=by unfold dG;rw [if_neg hk]
 rw [e];rfl
end
section
variable (w:World) {ops:Array Oper} {rest:List Oper} {o:Oper} {a:Act} {Q:Exit->Act->World->Prop}
theorem wpList_insD (hg:o.guard=none) (m x v:Operand) (hop:o.op=Op.insert 233 m x v)
  (hR:∃ M C j,a.eval m=.map (some M)/\DMap w M C j/\j<4/\a.eval x=.int .u8 ((j+2:Nat):Int)/\a.eval v=dV C (j+2)/\∀ w',DMap w' M C (j+1)->w.grownBy w' (some M)->wpList Tryz.prog ops Q rest (a.put o.dst undef) w') :
  wpList Tryz.prog ops Q (o::rest) a w:=by
 obtain ⟨M,C,j,hm,h,hc,hx,hy,hK⟩:=hR
 refine wpList_plain hg fun K' hK'=>?_
 obtain ⟨w',hrun,r1,r2⟩:=h.store hc
 unfold Oper.wp
 simp [execOp,hop,hm,hx,hy,Result.andThen]
 have hrun':(Instr.mapUpdate 233 (.map (some M)) (.int .u8 ((j:Int)+2)) (dV C (j+2))).run Tryz.prog w=.ok () w':=by simpa using hrun
 rw [hrun']
 exact hK' _ _ (hK w' r1 r2)
end
theorem below_ins {w0 w w':World} {M:Nat} (h:Below w0.heap.size w0 w) (hM:w0.heap.size<=M) (hb:w.grownBy w' (some M)):Below w0.heap.size w0 w':=
 h.grown hb h.size (fun k e=>by cases e;exact hM)
theorem deeds_any (C:Nat) (w:World) :
  Calls Tryz.prog 141 #[.pointer (some ⟨C,0,none⟩)] w fun e w'=>e=.returned (.map (some w.heap.size))/\DMap w' w.heap.size C 4/\Below w.heap.size w w':=by
 have hmf:∀ (fn:Fn) (first cap:Array Value) (w:World),(Instr.makeFunc fn first cap).run Tryz.prog w=.ok (.func fn first cap) w:=fun _ _ _ _=>rfl
 have hmm:=@run_makeMap Tryz.prog
 have hM:=dmap_made w C
 have hB:Below w.heap.size w (w.alloc (.map #[] 0)):=below1 w _
 go_enter Tryz.func141,Tryz.ntmps141
 go_wp2_with (refine wpList_insD _ rfl _ _ _ rfl ?_;refine ⟨w.heap.size,C,_,rfl,hM,?_,?_,?_,?_⟩;(next=>decide);(next=>rfl);(next=>rfl);go_frame;intro wx hMx hbx;have hBx:=below_ins hB (Nat.le_refl _) hbx;clear hB hM hbx;have hB:=hBx;have hM:=hMx;clear hBx hMx)
 go_ret
 exact ⟨rfl,hM,hB⟩
open Go.RowKit
theorem refill_deed {F:Nat->Prop} {C m:Nat} {cl:Bool} {buf:List Int} {t R:List Wt} {x:Wt} (w:World) (h:Chn w F C m cl buf (x::t) R) (hl:(x::t).length<=1000) :
  Calls Tryz.prog 160 #[.pointer (some ⟨C,0,none⟩)] w fun e w'=>e=.returned (Gt.val ⟨0,x,buf.head?.getD 0,true,x.v⟩)/\Chn w' (Fw F w) C m cl (putL m buf.tail x.v) t R/\Frm F w w':=by
 obtain ⟨wa,hwa⟩:∃ wa,wa=w.alloc (.cells #[.int .u8 0,.int .i64 0,.int .i64 0,.int .i64 0,.int .i64 0,.bool false,.int .i64 0] 184):=⟨_,rfl⟩
 have hba:Below w.heap.size w wa:=by rw [hwa];exact below1 w _
 have hg:GtAt wa w.heap.size .zero:=by rw [hwa];exact gtAt_new w .zero
 have hs:=hg.lt
 have ha:=h.fl.below hba
 go_enter Tryz.func160,Tryz.ntmps160
 obtain ⟨B,hb,htk,-⟩:=ha.ring
 obtain ⟨y,hy⟩:∃ y,y=buf.head?.getD 0:=⟨_,rfl⟩
 obtain ⟨te,hte⟩:∃ te,te=takeE buf:=⟨_,rfl⟩
 rw [<- hy, <- hte] at htk
 have HY:=Lib.hid hy
 rw [hwa] at hb
 clear hy hte
 go_wp2_with fail
 rw [<- hwa]
 clear hwa
 refine htk.mono ?_
 rintro e w1 ⟨rfl,hc1,hF1⟩
 have htk2:=take_any (t:=t) (x:=x) true w1 hc1 rfl hl
 clear htk hb
 go_wp2_with fail
 refine htk2.mono ?_
 rintro e w2 ⟨rfl,hc2,hF2⟩
 unfold Wt.val
 obtain ⟨w3,hw3⟩:∃ w3,w3=w2.alloc (.cells #[.int .i64 x.t,.int .i64 x.c,.int .i64 x.v] 145):=⟨_,rfl⟩
 have hb3:Below w2.heap.size w2 w3:=by rw [hw3];exact below1 w2 _
 have hx3:WtAt w3 w2.heap.size x:=by rw [hw3];exact wtAt_new w2 x
 have hc3:Chn w3.drew (Fl (Fw (Fl F w) w1) w2) C m cl buf.tail t R:=hc2.fl.below hb3.drew
 obtain ⟨B2,hbb,-, hput⟩:=hc3.ring
 have hp:=hput x.v
 obtain ⟨pe,hpe⟩:∃ pe,pe=putE m buf.tail:=⟨_,rfl⟩
 rw [<- hpe] at hp
 have hbb3:w3.cell? ⟨C,0,none⟩=some (.pointer (some ⟨B2,0,none⟩)):=hbb
 have x0:=hx3.c0
 have x1:=hx3.c1
 have x2:=hx3.c2
 have hx3d:WtAt w3.drew w2.heap.size x:=hx3
 have x2d:=hx3d.c2
 rw [hw3] at hbb3
 clear hpe htk2 hput
 go_wp2_with fail
 rw [<- hw3] at hbb3 ⊢
 clear hw3
 go_region_with (go_at_call 175;with_reducible refine hp.mono ?_;rintro e w4 ⟨rfl,hc4,hF4⟩)
 all_goals have hi:∀ k,Fl (Fw (Fl F w) w1) w2 k->Fw (Fl F w) wa k:=fun k e=>e.1.elim .inl (fun e=>.inr (Nat.le_trans hF1.size e))
 all_goals have h14:Frm (Fl F w) wa w4:=((hF1.next (hF2.mono (fun k e=>.inl e))).next (Frm.of_below hb3.drew _)).next (hF4.mono hi)
 all_goals have k2:=res_kept hg h14 (Below.refl _ _)
 all_goals have hx4:WtAt w4 w2.heap.size x:=hx3d.of_block (hF4.block _ hx3d.lt (fun e=>by have:=e.2;omega))
 all_goals have HE:=Lib.hid (deed_end hba hs (hc4.mono hi) h14 (Below.refl _ _) ⟨0,x,y,true,x.v⟩)
 all_goals have z0:=k2.frozen 0
 all_goals have z1:=k2.frozen 1
 all_goals have z2:=k2.frozen 2
 all_goals have z3:=k2.frozen 3
 all_goals have z4:=k2.frozen 4
 all_goals have z5:=k2.frozen 5
 all_goals have z6:=k2.frozen 6
 all_goals have y0:=k2.c0
 all_goals have y1:=k2.c1
 all_goals have y2:=k2.c2
 all_goals have y3:=k2.c3
 all_goals have y4:=k2.c4
 all_goals have y5:=k2.c5
 all_goals have y6:=k2.c6
 all_goals have X0:=hx4.c0
 all_goals have X1:=hx4.c1
 all_goals have X2:=hx4.c2
 all_goals clear x0 x1 x2 x2d hx3 hx3d hx4 hbb hbb3 hp hc3 hc4 hF4 hF1 hF2 hc1 hc2 h ha hg hi h14 hb3
 all_goals have k5:=k2.put7 ⟨0,x,y,true,x.v⟩
 all_goals clear k2
 all_goals go_wp2_with fail
 all_goals change bodyPost _ _ _ _ _ (put7 w4 w.heap.size ⟨0,x,y,true,x.v⟩)
 all_goals generalize put7 w4 w.heap.size ⟨0,x,y,true,x.v⟩=W5 at k5 HE ⊢
 all_goals refine bodyPost_ret (v:=Gt.val ⟨0,x,y,true,x.v⟩) (results_cell_row rfl _ _ w.heap.size 184 _ (0,0) _ rfl k5 Tryz.underlying184 rfl (by kernel_rfl)) rfl ?_
 all_goals rw [<- HY.out]
 all_goals exact ⟨rfl,HE.out.1,HE.out.2⟩
end Go.Proofs.YtnfbncgfpmcpnaaGreat.Mch
