/-
  ReplayNext: its walks, part 30.
-/
import Derived.Test.YtnfbncgfpmcpnaaGreatQ29
set_option maxRecDepth 100000
set_option maxHeartbeats 12800000
namespace Go.Proofs.YtnfbncgfpmcpnaaGreat.Mdl
open Go.RowKit
open Ent (En okB)
open Mch (Wt whatK putL toSendK toRecvK)
theorem nodup_le:∀ (N:Nat) (l:List Nat),l.Nodup->(∀ x ∈ l,x<N)->l.length<=N
 | 0,l,_,h=>by
  cases l with
  | nil=>exact Nat.le_refl _
  | cons x t=>exact absurd (h x (List.mem_cons_self ..)) (Nat.not_lt_zero _)
 | N+1,l,hn,h=>by
  have h1:(l.erase N).length<=N:=nodup_le N (l.erase N) (hn.erase N) (fun x hx=>by
   obtain ⟨hne,hm⟩:=(List.Nodup.mem_erase_iff hn).1 hx
   have:=h x hm
   omega)
  by_cases hm:N ∈ l
  ·rw [List.length_erase_of_mem hm] at h1;omega
  ·rw [List.erase_of_not_mem hm] at h1;omega
def WtOk (n:Nat) (x:Wt):Prop:=(0<=x.t/\x.t<(n:Int))/\(-1<=x.c/\x.c<6)/\I64b x.v
def Apart (l:List Wt):Prop:=l.Pairwise fun x y=>¬ (y.t=x.t/\y.c=x.c)
theorem apart_len {n:Nat} {l:List Wt} (ha:Apart l) (hw:∀ x ∈ l,WtOk n x):l.length<=n * 7:=by
 have h1:=nodup_le (n * 7) (l.map fun x=>x.t.toNat * 7+(x.c+1).toNat) ?_ ?_
 ·simpa using h1
 ·rw [List.Nodup,List.pairwise_map]
  refine List.Pairwise.imp_of_mem ?_ ha
  intro x y hx hy hne e
  obtain ⟨⟨a1,a2⟩,⟨a3,a4⟩,_⟩:=hw x hx
  obtain ⟨⟨b1,b2⟩,⟨b3,b4⟩,_⟩:=hw y hy
  exact hne ⟨by omega,by omega⟩
 ·intro k hk
  obtain ⟨x,hx,rfl⟩:=List.mem_map.1 hk
  obtain ⟨⟨a1,a2⟩,⟨a3,a4⟩,_⟩:=hw x hx
  omega
theorem putL_room {m:Nat} {l:List Int} (h:l.length<m) (v:Int):putL m l v=l ++ [v]:=by unfold putL;rw [if_neg (by omega)]
structure ChOk (n:Nat) (c:Cha):Prop where
 len:c.buf.length<=c.m
 full:c.S ≠ []->c.buf.length=c.m
 emp:c.R ≠ []->c.buf = []
 bv:∀ v ∈ c.buf,I64b v
 sw:∀ x ∈ c.S,WtOk n x
 rw_:∀ x ∈ c.R,WtOk n x
 su:Apart c.S
 ru:Apart c.R
section
variable {n:Nat} {c:Cha}
theorem ChOk.more (h:ChOk n c) {k:Nat} (hk:n<=k):ChOk k c:=
 ⟨h.len,h.full,h.emp,h.bv,fun x hx=>by obtain ⟨⟨a,b⟩,d⟩:=h.sw x hx;exact ⟨⟨a,by omega⟩,d⟩,fun x hx=>by obtain ⟨⟨a,b⟩,d⟩:=h.rw_ x hx;exact ⟨⟨a,by omega⟩,d⟩,h.su,h.ru⟩
theorem ChOk.close (h:ChOk n c):ChOk n c.close:=⟨h.len,h.full,h.emp,h.bv,h.sw,h.rw_,h.su,h.ru⟩
theorem unlike_sub (t:Int) (l:List Wt):∀ x ∈ unlike t l,x ∈ l:=fun _ hx=>(List.mem_filter.1 hx).1
theorem unlike_ne {t:Int} {l:List Wt} (h:unlike t l ≠ []):l ≠ []:=fun e=>h (by rw [e];rfl)
theorem apart_unlike {t:Int} {l:List Wt} (h:Apart l):Apart (unlike t l):=List.Pairwise.filter _ h
theorem ChOk.drop (h:ChOk n c) (t:Int):ChOk n (c.drop t):=
 ⟨h.len,fun e=>h.full (unlike_ne e),fun e=>h.emp (unlike_ne e),h.bv,fun x hx=>h.sw x (unlike_sub t _ x hx),fun x hx=>h.rw_ x (unlike_sub t _ x hx),apart_unlike h.su,apart_unlike h.ru⟩
theorem apart_wait {x:Wt} {l:List Wt} (h:Apart l):Apart (waitL x l):=by
 unfold waitL
 split
 ·exact h
 ·rename_i hn
  refine List.pairwise_append.2 ⟨h,List.pairwise_singleton _ _,?_⟩
  intro y hy z hz e
  obtain rfl:=List.mem_singleton.1 hz
  refine hn (List.any_eq_true.2 ⟨y,hy,?_⟩)
  unfold likeB
  simp [e.1,e.2]
theorem mem_wait {x y:Wt} {l:List Wt} (h:y ∈ waitL x l):y ∈ l \/ y=x:=by
 unfold waitL at h
 split at h
 ·exact .inl h
 ·rcases List.mem_append.1 h with h | h
  ·exact .inl h
  ·exact .inr (List.mem_singleton.1 h)
theorem ChOk.wait (h:ChOk n c) {x:Wt} (hx:WtOk n x) {s:Bool} (hs:s=true->c.buf.length=c.m) (hr:s=false->c.buf = []):ChOk n (c.wait s x):=by
 cases s with
 | true=>
  exact ⟨h.len,fun _=>hs rfl,h.emp,h.bv,fun y hy=>(mem_wait hy).elim (h.sw y) (fun e=>by rw [e];exact hx),h.rw_,apart_wait h.su,h.ru⟩
 | false=>
  exact ⟨h.len,h.full,fun _=>hr rfl,h.bv,h.sw,fun y hy=>(mem_wait hy).elim (h.rw_ y) (fun e=>by rw [e];exact hx),h.su,apart_wait h.ru⟩
theorem tail_mem {α:Type} {l:List α} {x:α} (h:x ∈ l.tail):x ∈ l:=List.mem_of_mem_tail h
theorem apart_tail {l:List Wt} (h:Apart l):Apart l.tail:=by cases l with
 | nil=>exact h
 | cons x t=>exact (List.pairwise_cons.1 h).2
theorem head_mem {l:List Wt} (h:l ≠ []):headW l ∈ l:=by cases l with
 | nil=>exact absurd rfl h
 | cons x t=>exact List.mem_cons_self ..
theorem ChOk.serve (h:ChOk n c) (s:Bool) {v:Int} (hv:I64b v):ChOk n (c.serve s v):=by
 obtain ⟨m,cl,buf,S,R⟩:=c
 obtain ⟨h1,h2,h3,h4,h5,h6,h7,h8⟩:=h
 simp only at h1 h2 h3 h4 h5 h6 h7 h8
 unfold Cha.serve
 split
 ·exact ⟨h1,h2,fun e=>h3 (fun e'=>e (by rw [e'];rfl)),h4,h5,fun x hx=>h6 x (tail_mem hx),h7,apart_tail h8⟩
 ·exact ⟨h1,fun e=>h2 (fun e'=>e (by rw [e'];rfl)),h3,h4,fun x hx=>h5 x (tail_mem hx),h6,apart_tail h7,h8⟩
 ·rename_i hw
  have hlt:buf.length<m/\R = []:=by
   simp only [Cha.what,whatK,toSendK] at hw
   split at hw
   ·split at hw
    ·exact absurd hw (by simp)
    ·split at hw
     ·exact absurd hw (by simp)
     ·split at hw
      ·rename_i hR hlt;exact ⟨hlt,by simpa using hR⟩
      ·exact absurd hw (by simp)
   ·contradiction
  have hS:S = []:=by
   cases S with
   | nil=>rfl
   | cons x t=>have:=h2 (by simp);omega
  have hR:=hlt.2
  subst hS hR
  rw [putL_room hlt.1]
  refine ⟨by simp;omega,fun e=>absurd rfl e,fun e=>absurd rfl e,?_,by simp,by simp,List.Pairwise.nil,List.Pairwise.nil⟩
  intro y hy
  rcases List.mem_append.1 hy with hy | hy
  ·exact h4 y hy
  ·rw [List.mem_singleton.1 hy];exact hv
 ·rename_i hw
  have hS:S = []/\buf ≠ []:=by
   simp only [Cha.what,whatK,toRecvK] at hw
   split at hw
   ·contradiction
   ·split at hw
    ·split at hw <;> exact absurd hw (by simp)
    ·rename_i hS
     split at hw
     ·rename_i hb;exact ⟨by simpa using hS,hb⟩
     ·split at hw <;> exact absurd hw (by simp)
  obtain ⟨hS,hb⟩:=hS
  have hR:R = []:=by
   cases R with
   | nil=>rfl
   | cons x t=>exact absurd (h3 (by simp)) hb
  subst hS hR
  exact ⟨by simp;omega,fun e=>absurd rfl e,fun e=>absurd rfl e,fun x hx=>h4 x (tail_mem hx),by simp,by simp,List.Pairwise.nil,List.Pairwise.nil⟩
 ·rename_i hw
  have hS:S ≠ []/\m ≠ 0:=by
   simp only [Cha.what,whatK,toRecvK] at hw
   split at hw
   ·contradiction
   ·split at hw
    ·rename_i hS
     split at hw
     ·exact absurd hw (by simp)
     ·rename_i hm;exact ⟨hS,hm⟩
    ·split at hw
     ·exact absurd hw (by simp)
     ·split at hw <;> exact absurd hw (by simp)
  obtain ⟨hS,hm⟩:=hS
  have hbl:=h2 hS
  have hR:R = []:=by
   cases R with
   | nil=>rfl
   | cons x t=>have:=h3 (by simp);rw [this] at hbl;simp at hbl;omega
  have htl:buf.tail.length<m:=by simp;omega
  rw [putL_room htl]
  refine ⟨by simp;omega,fun _=>by simp;omega,fun e=>absurd hR e,?_,fun x hx=>h5 x (tail_mem hx),h6,apart_tail h7,h8⟩
  intro y hy
  rcases List.mem_append.1 hy with hy | hy
  ·exact h4 y (tail_mem hy)
  ·rw [List.mem_singleton.1 hy];exact (h5 _ (head_mem hS)).2.2
 ·exact ⟨h1,h2,h3,h4,h5,h6,h7,h8⟩
theorem serve_cl (s:Bool) (v:Int):(c.serve s v).cl=c.cl:=by unfold Cha.serve;split <;> rfl
theorem wait_cl (s:Bool) (x:Wt):(c.wait s x).cl=c.cl:=by unfold Cha.wait;split <;> rfl
theorem wait_m (s:Bool) (x:Wt):(c.wait s x).m=c.m:=by unfold Cha.wait;split <;> rfl
theorem wait_buf (s:Bool) (x:Wt):(c.wait s x).buf=c.buf:=by unfold Cha.wait;split <;> rfl
theorem what_six (h:ChOk n c) {s:Bool} (hw:c.what s=6):c.cl=false/\(s=true->c.buf.length=c.m)/\(s=false->c.buf = []):=by
 obtain ⟨m,cl,buf,S,R⟩:=c
 have h1:=h.len
 simp only at h1
 cases s with
 | true=>
  simp only [Cha.what,whatK,toSendK,if_true] at hw
  split at hw
  ·exact absurd hw (by simp)
  ·rename_i hcl
   split at hw
   ·exact absurd hw (by simp)
   ·split at hw
    ·exact absurd hw (by simp)
    ·exact ⟨by simpa using hcl,fun _=>by simp only;omega,fun e=>by cases e⟩
 | false=>
  simp only [Cha.what,whatK,toRecvK,Bool.false_eq_true,if_false] at hw
  split at hw
  ·split at hw <;> exact absurd hw (by simp)
  ·split at hw
   ·exact absurd hw (by simp)
   ·rename_i hb
    split at hw
    ·exact absurd hw (by simp)
    ·rename_i hcl
     exact ⟨by simpa using hcl,(fun e=>by cases e),fun _=>by simpa using hb⟩
end
structure Inv (M:Mod):Prop where
 chk:checkW M.p=none
 small:Small M.p
 fit:Fit M.p
 mo:M.most<=32
 tl:M.T.length<=M.most
 cl:M.C.length=M.p.caps.length
 fr:∀ x ∈ M.T,Rok x.f
 ch:∀ c ∈ M.C,ChOk M.T.length c
 k:∀ (i:Nat) c,M.C[i]?=some c->c.cl=true->0<=M.K i/\M.K i<32
section
variable {M:Mod} {t:Int}
theorem chOk_zero (n:Nat):ChOk n Cha.zero:=⟨Nat.le_refl _,fun e=>absurd rfl e,fun e=>absurd rfl e,by simp [Cha.zero],by simp [Cha.zero],by simp [Cha.zero],List.Pairwise.nil,List.Pairwise.nil⟩
theorem Inv.chan (h:Inv M) (i:Int):ChOk M.T.length (M.ch i):=by
 unfold Mod.ch
 cases hc:M.C[i.toNat]? with
 | none=>exact chOk_zero _
 | some c=>exact h.ch c (List.mem_of_getElem? hc)
theorem Inv.c6 (h:Inv M):M.C.length<=6:=by rw [h.cl];exact caps_le h.chk
theorem Inv.t32 (h:Inv M):M.T.length<=32:=Nat.le_trans h.tl h.mo
theorem Inv.wl (h:Inv M) (i:Int):(M.ch i).S.length<=900/\(M.ch i).R.length<=900:=by
 have hc:=h.chan i
 have h1:=apart_len hc.su hc.sw
 have h2:=apart_len hc.ru hc.rw_
 have:=h.t32
 omega
theorem Inv.tfr (h:Inv M) (i:Nat):Rok (M.T[i]?.getD Pla.zero).f:=by
 cases hx:M.T[i]? with
 | none=>exact rok_zero
 | some x=>exact h.fr x (List.mem_of_getElem? hx)
theorem Inv.sfr (h:Inv M) (t:Int):Rok (M.stand t).1:=by
 unfold Mod.stand
 cases ht:M.task t with
 | none=>exact rok_zero
 | some y=>
  simp only
  split
  ·refine rok_runT h.fit (h.fr y ?_) _
   unfold Mod.task at ht
   split at ht
   ·exact List.mem_of_getElem? ht
   ·cases ht
  ·exact rok_zero
theorem Inv.wfr (h:Inv M) (t:Int):Rok (M.where_ t):=by
 unfold Mod.where_
 split
 ·exact h.sfr t
 ·exact h.tfr _
theorem Inv.stands (h:Inv M) (h0:(M.stand t).2=0):Stands M (M.stand t).1 (M.does t):=by
 obtain ⟨ha,h5,h10,_⟩:=does_at h.chk h0
 exact ⟨h5,h10,fun ho=>tries_in h.chk h.cl (h.sfr t) ha ho,fun ho=>by rw [h.cl];exact at_ch h.chk ha (.inr (.inr ho))⟩
theorem Inv.sane (h:Inv M):Sane M:=⟨h.chk,h.small,by have:=h.t32;omega,h.c6,h.wl,fun _ h0=>h.stands h0⟩
theorem Inv.setC (h:Inv M) (c:Int) {f:Cha->Cha} (hf:∀ n d,ChOk n d->ChOk n (f d)) (hcl:∀ d,(f d).cl=d.cl):Inv (M.setC c f) where
 chk:=h.chk
 small:=h.small
 fit:=h.fit
 mo:=h.mo
 tl:=h.tl
 cl:=by unfold Mod.setC;simp only [List.length_modify];exact h.cl
 fr:=h.fr
 ch:=fun d hd=>by
  obtain ⟨i,hi,rfl⟩:=List.mem_iff_getElem.1 hd
  have hi':i<M.C.length:=by simpa [Mod.setC] using hi
  have e:(M.setC c f).C[i]=if c.toNat=i then f M.C[i] else M.C[i]:=by simp only [Mod.setC,List.getElem_modify]
  rw [e]
  split
  ·exact hf _ _ (h.ch _ (List.getElem_mem hi'))
  ·exact h.ch _ (List.getElem_mem hi')
 k:=fun i d hd hc=>by
  simp only [Mod.setC,List.getElem?_modify] at hd
  cases hx:M.C[i]? with
  | none=>rw [hx] at hd;cases hd
  | some y=>
   rw [hx] at hd
   simp only [Option.map_some,Option.some.injEq,Option.map_eq_map] at hd
   refine h.k i y hx ?_
   subst hd
   split at hc
   ·rw [hcl] at hc;exact hc
   ·exact hc
theorem Inv.goOn (h:Inv M) {k v:Int} (hk:I64b k) (hv:I64b v) (ok:Bool):Inv (M.goOn t k v ok) where
 chk:=h.chk
 small:=h.small
 fit:=h.fit
 mo:=h.mo
 tl:=by unfold Mod.goOn;simp only [List.length_set];exact h.tl
 cl:=by unfold Mod.goOn;simp only [List.length_map];exact h.cl
 fr:=fun x hx=>by
  unfold Mod.goOn at hx
  rcases List.mem_or_eq_of_mem_set hx with hx | rfl
  ·exact h.fr x hx
  ·exact rok_done (h.wfr t) hk hv ok
 ch:=fun d hd=>by
  unfold Mod.goOn at hd ⊢
  simp only [List.length_set]
  obtain ⟨c,hc,rfl⟩:=List.mem_map.1 hd
  exact (h.ch c hc).drop t
 k:=fun i d hd hc=>by
  unfold Mod.goOn at hd
  simp only [List.getElem?_map] at hd
  cases hx:M.C[i]? with
  | none=>rw [hx] at hd;cases hd
  | some y=>
   rw [hx] at hd
   simp only [Option.map_some,Option.some.injEq] at hd
   refine h.k i y hx ?_
   subst hd
   exact hc
theorem Inv.setT (h:Inv M) (x:Pla) (hx:Rok x.f):Inv (M.setT t x):=
 ⟨h.chk,h.small,h.fit,h.mo,by unfold Mod.setT;simp only [List.length_set];exact h.tl,h.cl,fun y hy=>by
  rcases List.mem_or_eq_of_mem_set hy with hy | rfl
  ·exact h.fr y hy
  ·exact hx,fun d hd=>by unfold Mod.setT;simp only [List.length_set];exact h.ch d hd,h.k⟩
theorem Inv.blamed (h:Inv M) (t e:Int):Inv { M with who:=t,e:=e }:=⟨h.chk,h.small,h.fit,h.mo,h.tl,h.cl,h.fr,h.ch,h.k⟩
theorem Inv.closed (h:Inv M) (c:Int) (ht:0<=t/\t<32):Inv { M.setC c Cha.close with K:=fun j=>if j=c.toNat then t else M.K j } where
 chk:=h.chk
 small:=h.small
 fit:=h.fit
 mo:=h.mo
 tl:=h.tl
 cl:=by unfold Mod.setC;simp only [List.length_modify];exact h.cl
 fr:=h.fr
 ch:=fun d hd=>by
  obtain ⟨i,hi,rfl⟩:=List.mem_iff_getElem.1 hd
  have hi':i<M.C.length:=by simpa [Mod.setC] using hi
  have e:(M.setC c Cha.close).C[i]=if c.toNat=i then Cha.close M.C[i] else M.C[i]:=by simp only [Mod.setC,List.getElem_modify]
  rw [e]
  split
  ·exact (h.ch _ (List.getElem_mem hi')).close
  ·exact h.ch _ (List.getElem_mem hi')
 k:=fun i d hd hc=>by
  simp only [Mod.setC,List.getElem?_modify] at hd
  simp only
  by_cases e:i=c.toNat
  ·rw [if_pos e];exact ht
  ·rw [if_neg e]
   cases hx:M.C[i]? with
   | none=>rw [hx] at hd;cases hd
   | some y=>
    rw [hx] at hd
    simp only [Option.map_some,Option.some.injEq,Option.map_eq_map] at hd
    rw [if_neg (fun e'=>e e'.symm)] at hd
    subst hd
    exact h.k i y hx hc
theorem Inv.spawned (h:Inv M) (hm:M.T.length<M.most) (x:Pla) (hx:Rok x.f):Inv { M with T:=M.T ++ [x] }:=
 ⟨h.chk,h.small,h.fit,h.mo,by simp only [List.length_append,List.length_singleton];omega,h.cl,fun y hy=>by
  rcases List.mem_append.1 hy with hy | hy
  ·exact h.fr y hy
  ·rw [List.mem_singleton.1 hy];exact hx,fun d hd=>(h.ch d hd).more (by simp),h.k⟩
structure Waits (M N:Mod):Prop where
 p:N.p=M.p
 most:N.most=M.most
 T:N.T=M.T
 K:N.K=M.K
 who:N.who=M.who
 e:N.e=M.e
 len:N.C.length=M.C.length
 ch:∀ (i:Nat) d,N.C[i]?=some d->∃ c,M.C[i]?=some c/\d.buf=c.buf/\d.m=c.m/\d.cl=c.cl/\ChOk M.T.length d
theorem Inv.waits (h:Inv M):Waits M M:=⟨rfl,rfl,rfl,rfl,rfl,rfl,rfl,fun _ d hd=>⟨d,hd,rfl,rfl,rfl,h.ch d (List.mem_of_getElem? hd)⟩⟩
theorem Waits.at {N:Mod} (hN:Waits M N) {o:Opn} (ht:0<=t/\t<(M.T.length:Int)) (ho:OpOk M o) (hw:o.c = -1 \/ ((o.s=true->(M.ch o.c).buf.length=(M.ch o.c).m)/\(o.s=false->(M.ch o.c).buf = []))):Waits M (waitAt t N o):=by
 unfold waitAt
 split
 ·exact hN
 ·rename_i hc
  have hwc:=hw.resolve_left hc
  have hcc:=ho.c.resolve_left hc
  refine ⟨hN.p,hN.most,hN.T,hN.K,hN.who,hN.e,by unfold Mod.setC;simp only [List.length_modify];exact hN.len,?_⟩
  intro i d hd
  simp only [Mod.setC,List.getElem?_modify] at hd
  cases hx:N.C[i]? with
  | none=>rw [hx] at hd;cases hd
  | some y=>
   rw [hx] at hd
   simp only [Option.map_some,Option.some.injEq,Option.map_eq_map] at hd
   obtain ⟨c,h1,h2,h3,h4,h5⟩:=hN.ch i y hx
   by_cases e:o.c.toNat=i
   ·rw [if_pos e] at hd
    subst hd
    have hmc:M.ch o.c=c:=by unfold Mod.ch;rw [e,h1];rfl
    rw [hmc] at hwc
    refine ⟨c,h1,by rw [wait_buf];exact h2,by rw [wait_m];exact h3,by rw [wait_cl];exact h4,h5.wait ⟨ht,ho.b,ho.v⟩ (fun e=>?_) (fun e=>?_)⟩
    ·rw [h2,h3];exact hwc.1 e
    ·rw [h2];exact hwc.2 e
   ·rw [if_neg e] at hd
    subst hd
    exact ⟨c,h1,h2,h3,h4,h5⟩
theorem Waits.fold (ht:0<=t/\t<(M.T.length:Int)):∀ (l:List Opn) (N:Mod),Waits M N->(∀ o ∈ l,OpOk M o/\(o.c = -1 \/ ((o.s=true->(M.ch o.c).buf.length=(M.ch o.c).m)/\(o.s=false->(M.ch o.c).buf = []))))->Waits M (l.foldl (waitAt t) N)
 | [],_,h,_=>h
 | o::l,_,h,hl=>Waits.fold ht l _ (h.at ht (hl o (List.mem_cons_self ..)).1 (hl o (List.mem_cons_self ..)).2) (fun q hq=>hl q (List.mem_cons_of_mem _ hq))
theorem Waits.inv (h:Inv M) {N:Mod} (hN:Waits M N):Inv N where
 chk:=by rw [hN.p];exact h.chk
 small:=by rw [hN.p];exact h.small
 fit:=by rw [hN.p];exact h.fit
 mo:=by rw [hN.most];exact h.mo
 tl:=by rw [hN.most,hN.T];exact h.tl
 cl:=by rw [hN.len,hN.p];exact h.cl
 fr:=by rw [hN.T];exact h.fr
 ch:=fun d hd=>by
  obtain ⟨i,hi⟩:=List.mem_iff_getElem?.1 hd
  obtain ⟨c,_,_,_,_,h5⟩:=hN.ch i d hi
  rw [hN.T];exact h5
 k:=fun i d hd hc=>by
  obtain ⟨c,h1,_,_,h4,_⟩:=hN.ch i d hd
  rw [hN.K]
  exact h.k i c h1 (by rw [<- h4];exact hc)
end
open Go.RowKit
open Ent (En okB)
open Mch (Wt whatK putL toSendK toRecvK)
theorem sm_b {i:Int} (h : -1<=i) (h2:i<1000):Ent.I64b i:=by unfold Ent.I64b;omega
theorem z_b:Ent.I64b 0:=by unfold Ent.I64b;omega
section
variable {t c b v u p q e:Int} {o:Bool} {k:Nat}
theorem ok_send (ht:0<=t/\t<32) (hc:0<=c/\c<6) (hb : -1<=b/\b<6):okB ⟨0,1,0,t,0,c,b,0,v,0,false,0,0⟩=true:=by
 refine Ent.okB_iff.2 ⟨rfl,?_,Int.le_refl _,rfl⟩
 simp [Ent.namesOf,Ent.mayN,Ent.En.get]
 omega
theorem ok_recv (ht:0<=t/\t<32) (hc:0<=c/\c<6) (hb : -1<=b/\b<6):okB ⟨0,2,0,t,0,c,b,0,v,0,o,0,0⟩=true:=by
 cases o <;> (refine Ent.okB_iff.2 ⟨rfl,?_,Int.le_refl _,rfl⟩;simp [Ent.namesOf,Ent.mayN,Ent.En.get,Ent.flagI];omega)
theorem ok_meet (ht:0<=t/\t<32) (hp:0<=p/\p<32) (hc:0<=c/\c<6) (hb : -1<=b/\b<6) (hq : -1<=q/\q<6):okB ⟨0,3,0,t,p,c,b,q,v,0,o,0,0⟩=true:=by
 cases o <;> (refine Ent.okB_iff.2 ⟨rfl,?_,Int.le_refl _,rfl⟩;simp [Ent.namesOf,Ent.mayN,Ent.En.get,Ent.flagI];omega)
theorem ok_refill (ht:0<=t/\t<32) (hp:0<=p/\p<32) (hc:0<=c/\c<6) (hb : -1<=b/\b<6) (hq : -1<=q/\q<6):okB ⟨0,4,0,t,p,c,b,q,v,u,false,0,0⟩=true:=by
 refine Ent.okB_iff.2 ⟨rfl,?_,Int.le_refl _,rfl⟩
 simp [Ent.namesOf,Ent.mayN,Ent.En.get]
 omega
theorem ok_close (ht:0<=t/\t<32) (hc:0<=c/\c<6):okB ⟨0,5,0,t,0,c,0,0,0,0,false,0,0⟩=true:=by
 refine Ent.okB_iff.2 ⟨rfl,?_,Int.le_refl _,rfl⟩
 simp [Ent.namesOf,Ent.mayN,Ent.En.get]
 omega
theorem ok_wake (ht:0<=t/\t<32) (hp:0<=p/\p<32) (hc:0<=c/\c<6) (hb : -1<=b/\b<6):okB ⟨0,6,0,t,p,c,b,0,0,0,false,0,0⟩=true:=by
 refine Ent.okB_iff.2 ⟨rfl,?_,Int.le_refl _,rfl⟩
 simp [Ent.namesOf,Ent.mayN,Ent.En.get]
 omega
theorem ok_bare (ht:0<=t/\t<32) (hk:k=7 \/ k=8 \/ k=10):okB (bareE k t)=true:=by
 rcases hk with rfl | rfl | rfl <;> (refine Ent.okB_iff.2 ⟨rfl,?_,Int.le_refl _,rfl⟩;simp [bareE,Ent.namesOf,Ent.mayN,Ent.En.get];omega)
theorem ok_spawn (ht:0<=t/\t<32) (hp:0<=p/\p<32) (hb:0<=b/\b<8):okB ⟨0,9,0,t,p,0,b,0,0,0,false,0,0⟩=true:=by
 refine Ent.okB_iff.2 ⟨rfl,?_,Int.le_refl _,rfl⟩
 simp [Ent.namesOf,Ent.mayN,Ent.En.get]
 omega
theorem ok_fault (ht:0<=t/\t<32) (hp : -1<=p/\p<32) (he:e=140 \/ e=141 \/ e=142 \/ e=143):okB (faultE t p e)=true:=by
 refine Ent.okB_iff.2 ⟨rfl,?_,Int.le_refl _,rfl⟩
 simp [faultE,Ent.namesOf,Ent.mayN,Ent.En.get]
 omega
end
theorem ok_at0 {x:En}:okB x=true ↔ okB (En.at0 x)=true/\0<=x.a:=by
 obtain ⟨a,k,w,t,p,c,b,q,v,u,o,e,s⟩:=x
 unfold En.at0
 rw [Ent.okB_iff,Ent.okB_iff]
 have hb:∀ (y:En) (ns:List Nat) (z:En),(ns.foldl (Ent.bareStep y) z).a=z.a:=fun y ns=>by
  induction ns with
  | nil=>intro z;rfl
  | cons n ns ih=>intro z;rw [List.foldl_cons,ih];exact Ent.put_a _ _ _
 have hg:∀ n,Ent.En.get ⟨a,k,w,t,p,c,b,q,v,u,o,e,s⟩ n=Ent.En.get ⟨0,k,w,t,p,c,b,q,v,u,o,e,s⟩ n:=fun n=>by
  unfold Ent.En.get;split <;> rfl
 have hput:∀ (n:Nat) (z:Int) (y y':En),{ y with a:=0 }=y'->{ y.put n z with a:=0 }=y'.put n z:=fun n z y y' e=>by
  subst e;unfold Ent.En.put;split <;> rfl
 have hf:∀ (ns:List Nat) (y y':En),{ y with a:=0 }=y'->{ ns.foldl (Ent.bareStep ⟨a,k,w,t,p,c,b,q,v,u,o,e,s⟩) y with a:=0 }=ns.foldl (Ent.bareStep ⟨0,k,w,t,p,c,b,q,v,u,o,e,s⟩) y':=fun ns=>by
  induction ns with
  | nil=>intro y y' e;exact e
  | cons n ns ih=>
   intro y y' e
   rw [List.foldl_cons,List.foldl_cons]
   refine ih _ _ ?_
   unfold Ent.bareStep
   rw [hg n]
   exact hput _ _ _ _ e
 have h0 : { Ent.bareOf ⟨a,k,w,t,p,c,b,q,v,u,o,e,s⟩ with a:=0 }=Ent.bareOf ⟨0,k,w,t,p,c,b,q,v,u,o,e,s⟩:=hf _ _ _ rfl
 have ha:(Ent.bareOf ⟨a,k,w,t,p,c,b,q,v,u,o,e,s⟩).a=a:=hb _ _ _
 simp only [hg]
 constructor
 ·rintro ⟨h1,h2,h3,h4⟩
  refine ⟨⟨h1,h2,Int.le_refl _,?_⟩,h3⟩
  rw [<- h0,h4]
 ·rintro ⟨⟨h1,h2,_,h4⟩,h3⟩
  refine ⟨h1,h2,h3,?_⟩
  rw [<- h0] at h4
  generalize Ent.bareOf ⟨a,k,w,t,p,c,b,q,v,u,o,e,s⟩=B at h4 ha ⊢
  obtain ⟨a',k',w',t',p',c',b',q',v',u',o',e',s'⟩:=B
  simp only [Ent.En.mk.injEq] at h4 ha ⊢
  exact ⟨ha,h4.2⟩
inductive Mv (t:Int) (o:Opn) (c:Cha):En->Prop
 | fault (hs:o.s=true) (hcl:c.cl=true):Mv t o c (faultE t (-1) 140)
 | give (hs:o.s=true) (hw:c.what true=2) (hR:c.R ≠ []):Mv t o c ⟨0,3,0,t,(headW c.R).t,o.c,o.b,(headW c.R).c,o.v,0,true,0,0⟩
 | fetch (hs:o.s=false) (hw:c.what false=2) (hS:c.S ≠ []) (hm:c.m=0):Mv t o c ⟨0,3,0,t,(headW c.S).t,o.c,o.b,(headW c.S).c,(headW c.S).v,0,false,0,0⟩
 | put (hs:o.s=true) (hw:c.what true=3) (hlt:c.buf.length<c.m):Mv t o c ⟨0,1,0,t,0,o.c,o.b,0,o.v,0,false,0,0⟩
 | get (hs:o.s=false) (hw:c.what false=3) (hb:c.buf ≠ []):Mv t o c ⟨0,2,0,t,0,o.c,o.b,0,c.buf.head?.getD 0,0,true,0,0⟩
 | refill (hs:o.s=false) (hw:c.what false=4) (hS:c.S ≠ []) (hm:c.m ≠ 0):Mv t o c ⟨0,4,0,t,(headW c.S).t,o.c,o.b,(headW c.S).c,c.buf.head?.getD 0,(headW c.S).v,false,0,0⟩
 | zero (hs:o.s=false) (hw:c.what false=5) (hb:c.buf = []):Mv t o c ⟨0,2,0,t,0,o.c,o.b,0,0,0,false,0,0⟩
theorem mv_of (t:Int) (o:Opn) (c:Cha) (h:c.what o.s ≠ 6):Mv t o c (moveE t o c):=by
 obtain ⟨b,s,ch,v⟩:=o
 obtain ⟨m,cl,buf,S,R⟩:=c
 cases s with
 | true=>
  cases cl with
  | true=>
   have hw:(Cha.mk m true buf S R).what true=1:=by simp [Cha.what,whatK,toSendK]
   have he:moveE t ⟨b,true,ch,v⟩ ⟨m,true,buf,S,R⟩=faultE t (-1) 140:=by simp [moveE,Cha.gotE,hw]
   rw [he];exact .fault rfl rfl
  | false=>
   cases R with
   | cons x r=>
    have hw:(Cha.mk m false buf S (x::r)).what true=2:=by simp [Cha.what,whatK,toSendK]
    have he:moveE t ⟨b,true,ch,v⟩ ⟨m,false,buf,S,x::r⟩=⟨0,3,0,t,x.t,ch,b,x.c,v,0,true,0,0⟩:=by simp [moveE,Cha.gotE,Cha.got,hw,headW]
    rw [he];exact .give rfl hw (by simp)
   | nil=>
    by_cases hlt:buf.length<m
    ·have hw:(Cha.mk m false buf S []).what true=3:=by simp [Cha.what,whatK,toSendK,hlt]
     have he:moveE t ⟨b,true,ch,v⟩ ⟨m,false,buf,S,[]⟩=⟨0,1,0,t,0,ch,b,0,v,0,false,0,0⟩:=by simp [moveE,Cha.gotE,Cha.got,hw]
     rw [he];exact .put rfl hw hlt
    ·exact absurd (by simp [Cha.what,whatK,toSendK,hlt]) h
 | false=>
  cases S with
  | cons x r=>
   by_cases hm:m=0
   ·have hw:(Cha.mk m cl buf (x::r) R).what false=2:=by simp [Cha.what,whatK,toRecvK,hm]
    have he:moveE t ⟨b,false,ch,v⟩ ⟨m,cl,buf,x::r,R⟩=⟨0,3,0,t,x.t,ch,b,x.c,x.v,0,false,0,0⟩:=by simp [moveE,Cha.gotE,Cha.got,hw,headW]
    rw [he];exact .fetch rfl hw (by simp) hm
   ·have hw:(Cha.mk m cl buf (x::r) R).what false=4:=by simp [Cha.what,whatK,toRecvK,hm]
    have he:moveE t ⟨b,false,ch,v⟩ ⟨m,cl,buf,x::r,R⟩=⟨0,4,0,t,x.t,ch,b,x.c,buf.head?.getD 0,x.v,false,0,0⟩:=by simp [moveE,Cha.gotE,Cha.got,hw,headW]
    rw [he];exact .refill rfl hw (by simp) hm
  | nil=>
   cases buf with
   | cons y r=>
    have hw:(Cha.mk m cl (y::r) [] R).what false=3:=by simp [Cha.what,whatK,toRecvK]
    have he:moveE t ⟨b,false,ch,v⟩ ⟨m,cl,y::r,[],R⟩=⟨0,2,0,t,0,ch,b,0,y,0,true,0,0⟩:=by simp [moveE,Cha.gotE,Cha.got,hw]
    rw [he];exact .get rfl hw (by simp)
   | nil=>
    cases cl with
    | true=>
     have hw:(Cha.mk m true [] [] R).what false=5:=by simp [Cha.what,whatK,toRecvK]
     have he:moveE t ⟨b,false,ch,v⟩ ⟨m,true,[],[],R⟩=⟨0,2,0,t,0,ch,b,0,0,0,false,0,0⟩:=by simp [moveE,Cha.gotE,Cha.got,hw]
     rw [he];exact .zero rfl hw rfl
    | false=>exact absurd (by simp [Cha.what,whatK,toRecvK]) h
structure MvOk (M:Mod) (t:Int) (x:En):Prop where
 tt:x.t=t
 aa:x.a=0
 k:1<=x.k/\x.k<=11
 ok:okB x=true
 wf:x.ok
 ch:x.k<=5->0<=x.c/\x.c<(M.C.length:Int)
 pe:x.k=3 \/ x.k=4->0<=x.p/\x.p<(M.T.length:Int)
 st:x.k=7 \/ x.k=8->(M.stand t).2=0
 s7:x.k=7->(M.does t).o=8
 s8:x.k=8->((M.does t).o=5 \/ (M.does t).o=6 \/ (M.does t).o=8)/\commits M t (tries M (M.stand t).1 (M.does t)) = []
 s9:x.k=9->M.T.length<M.most
 s5:x.k=1 \/ x.k=2 \/ x.k=3 \/ x.k=4->∃ o,OpOk M o/\o.c=x.c/\Mv t o (M.ch x.c) x
section
variable {M:Mod} {t:Int}
theorem kn {k n:Nat} {P:Prop} (e:k=n) (h:k ≠ n):P:=absurd e h
theorem mv_ok (h:Inv M) (ht:0<=t/\t<(M.T.length:Int)) {o:Opn} (ho:OpOk M o) (hr:ready M o=true):MvOk M t (moveE t o (M.ch o.c)):=by
 have hr':o.c ≠ -1/\(M.ch o.c).what o.s ≠ 6:=by simpa [ready] using hr
 have hc0:=ho.c.resolve_left hr'.1
 have hb:=ho.b
 have hv:Ent.I64b o.v:=ho.v
 have hch:=h.chan o.c
 have hmv:=mv_of t o (M.ch o.c) hr'.2
 have h32:=h.t32
 have h6:=h.c6
 have t32:0<=t/\t<32:=by omega
 have c6:0<=o.c/\o.c<6:=by omega
 have tb:Ent.I64b t:=sm_b (by omega) (by omega)
 have cb:Ent.I64b o.c:=sm_b (by omega) (by omega)
 have bb:Ent.I64b o.b:=sm_b (by omega) (by omega)
 have hbuf:∀ l:List Int,(∀ v ∈ l,I64b v)->Ent.I64b (l.head?.getD 0):=fun l hl=>by
  cases l with
  | nil=>exact z_b
  | cons y r=>exact hl y (List.mem_cons_self ..)
 generalize moveE t o (M.ch o.c)=x at hmv
 have hmv2:=hmv
 cases hmv with
 | fault hs hcl=>
  exact ⟨rfl,rfl,⟨by first | (simp;done) | (simp [faultE];done),by first | (simp;done) | (simp [faultE];done)⟩,ok_fault t32 ⟨by first | (simp;done) | (simp [faultE];done),by first | (simp;done) | (simp [faultE];done)⟩ (.inl rfl),⟨z_b,by first | (simp;done) | (simp [faultE];done),z_b,tb,sm_b (by first | (simp;done) | (simp [faultE];done)) (by first | (simp;done) | (simp [faultE];done)),z_b,z_b,z_b,z_b,z_b,sm_b (by first | (simp;done) | (simp [faultE];done)) (by first | (simp;done) | (simp [faultE];done)),by first | (simp;done) | (simp [faultE];done)⟩,
   fun e=>absurd e (by simp [faultE]),fun e=>absurd e (by simp [faultE]),fun e=>absurd e (by simp [faultE]),fun e=>absurd e (by simp [faultE]),fun e=>absurd e (by simp [faultE]),fun e=>absurd e (by simp [faultE]),fun e=>absurd e (by simp [faultE])⟩
 | give hs hw hR=>
  obtain ⟨⟨p0,p1⟩,⟨q0,q1⟩,_⟩:=hch.rw_ _ (head_mem hR)
  have pb:Ent.I64b (headW (M.ch o.c).R).t:=sm_b (by omega) (by omega)
  have qb:Ent.I64b (headW (M.ch o.c).R).c:=sm_b (by omega) (by omega)
  exact ⟨rfl,rfl,⟨by first | (simp;done) | (simp [faultE];done),by first | (simp;done) | (simp [faultE];done)⟩,ok_meet t32 ⟨p0,by omega⟩ c6 hb ⟨q0,q1⟩,⟨z_b,by first | (simp;done) | (simp [faultE];done),z_b,tb,pb,cb,bb,qb,hv,z_b,z_b,by first | (simp;done) | (simp [faultE];done)⟩,
   fun _=>hc0,fun _=>⟨p0,p1⟩,fun e=>absurd e (by simp),fun e=>absurd e (by simp),fun e=>absurd e (by simp),fun e=>absurd e (by simp),fun _=>⟨o,ho,rfl,hmv2⟩⟩
 | fetch hs hw hS hm=>
  obtain ⟨⟨p0,p1⟩,⟨q0,q1⟩,hv2⟩:=hch.sw _ (head_mem hS)
  have pb:Ent.I64b (headW (M.ch o.c).S).t:=sm_b (by omega) (by omega)
  have qb:Ent.I64b (headW (M.ch o.c).S).c:=sm_b (by omega) (by omega)
  exact ⟨rfl,rfl,⟨by first | (simp;done) | (simp [faultE];done),by first | (simp;done) | (simp [faultE];done)⟩,ok_meet t32 ⟨p0,by omega⟩ c6 hb ⟨q0,q1⟩,⟨z_b,by first | (simp;done) | (simp [faultE];done),z_b,tb,pb,cb,bb,qb,hv2,z_b,z_b,by first | (simp;done) | (simp [faultE];done)⟩,
   fun _=>hc0,fun _=>⟨p0,p1⟩,fun e=>absurd e (by simp),fun e=>absurd e (by simp),fun e=>absurd e (by simp),fun e=>absurd e (by simp),fun _=>⟨o,ho,rfl,hmv2⟩⟩
 | put hs hw hlt=>
  exact ⟨rfl,rfl,⟨by first | (simp;done) | (simp [faultE];done),by first | (simp;done) | (simp [faultE];done)⟩,ok_send t32 c6 hb,⟨z_b,by first | (simp;done) | (simp [faultE];done),z_b,tb,z_b,cb,bb,z_b,hv,z_b,z_b,by first | (simp;done) | (simp [faultE];done)⟩,
   fun _=>hc0,fun e=>absurd e (by simp),fun e=>absurd e (by simp),fun e=>absurd e (by simp),fun e=>absurd e (by simp),fun e=>absurd e (by simp),fun _=>⟨o,ho,rfl,hmv2⟩⟩
 | get hs hw hb'=>
  exact ⟨rfl,rfl,⟨by first | (simp;done) | (simp [faultE];done),by first | (simp;done) | (simp [faultE];done)⟩,ok_recv t32 c6 hb,⟨z_b,by first | (simp;done) | (simp [faultE];done),z_b,tb,z_b,cb,bb,z_b,hbuf _ hch.bv,z_b,z_b,by first | (simp;done) | (simp [faultE];done)⟩,
   fun _=>hc0,fun e=>absurd e (by simp),fun e=>absurd e (by simp),fun e=>absurd e (by simp),fun e=>absurd e (by simp),fun e=>absurd e (by simp),fun _=>⟨o,ho,rfl,hmv2⟩⟩
 | refill hs hw hS hm=>
  obtain ⟨⟨p0,p1⟩,⟨q0,q1⟩,hv2⟩:=hch.sw _ (head_mem hS)
  have pb:Ent.I64b (headW (M.ch o.c).S).t:=sm_b (by omega) (by omega)
  have qb:Ent.I64b (headW (M.ch o.c).S).c:=sm_b (by omega) (by omega)
  exact ⟨rfl,rfl,⟨by first | (simp;done) | (simp [faultE];done),by first | (simp;done) | (simp [faultE];done)⟩,ok_refill t32 ⟨p0,by omega⟩ c6 hb ⟨q0,q1⟩,⟨z_b,by first | (simp;done) | (simp [faultE];done),z_b,tb,pb,cb,bb,qb,hbuf _ hch.bv,hv2,z_b,by first | (simp;done) | (simp [faultE];done)⟩,
   fun _=>hc0,fun _=>⟨p0,p1⟩,fun e=>absurd e (by simp),fun e=>absurd e (by simp),fun e=>absurd e (by simp),fun e=>absurd e (by simp),fun _=>⟨o,ho,rfl,hmv2⟩⟩
 | zero hs hw hb'=>
  exact ⟨rfl,rfl,⟨by first | (simp;done) | (simp [faultE];done),by first | (simp;done) | (simp [faultE];done)⟩,ok_recv t32 c6 hb,⟨z_b,by first | (simp;done) | (simp [faultE];done),z_b,tb,z_b,cb,bb,z_b,z_b,z_b,z_b,by first | (simp;done) | (simp [faultE];done)⟩,
   fun _=>hc0,fun e=>absurd e (by simp),fun e=>absurd e (by simp),fun e=>absurd e (by simp),fun e=>absurd e (by simp),fun e=>absurd e (by simp),fun _=>⟨o,ho,rfl,hmv2⟩⟩
theorem bare_ok {k:Nat} (h:Inv M) (ht:0<=t/\t<(M.T.length:Int)) (hk:k=7 \/ k=8 \/ k=10) (st:k=7 \/ k=8->(M.stand t).2=0) (s7:k=7->(M.does t).o=8)
  (s8:k=8->((M.does t).o=5 \/ (M.does t).o=6 \/ (M.does t).o=8)/\commits M t (tries M (M.stand t).1 (M.does t)) = []):MvOk M t (bareE k t):=by
 have h32:=h.t32
 have t32:0<=t/\t<32:=by omega
 have k1 : ¬ k<=5:=by omega
 exact ⟨rfl,rfl,by show 1<=k/\k<=11;omega,ok_bare t32 hk,⟨z_b,by show k<256;omega,z_b,sm_b (i:=t) (by omega) (by omega),z_b,z_b,z_b,z_b,z_b,z_b,z_b,by show (0:Nat)<_;omega⟩,
  fun e=>absurd e k1,fun e=>by have:k=3 \/ k=4:=e;omega,st,s7,s8,fun e=>by have:k=9:=e;omega,fun e=>by have:k=1 \/ k=2 \/ k=3 \/ k=4:=e;omega⟩
theorem fault_ok {p e:Int} (h:Inv M) (ht:0<=t/\t<(M.T.length:Int)) (hp : -1<=p/\p<32) (he:e=140 \/ e=141 \/ e=142 \/ e=143):MvOk M t (faultE t p e):=by
 have h32:=h.t32
 have t32:0<=t/\t<32:=by omega
 exact ⟨rfl,rfl,⟨by first | (simp;done) | (simp [faultE];done),by first | (simp;done) | (simp [faultE];done)⟩,ok_fault t32 hp he,⟨z_b,by first | (simp;done) | (simp [faultE];done),z_b,sm_b (i:=t) (by omega) (by omega),sm_b (i:=p) (by omega) (by omega),z_b,z_b,z_b,z_b,z_b,sm_b (by show -1<=e;omega) (by show e<1000;omega),by first | (simp;done) | (simp [faultE];done)⟩,
  fun e=>absurd e (by simp [faultE]),fun e=>absurd e (by simp [faultE]),fun e=>absurd e (by simp [faultE]),fun e=>absurd e (by simp [faultE]),fun e=>absurd e (by simp [faultE]),fun e=>absurd e (by simp [faultE]),fun e=>absurd e (by simp [faultE])⟩
theorem task_b {y:Pla} (h:M.task t=some y):0<=t/\t<(M.T.length:Int):=by
 unfold Mod.task at h
 split at h
 ·have:=(List.getElem?_eq_some_iff.1 h).1;omega
 ·cases h
theorem movesO_ok {idle:Nat} {l:List Opn} (h:Inv M) (ht:0<=t/\t<(M.T.length:Int)) (hl:∀ o ∈ l,OpOk M o) (hi:commits M t l = []->MvOk M t (bareE idle t)):∀ x ∈ movesO M t idle l,MvOk M t x:=by
 intro x hx
 unfold movesO at hx
 split at hx
 ·rename_i hc
  rw [List.mem_singleton.1 hx];exact hi hc
 ·unfold commits at hx
  obtain ⟨o,ho,rfl⟩:=List.mem_map.1 hx
  obtain ⟨h1,h2⟩:=List.mem_filter.1 ho
  exact mv_ok h ht (hl o h1) h2
theorem may_ok (h:Inv M) (h0:(M.stand t).2=0):∀ x ∈ mayE M t (M.stand t).1 (M.does t),MvOk M t x:=by
 obtain ⟨ha,h5,h10,y,hy,_⟩:=does_at h.chk h0
 have ht:=task_b hy
 have h32:=h.t32
 have t32:0<=t/\t<32:=by omega
 have hops:=fun ho=>tries_ok h.chk h.cl (h.sfr t) ha ho
 intro x hx
 have hc:(M.does t).o=5 \/ (M.does t).o=6 \/ (M.does t).o=7 \/ (M.does t).o=8 \/ (M.does t).o=9 \/ (M.does t).o=10:=by omega
 unfold mayE at hx
 rcases hc with e | e | e | e | e | e <;> simp only [e] at hx
 ·exact movesO_ok h ht (hops (.inl e)) (fun hn=>bare_ok h ht (.inr (.inl rfl)) (fun _=>h0) (fun e=>by cases e) (fun _=>⟨.inl e,hn⟩)) x hx
 ·exact movesO_ok h ht (hops (.inr (.inl e))) (fun hn=>bare_ok h ht (.inr (.inl rfl)) (fun _=>h0) (fun e=>by cases e) (fun _=>⟨.inr (.inl e),hn⟩)) x hx
 ·rw [List.mem_singleton.1 hx]
  unfold closeE
  split
  ·exact fault_ok h ht ⟨by first | (simp;done) | (simp [faultE];done),by first | (simp;done) | (simp [faultE];done)⟩ (.inr (.inr (.inl rfl)))
  ·rename_i hne
   split
   ·exact fault_ok h ht ⟨by first | (simp;done) | (simp [faultE];done),by first | (simp;done) | (simp [faultE];done)⟩ (.inr (.inl rfl))
   ·have hcc:=(at_ch h.chk ha (.inr (.inr e))).resolve_left hne
    rw [<- h.cl] at hcc
    have h6:=h.c6
    exact ⟨rfl,rfl,⟨by first | (simp;done) | (simp [faultE];done),by first | (simp;done) | (simp [faultE];done)⟩,ok_close t32 ⟨hcc.1,by omega⟩,⟨z_b,by first | (simp;done) | (simp [faultE];done),z_b,sm_b (i:=t) (by omega) (by omega),z_b,sm_b (i:=(M.does t).c) (by omega) (by omega),z_b,z_b,z_b,z_b,z_b,by first | (simp;done) | (simp [faultE];done)⟩,
     fun _=>hcc,fun e=>absurd e (by simp),fun e=>absurd e (by simp),fun e=>absurd e (by simp),fun e=>absurd e (by simp),fun e=>absurd e (by simp),fun e=>absurd e (by simp)⟩
 ·refine movesO_ok h ht (hops (.inr (.inr e))) (fun hn=>?_) x hx
  split
  ·exact bare_ok h ht (.inl rfl) (fun _=>h0) (fun _=>e) (fun e=>by cases e)
  ·exact bare_ok h ht (.inr (.inl rfl)) (fun _=>h0) (fun e=>by cases e) (fun _=>⟨.inr (.inr e),hn⟩)
 ·rw [List.mem_singleton.1 hx]
  unfold spawnE
  split
  ·exact fault_ok h ht ⟨by first | (simp;done) | (simp [faultE];done),by first | (simp;done) | (simp [faultE];done)⟩ (.inr (.inr (.inr rfl)))
  ·rename_i hn
   have hk:=at_code h.chk ha e
   exact ⟨rfl,rfl,⟨by first | (simp;done) | (simp [faultE];done),by first | (simp;done) | (simp [faultE];done)⟩,ok_spawn t32 ⟨by omega,by have:=h.mo;omega⟩ hk,⟨z_b,by first | (simp;done) | (simp [faultE];done),z_b,sm_b (i:=t) (by omega) (by omega),sm_b (by show -1<=(M.T.length:Int);omega) (by show (M.T.length:Int)<1000;omega),z_b,sm_b (by show -1<=(M.does t).k;omega) (by show (M.does t).k<1000;omega),z_b,z_b,z_b,z_b,by first | (simp;done) | (simp [faultE];done)⟩,
    fun e=>absurd e (by simp),fun e=>absurd e (by simp),fun e=>absurd e (by simp),fun e=>absurd e (by simp),fun e=>absurd e (by simp),fun _=>by omega,fun e=>absurd e (by simp)⟩
 ·rw [List.mem_singleton.1 hx]
  exact bare_ok h ht (.inr (.inr rfl)) (fun e=>by rcases e with e | e <;> cases e) (fun e=>by cases e) (fun e=>by cases e)
theorem befalls_ok (h:Inv M) (ht:0<=t/\t<(M.T.length:Int)):∀ x ∈ befalls M t,MvOk M t x:=by
 intro x hx
 have h32:=h.t32
 have h6:=h.c6
 have t32:0<=t/\t<32:=by omega
 unfold befalls at hx
 obtain ⟨l,hl,hx⟩:=List.mem_flatten.1 hx
 obtain ⟨i,hi,rfl⟩:=List.mem_iff_getElem.1 hl
 rw [List.getElem_mapIdx] at hx
 have hi':i<M.C.length:=by simpa using hi
 have hc:=h.ch _ (List.getElem_mem hi')
 have hk:=h.k i _ (List.getElem?_eq_getElem hi')
 generalize M.C[i]=c at hx hc hk
 unfold befallE at hx
 split at hx
 ·rename_i hcl
  have hkk:=hk hcl
  split at hx
  ·rename_i hR
   rw [List.mem_singleton.1 hx]
   have hR':c.R ≠ []:=by
    intro e;rw [e] at hR;simp at hR
   obtain ⟨_,hq,_⟩:=hc.rw_ _ (head_mem hR')
   exact ⟨rfl,rfl,⟨by first | (simp;done) | (simp [faultE];done),by first | (simp;done) | (simp [faultE];done)⟩,ok_wake t32 hkk ⟨by omega,by omega⟩ hq,⟨z_b,by first | (simp;done) | (simp [faultE];done),z_b,sm_b (i:=t) (by omega) (by omega),sm_b (i:=M.K i) (by omega) (by omega),sm_b (by show -1<=(i:Int);omega) (by show (i:Int)<1000;omega),sm_b (i:=(headW c.R).c) (by omega) (by omega),z_b,z_b,z_b,z_b,by first | (simp;done) | (simp [faultE];done)⟩,
    fun e=>absurd e (by simp),fun e=>absurd e (by simp),fun e=>absurd e (by simp),fun e=>absurd e (by simp),fun e=>absurd e (by simp),fun e=>absurd e (by simp),fun e=>absurd e (by simp)⟩
  ·split at hx
   ·rw [List.mem_singleton.1 hx];exact fault_ok h ht ⟨by omega,by omega⟩ (.inl rfl)
   ·cases hx
 ·cases hx
theorem moves_ok (h:Inv M):∀ x ∈ M.moves t,MvOk M t x/\M.e=0/\0<=t/\t<(M.T.length:Int):=by
 intro x hx
 unfold Mod.moves at hx
 cases hy:M.task t with
 | none=>rw [hy] at hx;cases hx
 | some y=>
  rw [hy] at hx
  simp only at hx
  split at hx
  ·cases hx
  ·rename_i he
   have ht:=task_b hy
   split at hx
   ·exact ⟨befalls_ok h ht x hx,by simpa using he,ht⟩
   ·split at hx
    ·cases hx
    ·rename_i h0
     exact ⟨may_ok h (by simpa using h0) x hx,by simpa using he,ht⟩
end
end Go.Proofs.YtnfbncgfpmcpnaaGreat.Mdl
