/-
  ReplayNext: its walks, part 5.
-/
import Derived.Test.YtnfbncgfpmcpnaaGreatQ04
set_option maxRecDepth 100000
set_option maxHeartbeats 12800000
namespace Go.Proofs.YtnfbncgfpmcpnaaGreat
open Go.RowKit
structure Small (p:Prg):Prop where
 caps:p.caps.length<=1000000
 codes:p.codes.length<=1000000
 sites:p.sites.length<=1000000
 code:∀ x ∈ p.codes,x.length<=1000000
 site:∀ x ∈ p.sites,x.cs.length<=1000000
def fns (v1 v2 v3:Value):Array Value:=#[.func (.func 47) #[.agg #[v1,v2,v3]] #[],.func (.func 48) #[.agg #[v1,v2,v3]] #[],.func (.func 49) #[.agg #[v1,v2,v3]] #[],.func (.func 50) #[.agg #[v1,v2,v3]] #[]]
theorem Res.later {W W':World} {B n:Nat} {x y z:Int} (h:Res W B x y z) (hb:Below n W W') (hn:B+1+1<n):Res W' B x y z:=⟨h.a.later hb (by omega),h.b.later hb (by omega),h.c.later hb hn⟩
theorem mem6 (w:World) (v1 v2 v3:Value) :
  ∀ W,W=(((((w.alloc (.cells #[v1,v2,v3] 26)).alloc (.cells #[.int .i64 0] 3)).alloc (.cells #[.int .i64 0] 3)).alloc (.cells #[.int .i64 0] 31)).alloc (.cells #[v1,v2,v3] 125)).alloc (.cells (fns v1 v2 v3) 1)->
  Below w.heap.size w W/\Res W (w.heap.size+1) 0 0 0/\Blk W (w.heap.size+1+1+1+1+1) 1 (fns v1 v2 v3):=by
 rintro W rfl
 obtain ⟨w1,h1⟩:∃ w1,w1=w.alloc (.cells #[v1,v2,v3] 26):=⟨_,rfl⟩
 have s1:w1.heap.size=w.heap.size+1:=by rw [h1];exact World.size_alloc _ _
 have b1:Below w.heap.size w w1:=by rw [h1];exact (Below.refl _ w).alloc (Nat.le_refl _) _
 rw [<- h1]
 have x1:=blk_new w1 3 #[.int .i64 0]
 obtain ⟨w2,h2⟩:∃ w2,w2=w1.alloc (.cells #[.int .i64 0] 3):=⟨_,rfl⟩
 have s2:w2.heap.size=w.heap.size+1+1:=by rw [h2,World.size_alloc,s1]
 rw [<- h2] at x1 ⊢
 rw [s1] at x1
 have b2:Below w.heap.size w w2:=by rw [h2];exact b1.alloc (by omega) _
 have x2:=blk_new w2 3 #[.int .i64 0]
 obtain ⟨w3,h3⟩:∃ w3,w3=w2.alloc (.cells #[.int .i64 0] 3):=⟨_,rfl⟩
 have s3:w3.heap.size=w.heap.size+1+1+1:=by rw [h3,World.size_alloc,s2]
 rw [<- h3] at x2 ⊢
 rw [s2] at x2
 have y1:Blk w3 (w.heap.size+1) 3 #[.int .i64 0]:=by rw [h3];exact x1.alloc _
 have b3:Below w.heap.size w w3:=by rw [h3];exact b2.alloc (by omega) _
 have x3:=blk_new w3 31 #[.int .i64 0]
 obtain ⟨w4,h4⟩:∃ w4,w4=w3.alloc (.cells #[.int .i64 0] 31):=⟨_,rfl⟩
 have s4:w4.heap.size=w.heap.size+1+1+1+1:=by rw [h4,World.size_alloc,s3]
 rw [<- h4] at x3 ⊢
 rw [s3] at x3
 have y2:Blk w4 (w.heap.size+1+1) 3 #[.int .i64 0]:=by rw [h4];exact x2.alloc _
 have z1:Blk w4 (w.heap.size+1) 3 #[.int .i64 0]:=by rw [h4];exact y1.alloc _
 have b4:Below w.heap.size w w4:=by rw [h4];exact b3.alloc (by omega) _
 obtain ⟨w5,h5⟩:∃ w5,w5=w4.alloc (.cells #[v1,v2,v3] 125):=⟨_,rfl⟩
 have s5:w5.heap.size=w.heap.size+1+1+1+1+1:=by rw [h5,World.size_alloc,s4]
 have b5:Below w.heap.size w w5:=by rw [h5];exact b4.alloc (by omega) _
 have r5:Res w5 (w.heap.size+1) 0 0 0:=by rw [h5];exact ⟨z1.alloc _,y2.alloc _,x3.alloc _⟩
 rw [<- h5]
 have x6:=blk_new w5 1 (fns v1 v2 v3)
 rw [s5] at x6
 exact ⟨b5.alloc (by omega) _,⟨r5.a.alloc _,r5.b.alloc _,r5.c.alloc _⟩,x6⟩
theorem codes_pos {a b:Int} {l:List (List In)} (h:codesW a b l=none):∀ x ∈ l,0<x.length:=by
 intro x hx
 obtain ⟨k,hk,rfl⟩:=List.mem_iff_getElem.1 hx
 unfold codesW at h
 rw [Option.or_eq_none_iff,firstI_none] at h
 have:=h.2 k _ (List.getElem?_eq_getElem hk)
 unfold codeW at this
 rw [Option.or_eq_none_iff] at this
 have h1:=this.1
 unfold wrongIf at h1
 by_cases hw:withinB (l[k].length:Int) 1 40=true
 ·unfold withinB at hw;simp at hw;omega
 ·rw [if_neg hw] at h1;cases h1
theorem checkT_some {p:Prg} {x:Wr} (h:checkW p=some x):checkT p=x:=by simp [checkT,h]
theorem checkT_none {p:Prg} (h:checkW p=none):checkT p=(0,0,0):=by simp [checkT,h]
theorem check_dies (w w1:World) (T:Array Value) (p:Prg) (x y z:Int) (hx:checkW p=some (x,y,z)) (h2:T[2]?.getD undef=.pointer (some ⟨w.heap.size+1,0,none⟩)) (h3:T[3]?.getD undef=.pointer (some ⟨w.heap.size+1+1,0,none⟩)) (h4:T[4]?.getD undef=.pointer (some ⟨w.heap.size+1+1+1,0,none⟩))
  (hB:Below w.heap.size w w1) (hR:Res w1 (w.heap.size+1) 0 0 0) :
  bodyPostD Tryz.prog Tryz.f23 (fun e w'=>e=.returned (.tuple #[.int .i64 (checkT p).1,.int .i64 (checkT p).2.1,.int .i64 (checkT p).2.2])/\Below w.heap.size w w') (.panic [{ v:=.iface 122 (.agg #[.int .i64 x,.int .i64 y,.int .i64 z]),recovered:=false }]) { tmps:=T,defers:=[{ target:=Target.fn (.func 46) #[.pointer (some ⟨w.heap.size+1,0,none⟩),.pointer (some ⟨w.heap.size+1+1,0,none⟩),.pointer (some ⟨w.heap.size+1+1+1,0,none⟩)],args:=#[] }] } w1:=by
 have e:=checkT_some hx
 refine leaves_cons (f:=46) (args:=#[.pointer (some ⟨w.heap.size+1,0,none⟩),.pointer (some ⟨w.heap.size+1+1,0,none⟩),.pointer (some ⟨w.heap.size+1+1+1,0,none⟩)]) (by simp) (by simp [go_sem]) ?_
 refine (catch_wrong (w.heap.size+1) x y z [] w1 0 0 0 hR).mono ?_
 rintro e' u' w'' ⟨rfl,rfl,hR',hbt⟩
 have q0:w''.cell? ⟨w.heap.size+1,0,none⟩=some (.int .i64 x):=hR'.a.cell rfl
 have q1:w''.cell? ⟨w.heap.size+1+1,0,none⟩=some (.int .i64 y):=hR'.b.cell rfl
 have q2:w''.cell? ⟨w.heap.size+1+1+1,0,none⟩=some (.int .i64 z):=hR'.c.cell rfl
 have hbb:Below w.heap.size w w'':=hB.trans (hbt.below hB.size (by simp;omega))
 simp [Leaves,settle,results,Tryz.f23,go_sem,h2,h3,h4,q0,q1,q2,e,hbb]
theorem res_put {w:World} {B:Nat} {x0 y0 z0:Int} (h:Res w B x0 y0 z0) (x y z:Int) :
  Res (((w.setCell ⟨B,0,none⟩ (.int .i64 x)).setCell ⟨B+1,0,none⟩ (.int .i64 y)).setCell ⟨B+1+1,0,none⟩ (.int .i64 z)) B x y z /\
  But [B,B+1,B+1+1] w (((w.setCell ⟨B,0,none⟩ (.int .i64 x)).setCell ⟨B+1,0,none⟩ (.int .i64 y)).setCell ⟨B+1+1,0,none⟩ (.int .i64 z)):=by
 refine ⟨⟨?_,?_,?_⟩,?_⟩
 ·exact ((h.a.set 0 (.int .i64 x)).beside (p:=⟨B+1,0,none⟩) (by simp) _).beside (p:=⟨B+1+1,0,none⟩) (by simp;try omega) _
 ·exact ((h.b.beside (p:=⟨B,0,none⟩) (by simp) (.int .i64 x)).set 0 (.int .i64 y)).beside (p:=⟨B+1+1,0,none⟩) (by simp;try omega) _
 ·exact ((h.c.beside (p:=⟨B,0,none⟩) (by simp;try omega) (.int .i64 x)).beside (p:=⟨B+1,0,none⟩) (by simp) (.int .i64 y)).set 0 (.int .i64 z)
 ·exact (((But.refl [B,B+1,B+1+1] w).set (p:=⟨B,0,none⟩) (.inl (by simp)) _).set (p:=⟨B+1,0,none⟩) (.inl (by simp)) _).set (p:=⟨B+1+1,0,none⟩) (.inl (by simp)) _
theorem check_ends (w w1:World) (T:Array Value) (p:Prg) (hx:checkW p=none) (h2:T[2]?.getD undef=.pointer (some ⟨w.heap.size+1,0,none⟩)) (h3:T[3]?.getD undef=.pointer (some ⟨w.heap.size+1+1,0,none⟩)) (h4:T[4]?.getD undef=.pointer (some ⟨w.heap.size+1+1+1,0,none⟩))
  (hB:Below w.heap.size w w1) (hR:Res w1 (w.heap.size+1) 0 0 0) :
  bodyPostD Tryz.prog Tryz.f23 (fun e w'=>e=.returned (.tuple #[.int .i64 (checkT p).1,.int .i64 (checkT p).2.1,.int .i64 (checkT p).2.2])/\Below w.heap.size w w') .ret { tmps:=T,defers:=[{ target:=Target.fn (.func 46) #[.pointer (some ⟨w.heap.size+1,0,none⟩),.pointer (some ⟨w.heap.size+1+1,0,none⟩),.pointer (some ⟨w.heap.size+1+1+1,0,none⟩)],args:=#[] }] } w1:=by
 have e:=checkT_none hx
 refine leaves_cons (f:=46) (args:=#[.pointer (some ⟨w.heap.size+1,0,none⟩),.pointer (some ⟨w.heap.size+1+1,0,none⟩),.pointer (some ⟨w.heap.size+1+1+1,0,none⟩)]) (by simp) (by simp [go_sem]) ?_
 refine (catch_idle (w.heap.size+1) w1).mono ?_
 rintro e' u' w'' ⟨rfl,rfl,hbt⟩
 have l0:=hR.c.lt
 have hR':=hR.later hbt l0
 have q0:w''.cell? ⟨w.heap.size+1,0,none⟩=some (.int .i64 0):=hR'.a.cell rfl
 have q1:w''.cell? ⟨w.heap.size+1+1,0,none⟩=some (.int .i64 0):=hR'.b.cell rfl
 have q2:w''.cell? ⟨w.heap.size+1+1+1,0,none⟩=some (.int .i64 0):=hR'.c.cell rfl
 have hbb:Below w.heap.size w w'':=below_next hB hbt (Nat.le_refl _)
 simp [Leaves,settle,results,Tryz.f23,go_sem,h2,h3,h4,q0,q1,q2,e,hbb]
theorem progCheck_any {lo hi:Nat} {v1 v2 v3:Value} {p:Prg} (w:World) (h:PrgAt lo hi w v1 v2 v3 p) (hs:Small p) :
  Calls Tryz.prog 23 #[.agg #[v1,v2,v3]] w fun e w'=>e=.returned (.tuple #[.int .i64 (checkT p).1,.int .i64 (checkT p).2.1,.int .i64 (checkT p).2.2])/\Below w.heap.size w w':=by
 obtain ⟨a1,c1,rfl⟩:=h.caps.slice
 obtain ⟨a2,c2,rfl⟩:=h.codes.slice
 obtain ⟨a3,c3,rfl⟩:=h.sites.slice
 have hmf:∀ (fn:Fn) (first cap:Array Value) (w:World),(Instr.makeFunc fn first cap).run Tryz.prog w=.ok (.func fn first cap) w:=fun _ _ _ _=>rfl
 go_enter_defers Tryz.func23,Tryz.ntmps23
 go_wp2_with fail
 obtain ⟨hB0,hR0,hF0⟩:=mem6 w (.slice a1 p.caps.length c1) (.slice a2 p.codes.length c2) (.slice a3 p.sites.length c3) _ rfl
 go_loopw [21] (fun iv wr=>∃ k:Nat,k<=4/\iv=.int .i64 (k:Int)/\Below w.heap.size w wr/\Res wr (w.heap.size+1) 0 0 0/\Blk wr (w.heap.size+1+1+1+1+1) 1 (fns (.slice a1 p.caps.length c1) (.slice a2 p.codes.length c2) (.slice a3 p.sites.length c3)) /\
  Hid ((1<=k->chansW p.caps=none)/\(2<=k->sitesW p.caps.length p.sites=none)/\(3<=k->codesW p.caps.length p.sites.length p.codes=none)/\(4<=k->fallsW p.codes=none))) (fun iv _=>4 - (intOf iv).toNat)
 case atStart=>exact ⟨0,by omega,rfl,hB0,hR0,hF0,Lib.hid ⟨fun h=>by omega,fun h=>by omega,fun h=>by omega,fun h=>by omega⟩⟩
 case round=>
  clear hB0 hR0 hF0
  obtain ⟨k,hk,rfl,hB,hR,hF,HN⟩:=hrel
  have f0:wr.cell? ⟨w.heap.size+1+1+1+1+1,0,none⟩=some (.func (.func 47) #[.agg #[.slice a1 p.caps.length c1,.slice a2 p.codes.length c2,.slice a3 p.sites.length c3]] #[]):=hF.cell rfl
  have f1:wr.cell? ⟨w.heap.size+1+1+1+1+1,1,none⟩=some (.func (.func 48) #[.agg #[.slice a1 p.caps.length c1,.slice a2 p.codes.length c2,.slice a3 p.sites.length c3]] #[]):=hF.cell rfl
  have f2:wr.cell? ⟨w.heap.size+1+1+1+1+1,2,none⟩=some (.func (.func 49) #[.agg #[.slice a1 p.caps.length c1,.slice a2 p.codes.length c2,.slice a3 p.sites.length c3]] #[]):=hF.cell rfl
  have f3:wr.cell? ⟨w.heap.size+1+1+1+1+1,3,none⟩=some (.func (.func 50) #[.agg #[.slice a1 p.caps.length c1,.slice a2 p.codes.length c2,.slice a3 p.sites.length c3]] #[]):=hF.cell rfl
  have hsz:w.heap.size+1+1+1<wr.heap.size:=by have:=hF.lt;omega
  rcases (by omega:k=0 \/ k=1 \/ k=2 \/ k=3 \/ k=4) with rfl | rfl | rfl | rfl | rfl
  ·have hc:=channels_any wr (h.later hB) hs.caps
   cases hw:chansW p.caps with
   | none=>
    have hc':Calls Tryz.prog 47 #[.agg #[.slice a1 p.caps.length c1,.slice a2 p.codes.length c2,.slice a3 p.sites.length c3]] wr fun e w'=>e=.returned (.tuple #[])/\Below wr.heap.size wr w':=by rw [hw] at hc;exact hc
    clear hc hw
    go_wp2_with (go_at_call 47;refine hc'.mono ?_;rintro e w1 ⟨rfl,hb1⟩)
    go_round
    case rel=>exact ⟨1,by omega,rfl,below_next hB hb1 (Nat.le_refl _),hR.later hb1 hsz,hF.later hb1 hF.lt,Lib.hid ⟨fun _=>trivial,fun h=>by omega,fun h=>by omega,fun h=>by omega⟩⟩
    case measure=>simp [intOf]
   | some x=>
    obtain ⟨x,y,z⟩:=x
    have hc':Calls Tryz.prog 47 #[.agg #[.slice a1 p.caps.length c1,.slice a2 p.codes.length c2,.slice a3 p.sites.length c3]] wr fun e w'=>e=.panicked [{ v:=.iface 122 (.agg #[.int .i64 x,.int .i64 y,.int .i64 z]),recovered:=false }]/\Below wr.heap.size wr w':=by rw [hw] at hc;exact hc
    have HX:Hid (checkW p=some (x,y,z)):=Lib.hid (by rw [checkW,hw];rfl)
    clear hc hw
    go_wp2_with (go_at_call 47;refine hc'.mono ?_;rintro e w1 ⟨rfl,hb1⟩)
    exact check_dies w w1 _ p x y z HX.out rfl rfl rfl (below_next hB hb1 (Nat.le_refl _)) (hR.later hb1 hsz)
  ·have hc:=sites_any wr (h.later hB) hs.sites hs.caps hs.site
   cases hw:sitesW p.caps.length p.sites with
   | none=>
    have hc':Calls Tryz.prog 48 #[.agg #[.slice a1 p.caps.length c1,.slice a2 p.codes.length c2,.slice a3 p.sites.length c3]] wr fun e w'=>e=.returned (.tuple #[])/\Below wr.heap.size wr w':=by rw [hw] at hc;exact hc
    clear hc hw
    go_wp2_with (go_at_call 48;refine hc'.mono ?_;rintro e w1 ⟨rfl,hb1⟩)
    go_round
    case rel=>exact ⟨2,by omega,rfl,below_next hB hb1 (Nat.le_refl _),hR.later hb1 hsz,hF.later hb1 hF.lt,Lib.hid ⟨fun _=>HN.out.1 (by omega),fun _=>trivial,fun h=>by omega,fun h=>by omega⟩⟩
    case measure=>simp [intOf]
   | some x=>
    obtain ⟨x,y,z⟩:=x
    have hc':Calls Tryz.prog 48 #[.agg #[.slice a1 p.caps.length c1,.slice a2 p.codes.length c2,.slice a3 p.sites.length c3]] wr fun e w'=>e=.panicked [{ v:=.iface 122 (.agg #[.int .i64 x,.int .i64 y,.int .i64 z]),recovered:=false }]/\Below wr.heap.size wr w':=by rw [hw] at hc;exact hc
    have HX:Hid (checkW p=some (x,y,z)):=Lib.hid (by rw [checkW,(HN.out.1 (by omega)),Option.none_or,hw];rfl)
    clear hc hw
    go_wp2_with (go_at_call 48;refine hc'.mono ?_;rintro e w1 ⟨rfl,hb1⟩)
    exact check_dies w w1 _ p x y z HX.out rfl rfl rfl (below_next hB hb1 (Nat.le_refl _)) (hR.later hb1 hsz)
  ·have hc:=codes_any wr (h.later hB) hs.codes hs.code
   cases hw:codesW p.caps.length p.sites.length p.codes with
   | none=>
    have hc':Calls Tryz.prog 49 #[.agg #[.slice a1 p.caps.length c1,.slice a2 p.codes.length c2,.slice a3 p.sites.length c3]] wr fun e w'=>e=.returned (.tuple #[])/\Below wr.heap.size wr w':=by rw [hw] at hc;exact hc
    clear hc hw
    go_wp2_with (go_at_call 49;refine hc'.mono ?_;rintro e w1 ⟨rfl,hb1⟩)
    go_round
    case rel=>exact ⟨3,by omega,rfl,below_next hB hb1 (Nat.le_refl _),hR.later hb1 hsz,hF.later hb1 hF.lt,Lib.hid ⟨fun _=>HN.out.1 (by omega),fun _=>HN.out.2.1 (by omega),fun _=>trivial,fun h=>by omega⟩⟩
    case measure=>simp [intOf]
   | some x=>
    obtain ⟨x,y,z⟩:=x
    have hc':Calls Tryz.prog 49 #[.agg #[.slice a1 p.caps.length c1,.slice a2 p.codes.length c2,.slice a3 p.sites.length c3]] wr fun e w'=>e=.panicked [{ v:=.iface 122 (.agg #[.int .i64 x,.int .i64 y,.int .i64 z]),recovered:=false }]/\Below wr.heap.size wr w':=by rw [hw] at hc;exact hc
    have HX:Hid (checkW p=some (x,y,z)):=Lib.hid (by rw [checkW,(HN.out.1 (by omega)),Option.none_or,(HN.out.2.1 (by omega)),Option.none_or,hw];rfl)
    clear hc hw
    go_wp2_with (go_at_call 49;refine hc'.mono ?_;rintro e w1 ⟨rfl,hb1⟩)
    exact check_dies w w1 _ p x y z HX.out rfl rfl rfl (below_next hB hb1 (Nat.le_refl _)) (hR.later hb1 hsz)
  ·have hc:=falls_any wr (h.later hB) hs.codes (fun x hx=>⟨codes_pos (HN.out.2.2.1 (by omega)) x hx,hs.code x hx⟩)
   cases hw:fallsW p.codes with
   | none=>
    have hc':Calls Tryz.prog 50 #[.agg #[.slice a1 p.caps.length c1,.slice a2 p.codes.length c2,.slice a3 p.sites.length c3]] wr fun e w'=>e=.returned (.tuple #[])/\Below wr.heap.size wr w':=by rw [hw] at hc;exact hc
    clear hc hw
    go_wp2_with (go_at_call 50;refine hc'.mono ?_;rintro e w1 ⟨rfl,hb1⟩)
    go_round
    case rel=>exact ⟨4,by omega,rfl,below_next hB hb1 (Nat.le_refl _),hR.later hb1 hsz,hF.later hb1 hF.lt,Lib.hid ⟨fun _=>HN.out.1 (by omega),fun _=>HN.out.2.1 (by omega),fun _=>HN.out.2.2.1 (by omega),fun _=>trivial⟩⟩
    case measure=>simp [intOf]
   | some x=>
    obtain ⟨x,y,z⟩:=x
    have hc':Calls Tryz.prog 50 #[.agg #[.slice a1 p.caps.length c1,.slice a2 p.codes.length c2,.slice a3 p.sites.length c3]] wr fun e w'=>e=.panicked [{ v:=.iface 122 (.agg #[.int .i64 x,.int .i64 y,.int .i64 z]),recovered:=false }]/\Below wr.heap.size wr w':=by rw [hw] at hc;exact hc
    have HX:Hid (checkW p=some (x,y,z)):=Lib.hid (by rw [checkW,(HN.out.1 (by omega)),Option.none_or,(HN.out.2.1 (by omega)),Option.none_or,(HN.out.2.2.1 (by omega)),Option.none_or];exact hw)
    clear hc hw
    go_wp2_with (go_at_call 50;refine hc'.mono ?_;rintro e w1 ⟨rfl,hb1⟩)
    exact check_dies w w1 _ p x y z HX.out rfl rfl rfl (below_next hB hb1 (Nat.le_refl _)) (hR.later hb1 hsz)
  ·have HX:Hid (checkW p=none):=Lib.hid (by rw [checkW,(HN.out.1 (by omega)),Option.none_or,(HN.out.2.1 (by omega)),Option.none_or,(HN.out.2.2.1 (by omega)),Option.none_or];exact HN.out.2.2.2 (by omega))
   have g0:=hR.a.frozen 0
   have g1:=hR.b.frozen 0
   have g2:=hR.c.frozen 0
   have q0:wr.cell? ⟨w.heap.size+1,0,none⟩=some (.int .i64 0):=hR.a.cell rfl
   have q1:wr.cell? ⟨w.heap.size+1+1,0,none⟩=some (.int .i64 0):=hR.b.cell rfl
   have q2:wr.cell? ⟨w.heap.size+1+1+1,0,none⟩=some (.int .i64 0):=hR.c.cell rfl
   go_wp2_with fail
   obtain ⟨r1,r2⟩:=res_put hR 0 0 0
   exact check_ends w _ _ p HX.out rfl rfl rfl (hB.trans (r2.below hB.size (by simp;omega))) r1
open Go.RowKit
structure Tame (p:Prg):Prop where
 caps:p.caps.length<=50
 codes:p.codes.length<=10
 sites:p.sites.length<=15
 code:∀ x ∈ p.codes,x.length<=100
 site:∀ x ∈ p.sites,x.cs.length<=50
theorem Tame.small {p:Prg} (h:Tame p):Small p:=⟨by have:=h.caps;omega,by have:=h.codes;omega,by have:=h.sites;omega,fun x hx=>by have:=h.code x hx;omega,fun x hx=>by have:=h.site x hx;omega⟩
def LongPost (w:World) (p:Prg) (e:Ending) (w':World):Prop:=∃ b:Bool,e=.returned (.bool b)/\(b=false->Tame p)/\Below w.heap.size w w'
theorem long_any {lo hi:Nat} {v1 v2 v3:Value} {p:Prg} (w:World) (h:PrgAt lo hi w v1 v2 v3 p) :
  Calls Tryz.prog 17 #[.agg #[v1,v2,v3]] w (LongPost w p):=by
 obtain ⟨a1,c1,rfl⟩:=h.caps.slice
 obtain ⟨a2,c2,rfl⟩:=h.codes.slice
 obtain ⟨a3,c3,rfl⟩:=h.sites.slice
 have hb0:Below w.heap.size w (w.alloc (.cells #[.slice a1 p.caps.length c1,.slice a2 p.codes.length c2,.slice a3 p.sites.length c3] 26)):=(Below.refl _ w).alloc (Nat.le_refl _) _
 have g:=h.later hb0
 have hk0:=blk_new w 26 #[.slice a1 p.caps.length c1,.slice a2 p.codes.length c2,.slice a3 p.sites.length c3]
 have k0:(w.alloc (.cells #[.slice a1 p.caps.length c1,.slice a2 p.codes.length c2,.slice a3 p.sites.length c3] 26)).cell? ⟨w.heap.size,0,none⟩=some (.slice a1 p.caps.length c1):=hk0.cell rfl
 have k1:(w.alloc (.cells #[.slice a1 p.caps.length c1,.slice a2 p.codes.length c2,.slice a3 p.sites.length c3] 26)).cell? ⟨w.heap.size,1,none⟩=some (.slice a2 p.codes.length c2):=hk0.cell rfl
 have k2:(w.alloc (.cells #[.slice a1 p.caps.length c1,.slice a2 p.codes.length c2,.slice a3 p.sites.length c3] 26)).cell? ⟨w.heap.size,2,none⟩=some (.slice a3 p.sites.length c3):=hk0.cell rfl
 go_enter Tryz.func17,Tryz.ntmps17
 go_wp2_with fail
 obtain ⟨W,hW⟩:∃ W,W=w.alloc (.cells #[.slice a1 p.caps.length c1,.slice a2 p.codes.length c2,.slice a3 p.sites.length c3] 26):=⟨_,rfl⟩
 rw [<- hW] at hb0 g k0 k1 k2 ⊢
 clear hk0 hW
 go_loop [3,4] (fun nv iv=>∃ (k:Nat) (N:Int),k<=p.codes.length/\k<=20/\iv=.int .i64 (k:Int)/\nv=.int .i64 N/\0<=N/\N<=100 * (k:Int)/\Hid (∀ (j:Nat) (x:List In),j<k->p.codes[j]?=some x->x.length<=100)) (fun _ iv=>20 - (intOf iv).toNat)
 case atStart=>exact ⟨0,0,Nat.zero_le _,by omega,rfl,rfl,by omega,by omega,Lib.hid (fun j x hj=>by omega)⟩
 case round=>
  obtain ⟨k,N,hk,hk20,rfl,rfl,hN0,hN1,HN⟩:=hrel
  have kk:(0:Int)<=(k:Int):=by omega
  have hw1:IntKind.i64.wrap ((k:Int)+1)=(k:Int)+1:=by rw [IntKind.wrap_i64];omega
  by_cases hlt:k<p.codes.length/\k<20
  ·have hlt':(k:Int)<(p.codes.length:Int):=by omega
   have hlt2:(k:Int)<20:=by omega
   have hlt3:decide ((k:Int)<20)=true:=by simpa using hlt2
   obtain ⟨b,off,ra,rc,x,rfl,-, -, hx,hc,-⟩:=g.codes.at hlt.1
   have HX:=Lib.hid hx
   clear hx
   by_cases hl:100<x.length
   ·have hl':(100:Int)<(x.length:Int):=by omega
    go_wp2_with fail
    go_ret
    exact ⟨true,rfl,(fun h=>by cases h),hb0⟩
   ·have hl' : ¬ (100:Int)<(x.length:Int):=by omega
    have hw2:IntKind.i64.wrap (N+(x.length:Int))=N+(x.length:Int):=by rw [IntKind.wrap_i64];omega
    go_wp2_with fail
    go_round
    case rel=>
     refine ⟨k+1,N+(x.length:Int),by omega,by omega,by go_num,rfl,by omega,by omega,Lib.hid (fun j y hj hy=>?_)⟩
     by_cases e:j=k
     ·subst e
      rw [HX.out] at hy
      cases hy
      omega
     ·exact HN.out j y (by omega) hy
    case measure=>simp [intOf];omega
  ·have HC:Hid (p.codes.length<=10->∀ x ∈ p.codes,x.length<=100):=Lib.hid (fun hle x hx=>by
    obtain ⟨j,hj,rfl⟩:=List.mem_iff_getElem.1 hx
    exact HN.out j _ (by omega) (List.getElem?_eq_getElem hj))
   have hgo:(k<p.codes.length/\¬ k<20) \/ ¬ k<p.codes.length:=by omega
   clear hlt HN
   rcases hgo with ⟨g1,g2⟩ | g1
   ·have g1':(k:Int)<(p.codes.length:Int):=by omega
    have g2' : ¬ (k:Int)<20:=by omega
    have g3':decide ((k:Int)<20)=false:=by simpa using g2'
    go_wp2_with fail
    clear g1' g2' g3'
    go_loop [5] (fun iv=>∃ m:Nat,m<=p.sites.length/\m<=30/\iv=.int .i64 (m:Int)/\Hid (∀ (j:Nat) (x:Sit),j<m->p.sites[j]?=some x->x.cs.length<=50)) (fun iv=>30 - (intOf iv).toNat)
    case atStart=>exact ⟨0,Nat.zero_le _,by omega,rfl,Lib.hid (fun j x hj=>by omega)⟩
    case round=>
     obtain ⟨m,hm,hm30,rfl,HM⟩:=hrel
     have mm:(0:Int)<=(m:Int):=by omega
     have hw1:IntKind.i64.wrap ((m:Int)+1)=(m:Int)+1:=by rw [IntKind.wrap_i64];omega
     by_cases hlt:m<p.sites.length/\m<30
     ·have hlt':(m:Int)<(p.sites.length:Int):=by omega
      have hlt2:(m:Int)<30:=by omega
      have hlt3:decide ((m:Int)<30)=true:=by simpa using hlt2
      obtain ⟨b,off,ra,rc,x,rfl,-, -, hx,hc,-, -⟩:=g.sites.at hlt.1
      have HX:=Lib.hid hx
      clear hx
      by_cases hl:50<x.cs.length
      ·have hl':(50:Int)<(x.cs.length:Int):=by omega
       go_wp2_with fail
       go_ret
       exact ⟨true,rfl,(fun h=>by cases h),hb0⟩
      ·have hl' : ¬ (50:Int)<(x.cs.length:Int):=by omega
       go_wp2_with fail
       go_round
       case rel=>
        refine ⟨m+1,by omega,by omega,by go_num,Lib.hid (fun j y hj hy=>?_)⟩
        by_cases e:j=m
        ·subst e
         rw [HX.out] at hy
         cases hy
         omega
        ·exact HM.out j y (by omega) hy
       case measure=>simp [intOf];omega
     ·have HD:Hid (p.sites.length<=15->∀ x ∈ p.sites,x.cs.length<=50):=Lib.hid (fun hle x hx=>by
       obtain ⟨j,hj,rfl⟩:=List.mem_iff_getElem.1 hx
       exact HM.out j _ (by omega) (List.getElem?_eq_getElem hj))
      have hgo:(m<p.sites.length/\¬ m<30) \/ ¬ m<p.sites.length:=by omega
      clear hlt HM
      rcases hgo with ⟨q1,q2⟩ | q1
      ·have q1':(m:Int)<(p.sites.length:Int):=by omega
       have q2' : ¬ (m:Int)<30:=by omega
       have q3':decide ((m:Int)<30)=false:=by simpa using q2'
       by_cases r1:50<p.caps.length
       ·have r1':(50:Int)<(p.caps.length:Int):=by omega
        go_wp2_with fail
        go_ret
        exact ⟨true,rfl,(fun h=>by cases h),hb0⟩
       have r1' : ¬ (50:Int)<(p.caps.length:Int):=by omega
       by_cases r2:10<p.codes.length
       ·have r2':(10:Int)<(p.codes.length:Int):=by omega
        have r2d:decide ((10:Int)<(p.codes.length:Int))=true:=by simpa using r2'
        go_wp2_with fail
        go_ret
        exact ⟨true,rfl,(fun h=>by cases h),hb0⟩
       have r2' : ¬ (10:Int)<(p.codes.length:Int):=by omega
       have r2d:decide ((10:Int)<(p.codes.length:Int))=false:=by simpa using r2'
       exfalso
       omega
      ·have q1' : ¬ (m:Int)<(p.sites.length:Int):=by omega
       by_cases r1:50<p.caps.length
       ·have r1':(50:Int)<(p.caps.length:Int):=by omega
        go_wp2_with fail
        go_ret
        exact ⟨true,rfl,(fun h=>by cases h),hb0⟩
       have r1' : ¬ (50:Int)<(p.caps.length:Int):=by omega
       by_cases r2:10<p.codes.length
       ·have r2':(10:Int)<(p.codes.length:Int):=by omega
        have r2d:decide ((10:Int)<(p.codes.length:Int))=true:=by simpa using r2'
        go_wp2_with fail
        go_ret
        exact ⟨true,rfl,(fun h=>by cases h),hb0⟩
       have r2' : ¬ (10:Int)<(p.codes.length:Int):=by omega
       have r2d:decide ((10:Int)<(p.codes.length:Int))=false:=by simpa using r2'
       exfalso
       omega
   ·have g1' : ¬ (k:Int)<(p.codes.length:Int):=by omega
    go_wp2_with fail
    clear g1'
    go_loop [5] (fun iv=>∃ m:Nat,m<=p.sites.length/\m<=30/\iv=.int .i64 (m:Int)/\Hid (∀ (j:Nat) (x:Sit),j<m->p.sites[j]?=some x->x.cs.length<=50)) (fun iv=>30 - (intOf iv).toNat)
    case atStart=>exact ⟨0,Nat.zero_le _,by omega,rfl,Lib.hid (fun j x hj=>by omega)⟩
    case round=>
     obtain ⟨m,hm,hm30,rfl,HM⟩:=hrel
     have mm:(0:Int)<=(m:Int):=by omega
     have hw1:IntKind.i64.wrap ((m:Int)+1)=(m:Int)+1:=by rw [IntKind.wrap_i64];omega
     by_cases hlt:m<p.sites.length/\m<30
     ·have hlt':(m:Int)<(p.sites.length:Int):=by omega
      have hlt2:(m:Int)<30:=by omega
      have hlt3:decide ((m:Int)<30)=true:=by simpa using hlt2
      obtain ⟨b,off,ra,rc,x,rfl,-, -, hx,hc,-, -⟩:=g.sites.at hlt.1
      have HX:=Lib.hid hx
      clear hx
      by_cases hl:50<x.cs.length
      ·have hl':(50:Int)<(x.cs.length:Int):=by omega
       go_wp2_with fail
       go_ret
       exact ⟨true,rfl,(fun h=>by cases h),hb0⟩
      ·have hl' : ¬ (50:Int)<(x.cs.length:Int):=by omega
       go_wp2_with fail
       go_round
       case rel=>
        refine ⟨m+1,by omega,by omega,by go_num,Lib.hid (fun j y hj hy=>?_)⟩
        by_cases e:j=m
        ·subst e
         rw [HX.out] at hy
         cases hy
         omega
        ·exact HM.out j y (by omega) hy
       case measure=>simp [intOf];omega
     ·have HD:Hid (p.sites.length<=15->∀ x ∈ p.sites,x.cs.length<=50):=Lib.hid (fun hle x hx=>by
       obtain ⟨j,hj,rfl⟩:=List.mem_iff_getElem.1 hx
       exact HM.out j _ (by omega) (List.getElem?_eq_getElem hj))
      have hgo:(m<p.sites.length/\¬ m<30) \/ ¬ m<p.sites.length:=by omega
      clear hlt HM
      rcases hgo with ⟨q1,q2⟩ | q1
      ·have q1':(m:Int)<(p.sites.length:Int):=by omega
       have q2' : ¬ (m:Int)<30:=by omega
       have q3':decide ((m:Int)<30)=false:=by simpa using q2'
       by_cases r1:50<p.caps.length
       ·have r1':(50:Int)<(p.caps.length:Int):=by omega
        go_wp2_with fail
        go_ret
        exact ⟨true,rfl,(fun h=>by cases h),hb0⟩
       have r1' : ¬ (50:Int)<(p.caps.length:Int):=by omega
       by_cases r2:10<p.codes.length
       ·have r2':(10:Int)<(p.codes.length:Int):=by omega
        have r2d:decide ((10:Int)<(p.codes.length:Int))=true:=by simpa using r2'
        go_wp2_with fail
        go_ret
        exact ⟨true,rfl,(fun h=>by cases h),hb0⟩
       have r2' : ¬ (10:Int)<(p.codes.length:Int):=by omega
       have r2d:decide ((10:Int)<(p.codes.length:Int))=false:=by simpa using r2'
       by_cases r3:15<p.sites.length
       ·have r3':(15:Int)<(p.sites.length:Int):=by omega
        have r3d:decide ((15:Int)<(p.sites.length:Int))=true:=by simpa using r3'
        go_wp2_with fail
        go_ret
        exact ⟨true,rfl,(fun h=>by cases h),hb0⟩
       exfalso
       omega
      ·have q1' : ¬ (m:Int)<(p.sites.length:Int):=by omega
       by_cases r1:50<p.caps.length
       ·have r1':(50:Int)<(p.caps.length:Int):=by omega
        go_wp2_with fail
        go_ret
        exact ⟨true,rfl,(fun h=>by cases h),hb0⟩
       have r1' : ¬ (50:Int)<(p.caps.length:Int):=by omega
       by_cases r2:10<p.codes.length
       ·have r2':(10:Int)<(p.codes.length:Int):=by omega
        have r2d:decide ((10:Int)<(p.codes.length:Int))=true:=by simpa using r2'
        go_wp2_with fail
        go_ret
        exact ⟨true,rfl,(fun h=>by cases h),hb0⟩
       have r2' : ¬ (10:Int)<(p.codes.length:Int):=by omega
       have r2d:decide ((10:Int)<(p.codes.length:Int))=false:=by simpa using r2'
       by_cases r3:15<p.sites.length
       ·have r3':(15:Int)<(p.sites.length:Int):=by omega
        have r3d:decide ((15:Int)<(p.sites.length:Int))=true:=by simpa using r3'
        go_wp2_with fail
        go_ret
        exact ⟨true,rfl,(fun h=>by cases h),hb0⟩
       have r3' : ¬ (15:Int)<(p.sites.length:Int):=by omega
       have r3d:decide ((15:Int)<(p.sites.length:Int))=false:=by simpa using r3'
       have HT:Hid (Tame p):=Lib.hid ⟨by omega,by omega,by omega,HC.out (by omega),HD.out (by omega)⟩
       go_wp2_with fail
       go_ret
       exact ⟨_,rfl,(fun _=>HT.out),hb0⟩
open Go.RowKit
theorem or_none {a b:Option Wr} (h:a.or b=none):a=none/\b=none:=Option.or_eq_none_iff.1 h
theorem wrongIf_none {b:Bool} {x:Wr} (h:wrongIf b x=none):b=true:=by cases b <;> first | rfl | cases h
theorem check_parts {p:Prg} (h:checkW p=none):chansW p.caps=none/\sitesW p.caps.length p.sites=none/\codesW p.caps.length p.sites.length p.codes=none/\fallsW p.codes=none:=by
 unfold checkW at h
 obtain ⟨h1,h⟩:=or_none h
 obtain ⟨h2,h⟩:=or_none h
 obtain ⟨h3,h4⟩:=or_none h
 exact ⟨h1,h2,h3,h4⟩
theorem check_zero {p:Prg}:(checkT p).2.2=0 ↔ checkW p=none:=by
 unfold checkT
 cases h:checkW p with
 | none=>simp
 | some x=>
  simp only [Option.getD_some,reduceCtorEq,iff_false]
  have key:∀ {α:Type} {f:Nat->α->Option Wr} (l:List α) (n:Nat) (y:Wr),(∀ k x z,f k x=some z->z.2.2 ≠ 0)->firstI f n l=some y->y.2.2 ≠ 0:=by
   intro α f l
   induction l with
   | nil=>intro n y _ h;cases h
   | cons a t ih=>
    intro n y hf h
    unfold firstI at h
    rcases Option.or_eq_some_iff.1 h with h | ⟨_,h⟩
    ·exact hf _ _ _ h
    ·exact ih _ _ hf h
  have kw:∀ {b:Bool} {u z:Wr},u.2.2 ≠ 0->wrongIf b u=some z->z.2.2 ≠ 0:=by
   intro b u z hu hz
   cases b
   ·simp [wrongIf] at hz;subst hz;exact hu
   ·simp [wrongIf] at hz
  unfold checkW at h
  rcases Option.or_eq_some_iff.1 h with h | ⟨_,h⟩
  ·unfold chansW at h
   rcases Option.or_eq_some_iff.1 h with h | ⟨_,h⟩
   ·exact kw (by decide) h
   ·exact key _ _ _ (fun k x z hz=>kw (by simp) hz) h
  rcases Option.or_eq_some_iff.1 h with h | ⟨_,h⟩
  ·unfold sitesW at h
   rcases Option.or_eq_some_iff.1 h with h | ⟨_,h⟩
   ·exact kw (by decide) h
   ·refine key _ _ _ (fun k x z hz=>?_) h
    unfold siteW at hz
    rcases Option.or_eq_some_iff.1 hz with hz | ⟨_,hz⟩
    ·exact kw (by simp) hz
    ·exact key _ _ _ (fun k x z hz=>kw (by simp) hz) hz
  rcases Option.or_eq_some_iff.1 h with h | ⟨_,h⟩
  ·unfold codesW at h
   rcases Option.or_eq_some_iff.1 h with h | ⟨_,h⟩
   ·exact kw (by decide) h
   ·refine key _ _ _ (fun k x z hz=>?_) h
    unfold codeW at hz
    rcases Option.or_eq_some_iff.1 hz with hz | ⟨_,hz⟩
    ·exact kw (by simp) hz
    ·exact key _ _ _ (fun k x z hz=>kw (by simp) hz) hz
  ·unfold fallsW at h
   exact key _ _ _ (fun k x z hz=>by unfold fallW at hz;exact kw (by simp) hz) h
section
variable {p:Prg} {m n:Nat} {c:List In} {x:In}
theorem may_ins (h:checkW p=none) (hc:p.codes[m]?=some c) (hx:c[n]?=some x):checkB x p.caps.length p.sites.length p.codes.length c.length=true:=by
 obtain ⟨_,_,h3,_⟩:=check_parts h
 unfold codesW at h3
 have:=firstI_none.1 (or_none h3).2 m c hc
 unfold codeW at this
 have:=firstI_none.1 (or_none this).2 n x hx
 exact wrongIf_none this
theorem may_last (h:checkW p=none) (hc:p.codes[m]?=some c) (hx:c[c.length - 1]?=some x):x.o=10 \/ x.o=3:=by
 obtain ⟨_,_,_,h4⟩:=check_parts h
 have:=firstI_none.1 h4 m c hc
 unfold fallW lastOp at this
 have:=wrongIf_none this
 rw [hx] at this
 simpa using this
theorem may_place {a b d l:Int} (h:checkB x a b d l=true) (ho:x.o=3 \/ x.o=4):0<=x.k/\x.k<l:=by
 obtain ⟨o,xa,xb,xc,xk⟩:=x
 simp only at ho ⊢
 rcases ho with rfl | rfl
 ·simp [checkB,pairs,namesOf,In.get,checkStep,mayB,belowB] at h
  exact h.2
 ·simp [checkB,pairs,namesOf,In.get,checkStep,mayB,belowB] at h
  exact h.2
end
theorem takeD {P:Program} {md:Region.Mode} {ops:Array Oper} {Q:Exit->Act->World->Prop} {S:World->Prop} {i:Nat} {d:Option Tmp} {v:Value} {fuel:Nat} {listed:Array Bool} {a:Act} {w:World} (hd:(ops[i]?).map Oper.dst=some d)
  (hs:Region.noSelect ops=true) (hf:Region.free md ops listed i=true) (hr:(Region.ready md ops listed).contains i=true)
  (hQ:∀ c a w,Q (.panic c) (a.put d v) w->Q (.panic c) a w) (hy:∀ oi,ops[i]?=some oi->YieldsIf P ops S oi v a) (hS:S w)
  (h:wpAnyH P md ops Q S fuel (listed.setIfInBounds i true) (a.put d v) w):wpAnyH P md ops Q S (fuel+1) listed a w:=by
 cases ho:ops[i]? with
 | none=>rw [ho] at hd;cases hd
 | some oi=>
  rw [ho] at hd
  simp only [Option.map_some,Option.some.injEq] at hd
  subst hd
  exact wpAnyH_take ho hs hf hr hQ (hy oi ho) hS h
theorem blk_at {W:World} {t:TypeId} {cs:Array Value} {n:Nat} (hn:n=W.heap.size):Blk (W.alloc (.cells cs t)) n t cs:=by subst hn;exact blk_new W t cs
theorem Blk.on {W W':World} {B:Nat} {t:TypeId} {cs:Array Value} (h:Blk W B t cs) (hb:Below W.heap.size W W'):Blk W' B t cs:=h.later hb h.lt
end Go.Proofs.YtnfbncgfpmcpnaaGreat
