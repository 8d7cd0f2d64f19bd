/-
  ReplayNext: its walks, part 9.
-/
import Derived.ChangeKeysEq
import Derived.Laws.ShiftsVarLaws
import Derived.Test.YtnfbncgfpmcpnaaGreatQ08
set_option maxRecDepth 100000
set_option maxHeartbeats 12800000
namespace Go.Proofs.YtnfbncgfpmcpnaaGreat
open Go.RowKit Go.Shelf
attribute [local go_sem] Oper.semAt_some
structure RunV (n0:Nat) (X:World) (v1 v2 v3:Value) (most:Int) (f g:Fra) (n e:Int):Prop where
 p:Blk X n0 26 #[v1,v2,v3]
 f:FrAt X (n0+1) f
 m:Boxed X (n0+1+1) 3 (.int .i64 most)
 g:FrAt X (n0+1+1+1) g
 n:Boxed X (n0+1+1+1+1) 3 (.int .i64 n)
 e:Boxed X (n0+1+1+1+1+1) 31 (.int .i64 e)
theorem RunV.later {n0 k:Nat} {X Y:World} {v1 v2 v3:Value} {most:Int} {f g:Fra} {n e:Int} (h:RunV n0 X v1 v2 v3 most f g n e) (hb:Below k X Y) (hk:n0+1+1+1+1+1<k):RunV n0 Y v1 v2 v3 most f g n e:=
 ⟨h.p.later hb (by omega),h.f.later hb (by omega),(hb.block _ (by omega)).trans h.m,h.g.later hb (by omega),(hb.block _ (by omega)).trans h.n,(hb.block _ hk).trans h.e⟩
theorem run_mem (w:World) (v1 v2 v3:Value) (most:Int) (f:Fra) :
  ∀ W,W=(((((w.alloc (.cells #[v1,v2,v3] 26)).alloc (.cells (fraA f) 61)).alloc (.cells #[.int .i64 most] 3)).alloc (.cells (fraA Fra.zero) 61)).alloc (.cells #[.int .i64 0] 3)).alloc (.cells #[.int .i64 0] 31)->
  Below w.heap.size w W/\RunV w.heap.size W v1 v2 v3 most f Fra.zero 0 0/\W.heap.size=w.heap.size+1+1+1+1+1+1:=by
 rintro W rfl
 refine ⟨(((((Below.refl _ w).alloc (Nat.le_refl _) _).alloc (by simp) _ |>.alloc (by simp;omega) _).alloc (by simp;omega) _).alloc (by simp;omega) _).alloc (by simp;omega) _,⟨?_,?_,?_,?_,?_,?_⟩,by simp⟩
 ·exact (((((blk_new w _ _).alloc _).alloc _).alloc _).alloc _).alloc _
 ·exact ((((blk_at (by simp)).alloc _).alloc _).alloc _).alloc _
 ·exact (((blk_at (by simp)).alloc _).alloc _).alloc _
 ·exact ((blk_at (by simp)).alloc _).alloc _
 ·exact (blk_at (by simp)).alloc _
 ·exact blk_at (by simp)
theorem RunV.setN {n0:Nat} {X:World} {v1 v2 v3:Value} {most:Int} {f g:Fra} {n e:Int} (h:RunV n0 X v1 v2 v3 most f g n e) (m:Int):RunV n0 (X.setCell ⟨n0+1+1+1+1,0,none⟩ (.int .i64 m)) v1 v2 v3 most f g m e:=
 ⟨h.p.beside (by simp;try omega) _,h.f.beside (by simp;try omega) _,h.m.other (by omega) _,h.g.beside (by simp) _,h.n.set _,h.e.other (by omega) _⟩
theorem RunV.drew {n0:Nat} {X:World} {v1 v2 v3:Value} {most:Int} {f g:Fra} {n e:Int} (h:RunV n0 X v1 v2 v3 most f g n e):RunV n0 X.drew v1 v2 v3 most f g n e:=⟨h.p,h.f,h.m,h.g,h.n,h.e⟩
theorem RunV.setE {n0:Nat} {X:World} {v1 v2 v3:Value} {most:Int} {f g:Fra} {n e:Int} (h:RunV n0 X v1 v2 v3 most f g n e) (m:Int):RunV n0 (X.setCell ⟨n0+1+1+1+1+1,0,none⟩ (.int .i64 m)) v1 v2 v3 most f g n m:=
 ⟨h.p.beside (by simp;try omega) _,h.f.beside (by simp;try omega) _,h.m.other (by omega) _,h.g.beside (by simp;try omega) _,h.n.other (by omega) _,h.e.set _⟩
theorem RunV.setG {n0:Nat} {X:World} {v1 v2 v3:Value} {most:Int} {f g:Fra} {n e:Int} (h:RunV n0 X v1 v2 v3 most f g n e) (k:Fra) :
  RunV n0 ((((((((((X.setCell ⟨n0+1+1+1,0,none⟩ (.int .i64 k.c)).setCell ⟨n0+1+1+1,1,none⟩ (.int .i64 k.p)).setCell ⟨n0+1+1+1,2,none⟩ (.int .i64 k.r0)).setCell ⟨n0+1+1+1,3,none⟩ (.int .i64 k.r1)).setCell ⟨n0+1+1+1,4,none⟩ (.int .i64 k.r2)).setCell ⟨n0+1+1+1,5,none⟩ (.int .i64 k.r3)).setCell ⟨n0+1+1+1,6,none⟩ (.int .i64 k.r4)).setCell ⟨n0+1+1+1,7,none⟩ (.int .i64 k.r5)).setCell ⟨n0+1+1+1,8,none⟩ (.int .i64 k.r6)).setCell ⟨n0+1+1+1,9,none⟩ (.int .i64 k.r7)) v1 v2 v3 most f k n e/\But [n0+1+1+1] X ((((((((((X.setCell ⟨n0+1+1+1,0,none⟩ (.int .i64 k.c)).setCell ⟨n0+1+1+1,1,none⟩ (.int .i64 k.p)).setCell ⟨n0+1+1+1,2,none⟩ (.int .i64 k.r0)).setCell ⟨n0+1+1+1,3,none⟩ (.int .i64 k.r1)).setCell ⟨n0+1+1+1,4,none⟩ (.int .i64 k.r2)).setCell ⟨n0+1+1+1,5,none⟩ (.int .i64 k.r3)).setCell ⟨n0+1+1+1,6,none⟩ (.int .i64 k.r4)).setCell ⟨n0+1+1+1,7,none⟩ (.int .i64 k.r5)).setCell ⟨n0+1+1+1,8,none⟩ (.int .i64 k.r6)).setCell ⟨n0+1+1+1,9,none⟩ (.int .i64 k.r7)):=by
 have key:=sto10 h.g (.int .i64 k.c) (.int .i64 k.p) (.int .i64 k.r0) (.int .i64 k.r1) (.int .i64 k.r2) (.int .i64 k.r3) (.int .i64 k.r4) (.int .i64 k.r5) (.int .i64 k.r6) (.int .i64 k.r7)
 refine ⟨?_,key.2⟩
 obtain ⟨h1,h2⟩:=key
 exact ⟨but_on h.p h2 (by omega),but_on h.f h2 (by omega),h2.boxed h.m (by simp;try omega),h1,h2.boxed h.n (by simp;try omega),h2.boxed h.e (by simp;try omega)⟩
structure RunI (w:World) (v1 v2 v3:Value) (M:Nat) (f:Fra) (s:List (Fra × Bool)) (X:World):Prop where
 below:Below w.heap.size w X
 vars:RunV w.heap.size X v1 v2 v3 (M:Int) f Fra.zero (s.length:Int) 0
 len:s.length<=M
 all:∀ x ∈ s,x.2=true
def RunX (w:World) (v1 v2 v3:Value) (M:Nat) (f:Fra) (c:Code) (s:List (Fra × Bool)) (X:World):Prop:=
 ∃ t x,s=t ++ [x]/\(∀ y ∈ t,y.2=true)/\t.length<=M/\Below w.heap.size w X /\
  ((c=.ret/\x.2=false/\RunV w.heap.size X v1 v2 v3 (M:Int) f x.1 (t.length:Int) 0) \/ (c=.exit 0/\x.2=true/\t.length=M/\RunV w.heap.size X v1 v2 v3 (M:Int) f Fra.zero (M:Int) 5))
theorem RunI.later {w X Y:World} {v1 v2 v3:Value} {M k:Nat} {f:Fra} {s:List (Fra × Bool)} (h:RunI w v1 v2 v3 M f s X) (hb:Below k X Y) (hk:w.heap.size+1+1+1+1+1<k):RunI w v1 v2 v3 M f s Y:=
 ⟨h.below.trans (hb.mono (by omega)),h.vars.later hb hk,h.len,h.all⟩
theorem RunX.later {w X Y:World} {v1 v2 v3:Value} {M k:Nat} {f:Fra} {c:Code} {s:List (Fra × Bool)} (h:RunX w v1 v2 v3 M f c s X) (hb:Below k X Y) (hk:w.heap.size+1+1+1+1+1<k):RunX w v1 v2 v3 M f c s Y:=by
 obtain ⟨t,x,h1,h2,h3,h4,h5⟩:=h
 refine ⟨t,x,h1,h2,h3,h4.trans (hb.mono (by omega)),?_⟩
 rcases h5 with ⟨a,b,c⟩ | ⟨a,b,c,d⟩
 ·exact .inl ⟨a,b,c.later hb hk⟩
 ·exact .inr ⟨a,b,c,d.later hb hk⟩
theorem RunI.bnd {w X:World} {v1 v2 v3:Value} {M:Nat} {f:Fra} {s:List (Fra × Bool)} (h:RunI w v1 v2 v3 M f s X):BndF (w.heap.size+1+1+1+1) M s X:=⟨h.vars.n,h.len⟩
theorem KeepF.alloc {hi:Nat} {S:List Nat} (W:World) (o:Obj) (hl:hi<=W.heap.size):KeepF hi S W (W.alloc o):=
 ⟨by simp,fun k hk=>Below.heap_alloc _ _ _ (by omega),fun k q hq _ _=>(Below.heap_alloc _ _ _ (Array.getElem?_eq_some_iff.1 hq).1).trans hq⟩
theorem KeepF.set {hi:Nat} {S:List Nat} {X Y:World} (h:KeepF hi S X Y) {q:Addr} (hq:q.block ∈ S) (hl:hi<=q.block) (v:Value):KeepF hi S X (Y.setCell q v):=
 ⟨by simpa [World.setCell] using h.size,fun k hk=>(Below.heap_setCell Y q v k (by omega)).trans (h.low k hk),fun k o ho hc hn=>(Below.heap_setCell Y q v k (fun e=>hn (e ▸ hq))).trans (h.same k o ho hc hn)⟩
theorem keepsF_but {S:List Nat} {X Y:World} {B:Nat} (h:But S X Y) (hS:∀ k ∈ S,k<B):KeepsFrom B X Y:=
 ⟨h.size,fun k o hk ho _=>(h.block k (Array.getElem?_eq_some_iff.1 ho).1 (fun hn=>by have:=hS k hn;omega)).trans ho⟩
theorem KeepF.refl (hi:Nat) (S:List Nat) (W:World):KeepF hi S W W:=⟨Nat.le_refl _,fun _ _=>rfl,fun _ _ h _ _=>h⟩
theorem run_end (w W:World) (D:Nat) (T:Array Value) {v1 v2 v3:Value} {most:Int} {f g:Fra} {n e:Int} (h6:T[6]?.getD undef=.pointer (some ⟨w.heap.size+1+1+1,0,none⟩)) (h7:T[7]?.getD undef=.pointer (some ⟨w.heap.size+1+1+1+1,0,none⟩)) (h8:T[8]?.getD undef=.pointer (some ⟨w.heap.size+1+1+1+1+1,0,none⟩))
  (hV:RunV w.heap.size W v1 v2 v3 most f g n e) (hB:Below w.heap.size w W) (hD:w.heap.size+1+1+1+1+1<D) (hK:W.heap[D]?=some (.deferred (some []))) :
  bodyPostM Fence.wide 4 Tryz.prog Tryz.f117 (fun r w'=>r=.returned (.tuple #[fraV g,.int .i64 n,.int .i64 e])/\Below w.heap.size w w') .ret { tmps:=T,defers:=[{ target:=Target.collected D,args:=#[] }] } W:=by
 have hbo:=below_obj W (.deferred none) (Nat.le_refl D)
 have hV':=hV.later hbo hD
 refine ⟨by simp,.inl ⟨_,_,rfl,run_takeDeferred hK,?_⟩⟩
 obtain ⟨q0,q1,q2,q3,q4,q5,q6,q7,q8,q9⟩:=fra_cells hV'.g
 have nc:=hV'.n.cell
 have ec:=hV'.e.cell
 refine ⟨.tuple #[fraV g,.int .i64 n,.int .i64 e],?_,rfl,hB.trans (hbo.mono (by omega))⟩
 simp [results,Tryz.f117,go_sem,h6,h7,h8,q0,q1,q2,q3,q4,q5,q6,q7,q8,q9,nc,ec]
theorem run_ok {lo hi:Nat} {v1 v2 v3:Value} {p:Prg} (w:World) (h:PrgAt lo hi w v1 v2 v3 p) (hs:Small p) (hm:checkW p=none) (f:Fra) (hat:(atF p f).isSome=true) (M:Nat) (hM:M<=65536) {G:Fra} {N E:Int} (HGo:Hid (runF p M 0 f=(G,N,E))) :
  Calls Tryz.prog 117 #[.agg #[v1,v2,v3],fraV f,.int .i64 (M:Int)] w fun e w'=>e=.returned (.tuple #[fraV G,.int .i64 N,.int .i64 E])/\Below w.heap.size w w':=by
 obtain ⟨wf,hwf⟩:∃ wf,wf=(((((w.alloc (.cells #[v1,v2,v3] 26)).alloc (.cells (fraA f) 61)).alloc (.cells #[.int .i64 (M:Int)] 3)).alloc (.cells (fraA Fra.zero) 61)).alloc (.cells #[.int .i64 0] 3)).alloc (.cells #[.int .i64 0] 31):=⟨_,rfl⟩
 obtain ⟨hB,hV,hsz⟩:=run_mem w v1 v2 v3 (M:Int) f wf hwf
 have hc:=fcheck_any wf (h.later hB) hs f
 rw [hat,show okE true=0 from rfl] at hc
 have m0 : ¬ (M:Int)<0:=by omega
 have m1:(M:Int)<=65536:=by omega
 have m0d:decide ((M:Int)<0)=false:=decide_eq_false m0
 have m2d:decide ((65536:Int)<(M:Int))=false:=decide_eq_false (by omega)
 refine (callsIn_wide (n:=4)).1 ?_
 refine callsIn_of_wp_marks Tryz.func117 rfl trivial ?_ rfl
 simp only [Tryz.ntmps117,List.size_toArray,List.length_cons,List.length_nil,Nat.reduceAdd,Nat.reduceSub,Array.replicate_succ,Array.replicate_zero,List.push_toArray,List.append_toArray,List.nil_append,List.cons_append]
 refine wpIn_wide.2 ?_
 go_wp2_with fail
 go_step3
 rw [show (#[.int .i64 0,.int .i64 0,.int .i64 0,.int .i64 0,.int .i64 0,.int .i64 0,.int .i64 0,.int .i64 0,.int .i64 0,.int .i64 0]:Array Value)=fraA Fra.zero from rfl, <- hwf]
 clear hwf
 have p0:=hV.p.cell (k:=0) (v:=v1) rfl
 have p1:=hV.p.cell (k:=1) (v:=v2) rfl
 have p2:=hV.p.cell (k:=2) (v:=v3) rfl
 obtain ⟨q0,q1,q2,q3,q4,q5,q6,q7,q8,q9⟩:=fra_cells hV.f
 go_wp2_with fail
 refine hc.mono ?_
 rintro e w1 ⟨rfl,hb⟩
 have hB1:=below_next hB hb (Nat.le_refl _)
 have hV1:=hV.later hb (by omega)
 have hs1:w.heap.size+1+1+1+1+1+1<=w1.heap.size:=by rw [<- hsz];exact hb.size
 clear hc hB hb hV hsz p0 p1 p2 q0 q1 q2 q3 q4 q5 q6 q7 q8 q9
 have p0:=hV1.p.cell (k:=0) (v:=v1) rfl
 have p1:=hV1.p.cell (k:=1) (v:=v2) rfl
 have p2:=hV1.p.cell (k:=2) (v:=v3) rfl
 obtain ⟨q0,q1,q2,q3,q4,q5,q6,q7,q8,q9⟩:=fra_cells hV1.f
 have mc:=hV1.m.cell
 go_wp2_with fail
 go_step3
 go_wp2_with fail
 refine (frames_any v1 v2 v3 f _).mono ?_
 rintro e w2 ⟨rfl,hw2⟩
 have sz2:w2.heap.size=w1.heap.size+1+1:=by rw [hw2];simp
 have hb12:Below w1.heap.size w1 w2:=by rw [hw2];exact below2 w1 _ _
 have hB2:=below_next hB1 hb12 (Nat.le_refl _)
 have hV2:=hV1.later hb12 (by omega)
 have hPB:Blk w2 w1.heap.size 26 #[v1,v2,v3]:=by rw [hw2];exact (blk_new w1 _ _).alloc _
 have hFB:FrAt w2 (w1.heap.size+1) f:=by rw [hw2];exact blk_at (by simp)
 obtain ⟨PB,hPBe⟩:∃ PB,PB=w1.heap.size:=⟨_,rfl⟩
 rw [<- hPBe] at hPB hFB sz2 hs1 ⊢
 clear hB1 hV1 hb12 p0 p1 p2 q0 q1 q2 q3 q4 q5 q6 q7 q8 q9 mc hw2 hPBe
 go_wp2_with fail
 refine (wpIn_wide (n:=4)).1 ?_
 refine range_upto rfl (by omega) (gf:=168) (lb:=#[.pointer (some ⟨PB+1,0,none⟩),.pointer (some ⟨PB,0,none⟩)]) rfl trivial (enters_of Tryz.func168 (by kernel_rfl) rfl)
  (frames1_upto (C:=w.heap.size+1+1+1+1) (M:=M) (S:=[w.heap.size+1+1+1,w.heap.size+1+1+1+1,w.heap.size+1+1+1+1+1]) w2 (h.later hB2) hs hm hPB hFB (by simp;omega) (by simp;omega) hat)
  (fun h k=>KeepF.trans h k) (fun W l o o' hl ho h1 h2=>KeepF.obj W l o o' (by have:=h.top;omega) ho h1 h2) (fun _=>rfl)
  (RunI w v1 v2 v3 M f) (RunX w v1 v2 v3 M f) (fun s X Y h hb=>h.later hb (by omega)) (fun c s X Y h hb=>h.later hb (by omega)) (fun s X h=>h.bnd) ⟨hB2,hV2,Nat.zero_le _,fun x hx=>by simp at hx⟩
  (fun x a' X=>∃ D,w.heap.size+1+1+1+1+1<D/\FrAt X D x.1/\a' = { tmps:=#[.agg #[v1,v2,v3],fraV f,.int .i64 (M:Int),.pointer (some ⟨w.heap.size,0,none⟩),.pointer (some ⟨w.heap.size+1,0,none⟩),.pointer (some ⟨w.heap.size+1+1,0,none⟩),.pointer (some ⟨w.heap.size+1+1+1,0,none⟩),.pointer (some ⟨w.heap.size+1+1+1+1,0,none⟩),.pointer (some ⟨w.heap.size+1+1+1+1+1,0,none⟩),.pointer (some ⟨D,0,none⟩),.int .i64 (eOf x.2),.agg #[v1,v2,v3],.agg #[.int .i64 f.c,.int .i64 f.p,.int .i64 f.r0,.int .i64 f.r1,.int .i64 f.r2,.int .i64 f.r3,.int .i64 f.r4,.int .i64 f.r5,.int .i64 f.r6,.int .i64 f.r7],.int .i64 0,.bool false,.bool false,.int .i64 (M:Int),.bool false,.bool false,.bool false,.int .i64 (M:Int),.bool false,.bool false,undef,.agg #[v1,v2,v3],.agg #[.int .i64 f.c,.int .i64 f.p,.int .i64 f.r0,.int .i64 f.r1,.int .i64 f.r2,.int .i64 f.r3,.int .i64 f.r4,.int .i64 f.r5,.int .i64 f.r6,.int .i64 f.r7],.func (.func 168) #[] #[.pointer (some ⟨PB+1,0,none⟩),.pointer (some ⟨PB,0,none⟩)],fraV x.1,.int .i64 (eOf x.2),undef,undef,undef,undef,undef,undef,undef,undef,undef,undef,undef,undef,undef,undef,undef,undef,undef],defers:=[] }) ?hAx ?assign ?body ?done ?stop
 case hAx=>
  rintro x a' X l o o' ⟨D,hD,hF,rfl⟩ hl ho
  refine ⟨D,hD,?_,rfl⟩
  have hne:D ≠ l:=fun e=>by
   subst e
   rw [show X.heap[D]?=_ from hF] at hl
   cases hl
   cases ho
  exact (World.putObj_heap_other hne).trans hF
 case assign=>
  rintro l s x W K hI hK
  obtain ⟨g,b⟩:=x
  simp only [encF]
  gi_wp2
  have hlt:w.heap.size+1+1+1+1+1<W.heap.size:=hI.vars.e.lt
  exact hK _ _ ((KeepsOthers.alloc W _).from _) (KeepF.alloc W _ (by have:=h.top;omega)) (hI.later ((Below.refl _ W).alloc (Nat.le_refl _) _) hlt) ⟨W.heap.size,hlt,blk_new W _ _,rfl⟩
 case body=>
  rintro l s x a' W hI ⟨D,hD,hF,rfl⟩
  obtain ⟨g,b⟩:=x
  have hV:=hI.vars
  have nc:=hV.n.cell
  have nf:=hV.n.frozen
  have ec:=hV.e.cell
  have ef:=hV.e.frozen
  have mc:=hV.m.cell
  obtain ⟨q0,q1,q2,q3,q4,q5,q6,q7,q8,q9⟩:=fra_cells hF
  cases b with
  | false=>
   have e8:eOf false=8:=rfl
   simp only [e8]
   obtain ⟨z0,z1,z2,z3,z4,z5,z6,z7,z8,z9⟩:=fra_cells hV.g
   have zf:=hV.g.frozen
   have hG:=hV.setG g
   have hXV:=(hG.1.setN (s.length:Int)).setE 0
   have hXN:=((hG.2.mono (T:=[w.heap.size+1+1+1,w.heap.size+1+1+1+1,w.heap.size+1+1+1+1+1]) (by simp)).set (p:=⟨w.heap.size+1+1+1+1,0,none⟩) (.inl (by simp)) (.int .i64 (s.length:Int))).set (p:=⟨w.heap.size+1+1+1+1+1,0,none⟩) (.inl (by simp)) (.int .i64 0)
   obtain ⟨W5,hW5,h5,h6⟩:∃ W5,W5=(((((((((((((W.setCell ⟨w.heap.size+1+1+1,0,none⟩ (.int .i64 g.c)).setCell ⟨w.heap.size+1+1+1,1,none⟩ (.int .i64 g.p)).setCell ⟨w.heap.size+1+1+1,2,none⟩ (.int .i64 g.r0)).setCell ⟨w.heap.size+1+1+1,3,none⟩ (.int .i64 g.r1)).setCell ⟨w.heap.size+1+1+1,4,none⟩ (.int .i64 g.r2)).setCell ⟨w.heap.size+1+1+1,5,none⟩ (.int .i64 g.r3)).setCell ⟨w.heap.size+1+1+1,6,none⟩ (.int .i64 g.r4)).setCell ⟨w.heap.size+1+1+1,7,none⟩ (.int .i64 g.r5)).setCell ⟨w.heap.size+1+1+1,8,none⟩ (.int .i64 g.r6)).setCell ⟨w.heap.size+1+1+1,9,none⟩ (.int .i64 g.r7)).setCell ⟨w.heap.size+1+1+1+1,0,none⟩ (.int .i64 (s.length:Int))).setCell ⟨w.heap.size+1+1+1+1+1,0,none⟩ (.int .i64 0))).drew/\RunV w.heap.size W5 v1 v2 v3 (M:Int) f g (s.length:Int) 0/\But [w.heap.size+1+1+1,w.heap.size+1+1+1+1,w.heap.size+1+1+1+1+1] W W5:=⟨_,rfl,hXV.drew,hXN.drew⟩
   have HW:=Lib.hid hW5
   clear hXV hXN hG hW5
   gi_wp2
   gi_region
   all_goals gi_wp2
   all_goals rw [<- HW.out]
   all_goals exact ⟨keepsF_but h6 (by simp;omega),s,(g,false),rfl,hI.all,hI.len,hI.below.trans (h6.below hI.below.size (by simp;omega)),.inl ⟨rfl,rfl,h5⟩⟩
  | true=>
   have e0:eOf true=0:=rfl
   simp only [e0]
   by_cases hn:s.length=M
   ·have hnb:((s.length:Int) == (M:Int))=true:=by simp;omega
    have HN:=Lib.hid hn
    clear hn
    gi_wp2
    refine ⟨((KeepsOthers.refl W).trans (KeepsOthers.setCell W _ _)).from _,s,(g,true),rfl,hI.all,hI.len,hI.below.setCell (by simp;try omega) _,.inr ⟨rfl,rfl,HN.out,?_⟩⟩
    have h5:=hV.setE 5
    rw [HN.out] at h5
    exact h5
   ·have hnb:((s.length:Int) == (M:Int))=false:=by simp;omega
    have hw:IntKind.i64.wrap ((s.length:Int)+1)=(s.length:Int)+1:=by rw [IntKind.wrap_i64];have:=hI.len;omega
    have HN:=Lib.hid hn
    clear hn
    gi_wp2
    refine ⟨(KeepsOthers.setCell W _ _).from _,(KeepF.refl _ _ _).set (by simp) (by have:=h.top;simp;omega) _,hI.below.setCell (by simp;try omega) _,?_,?_,?_⟩
    ·rw [show ((s ++ [(g,true)]).length:Int)=(s.length:Int)+1 by simp]
     exact hV.setN _
    ·have:=hI.len
     have:=HN.out
     simp;omega
    ·intro y hy
     rcases List.mem_append.1 hy with hy | hy
     ·exact hI.all y hy
     ·simp at hy;rw [hy]
 case done=>
  rintro D s W hD ⟨t,x,rfl,hx⟩ hI hK
  exact absurd (hI.all x (by simp)) (by rw [hx];decide)
 case stop=>
  rintro D c s W hD ⟨hne,hsq⟩ ⟨t,x,rfl,hall,hlen,hBe,h5⟩ hK
  have hx:x=itemF p f t.length:=hsq t.length x (by simp)
  have hloc:∀ j,j<t.length->locAt p (runK p f j)=true:=fun j hj=>by
   have h1:=hsq j t[j] (by rw [List.getElem?_append_left hj,List.getElem?_eq_getElem hj])
   have h2:=hall _ (List.getElem_mem hj)
   rw [h1] at h2
   exact h2
  have hDl:w.heap.size+1+1+1+1+1<D:=by omega
  have hbo:=below_obj W (.deferred none) (Nat.le_refl D)
  rcases h5 with ⟨rfl,hb,hV⟩ | ⟨rfl,hb,hM2,hV⟩
  ·have hR:runF p M 0 f=(x.1,(t.length:Int),0):=by
    rw [runF_ends t.length M 0 f hlen hloc (by rw [hx] at hb;exact hb),Nat.zero_add,hx];rfl
   rw [HGo.out,Prod.mk.injEq,Prod.mk.injEq] at hR
   obtain ⟨rfl,rfl,rfl⟩:=hR
   have hV':=hV.later hbo hDl
   have HV:=Lib.hid hV'
   have hBB:Below w.heap.size w (W.putObj D (.deferred none)):=hBe.trans (hbo.mono (by omega))
   clear hx hb hV' hsq hloc hall
   gi_wp2
   rw [Exit.noGoto_ret]
   exact run_end w W D _ rfl rfl rfl hV hBe hDl hK
  ·have hR:runF p M 0 f=(Fra.zero,0,5):=runF_long M 0 f (fun j hj=>by
    by_cases h1:j<t.length
    ·exact hloc j h1
    ·have:j=t.length:=by omega
     rw [this]
     rw [hx] at hb
     exact hb)
   rw [HGo.out,Prod.mk.injEq,Prod.mk.injEq] at hR
   obtain ⟨rfl,rfl,rfl⟩:=hR
   clear hx hb hsq hloc hall
   have nc:=hV.n.cell
   have nf:=hV.n.frozen
   have ec:=hV.e.cell
   have ef:=hV.e.frozen
   obtain ⟨z0,z1,z2,z3,z4,z5,z6,z7,z8,z9⟩:=fra_cells hV.g
   have zf:=hV.g.frozen
   have hG:=hV.setG Fra.zero
   have hXV:=(hG.1.setN 0).setE 5
   have hXN:=((hG.2.mono (T:=[w.heap.size+1+1+1,w.heap.size+1+1+1+1,w.heap.size+1+1+1+1+1]) (by simp)).set (p:=⟨w.heap.size+1+1+1+1,0,none⟩) (.inl (by simp)) (.int .i64 0)).set (p:=⟨w.heap.size+1+1+1+1+1,0,none⟩) (.inl (by simp)) (.int .i64 5)
   obtain ⟨W5,hW5,h5,h6⟩:∃ W5,W5=(((((((((((((W.setCell ⟨w.heap.size+1+1+1,0,none⟩ (.int .i64 0)).setCell ⟨w.heap.size+1+1+1,1,none⟩ (.int .i64 0)).setCell ⟨w.heap.size+1+1+1,2,none⟩ (.int .i64 0)).setCell ⟨w.heap.size+1+1+1,3,none⟩ (.int .i64 0)).setCell ⟨w.heap.size+1+1+1,4,none⟩ (.int .i64 0)).setCell ⟨w.heap.size+1+1+1,5,none⟩ (.int .i64 0)).setCell ⟨w.heap.size+1+1+1,6,none⟩ (.int .i64 0)).setCell ⟨w.heap.size+1+1+1,7,none⟩ (.int .i64 0)).setCell ⟨w.heap.size+1+1+1,8,none⟩ (.int .i64 0)).setCell ⟨w.heap.size+1+1+1,9,none⟩ (.int .i64 0)).setCell ⟨w.heap.size+1+1+1+1,0,none⟩ (.int .i64 0)).setCell ⟨w.heap.size+1+1+1+1+1,0,none⟩ (.int .i64 5))).drew/\RunV w.heap.size W5 v1 v2 v3 (M:Int) f Fra.zero 0 5/\But [w.heap.size+1+1+1,w.heap.size+1+1+1+1,w.heap.size+1+1+1+1+1] W W5:=⟨_,rfl,hXV.drew,hXN.drew⟩
   have HW:=Lib.hid hW5
   have hK5:=(h6.block D (Array.getElem?_eq_some_iff.1 hK).1 (by simp;omega)).trans hK
   clear hXV hXN hG hW5
   gi_wp2
   go_wp2_with fail
   go_region
   all_goals go_wp2_with fail
   all_goals rw [Exit.noGoto_ret, <- HW.out]
   all_goals exact run_end w W5 D _ rfl rfl rfl h5 (hBe.trans (h6.below hBe.size (by simp;omega))) hDl hK5
theorem run_bad {lo hi:Nat} {v1 v2 v3:Value} {p:Prg} (w:World) (h:PrgAt lo hi w v1 v2 v3 p) (hs:Small p) (f:Fra) (most:Int) (hbad:((atF p f).isSome && decide (0<=most) && decide (most<=65536))=false) :
  Calls Tryz.prog 117 #[.agg #[v1,v2,v3],fraV f,.int .i64 most] w fun e w'=>e=.returned (.tuple #[fraV Fra.zero,.int .i64 0,.int .i64 2])/\Below w.heap.size w w':=by
 obtain ⟨wf,hwf⟩:∃ wf,wf=(((((w.alloc (.cells #[v1,v2,v3] 26)).alloc (.cells (fraA f) 61)).alloc (.cells #[.int .i64 most] 3)).alloc (.cells (fraA Fra.zero) 61)).alloc (.cells #[.int .i64 0] 3)).alloc (.cells #[.int .i64 0] 31):=⟨_,rfl⟩
 obtain ⟨hB,hV,hsz⟩:=run_mem w v1 v2 v3 most f wf hwf
 have hc:=fcheck_any wf (h.later hB) hs f
 go_enter Tryz.func117,Tryz.ntmps117
 go_wp2_with fail
 go_step3
 rw [show (#[.int .i64 0,.int .i64 0,.int .i64 0,.int .i64 0,.int .i64 0,.int .i64 0,.int .i64 0,.int .i64 0,.int .i64 0,.int .i64 0]:Array Value)=fraA Fra.zero from rfl, <- hwf]
 clear hwf
 have p0:=hV.p.cell (k:=0) (v:=v1) rfl
 have p1:=hV.p.cell (k:=1) (v:=v2) rfl
 have p2:=hV.p.cell (k:=2) (v:=v3) rfl
 obtain ⟨q0,q1,q2,q3,q4,q5,q6,q7,q8,q9⟩:=fra_cells hV.f
 go_wp2_with fail
 refine hc.mono ?_
 rintro e w1 ⟨rfl,hb⟩
 have hB1:=below_next hB hb (Nat.le_refl _)
 have hV1:=hV.later hb (by omega)
 clear hc hB hb hV hsz p0 p1 p2 q0 q1 q2 q3 q4 q5 q6 q7 q8 q9
 have mc:=hV1.m.cell
 have nc:=hV1.n.cell
 have nf:=hV1.n.frozen
 have ec:=hV1.e.cell
 have ef:=hV1.e.frozen
 obtain ⟨z0,z1,z2,z3,z4,z5,z6,z7,z8,z9⟩:=fra_cells hV1.g
 have zf:=hV1.g.frozen
 have hG:=hV1.setG Fra.zero
 have hXV:=(hG.1.setN 0).setE 2
 have hXN:=((hG.2.mono (T:=[w.heap.size+1+1+1,w.heap.size+1+1+1+1,w.heap.size+1+1+1+1+1]) (by simp)).set (p:=⟨w.heap.size+1+1+1+1,0,none⟩) (.inl (by simp)) (.int .i64 0)).set (p:=⟨w.heap.size+1+1+1+1+1,0,none⟩) (.inl (by simp)) (.int .i64 2)
 obtain ⟨W5,hW5,h5,h6⟩:∃ W5,W5=(((((((((((((w1.setCell ⟨w.heap.size+1+1+1,0,none⟩ (.int .i64 0)).setCell ⟨w.heap.size+1+1+1,1,none⟩ (.int .i64 0)).setCell ⟨w.heap.size+1+1+1,2,none⟩ (.int .i64 0)).setCell ⟨w.heap.size+1+1+1,3,none⟩ (.int .i64 0)).setCell ⟨w.heap.size+1+1+1,4,none⟩ (.int .i64 0)).setCell ⟨w.heap.size+1+1+1,5,none⟩ (.int .i64 0)).setCell ⟨w.heap.size+1+1+1,6,none⟩ (.int .i64 0)).setCell ⟨w.heap.size+1+1+1,7,none⟩ (.int .i64 0)).setCell ⟨w.heap.size+1+1+1,8,none⟩ (.int .i64 0)).setCell ⟨w.heap.size+1+1+1,9,none⟩ (.int .i64 0)).setCell ⟨w.heap.size+1+1+1+1,0,none⟩ (.int .i64 0)).setCell ⟨w.heap.size+1+1+1+1+1,0,none⟩ (.int .i64 2)))/\RunV w.heap.size W5 v1 v2 v3 most f Fra.zero 0 2/\But [w.heap.size+1+1+1,w.heap.size+1+1+1+1,w.heap.size+1+1+1+1+1] w1 W5:=⟨_,rfl,hXV,hXN⟩
 have HW:=Lib.hid hW5
 have hB5:Below w.heap.size w W5:=hB1.trans (h6.below hB1.size (by simp;omega))
 clear hXV hXN hG hW5 hV1 h6
 cases hi:(atF p f).isSome with
 | false=>
  clear hbad hi
  have e2:okE false=2:=rfl
  rw [e2]
  go_wp2_with fail
  rw [Exit.noGoto_ret, <- HW.out]
  clear mc nc nf ec ef z0 z1 z2 z3 z4 z5 z6 z7 z8 z9 zf
  obtain ⟨q0,q1,q2,q3,q4,q5,q6,q7,q8,q9⟩:=fra_cells h5.g
  have nc:=h5.n.cell
  have ec:=h5.e.cell
  refine bodyPost_ret (v:=.tuple #[fraV Fra.zero,.int .i64 0,.int .i64 2]) (by simp [results,Tryz.f117,go_sem,q0,q1,q2,q3,q4,q5,q6,q7,q8,q9,nc,ec]) rfl ⟨rfl,hB5⟩
 | true=>
  have e0:okE true=0:=rfl
  rw [e0]
  rw [hi,Bool.true_and] at hbad
  clear hi
  by_cases hm0:most<0
  ·have m0d:decide (most<0)=true:=by simpa using hm0
   clear hbad
   go_wp2_with fail
   rw [Exit.noGoto_ret, <- HW.out]
   clear mc nc nf ec ef z0 z1 z2 z3 z4 z5 z6 z7 z8 z9 zf
   obtain ⟨q0,q1,q2,q3,q4,q5,q6,q7,q8,q9⟩:=fra_cells h5.g
   have nc:=h5.n.cell
   have ec:=h5.e.cell
   refine bodyPost_ret (v:=.tuple #[fraV Fra.zero,.int .i64 0,.int .i64 2]) (by simp [results,Tryz.f117,go_sem,q0,q1,q2,q3,q4,q5,q6,q7,q8,q9,nc,ec]) rfl ⟨rfl,hB5⟩
  ·have m0d:decide (most<0)=false:=by simpa using hm0
   have m2:65536<most:=by
    simp only [Bool.and_eq_false_iff,decide_eq_false_iff_not] at hbad
    omega
   have m2d:decide (65536<most)=true:=by simpa using m2
   clear hbad
   go_wp2_with fail
   rw [Exit.noGoto_ret, <- HW.out]
   clear mc nc nf ec ef z0 z1 z2 z3 z4 z5 z6 z7 z8 z9 zf
   obtain ⟨q0,q1,q2,q3,q4,q5,q6,q7,q8,q9⟩:=fra_cells h5.g
   have nc:=h5.n.cell
   have ec:=h5.e.cell
   refine bodyPost_ret (v:=.tuple #[fraV Fra.zero,.int .i64 0,.int .i64 2]) (by simp [results,Tryz.f117,go_sem,q0,q1,q2,q3,q4,q5,q6,q7,q8,q9,nc,ec]) rfl ⟨rfl,hB5⟩
theorem run_any {lo hi:Nat} {v1 v2 v3:Value} {p:Prg} (w:World) (h:PrgAt lo hi w v1 v2 v3 p) (hs:Small p) (hm:checkW p=none) (f:Fra) (most:Int) :
  Calls Tryz.prog 117 #[.agg #[v1,v2,v3],fraV f,.int .i64 most] w fun e w'=>e=.returned (.tuple #[fraV (runT p f most).1,.int .i64 (runT p f most).2.1,.int .i64 (runT p f most).2.2])/\Below w.heap.size w w':=by
 cases hb:(atF p f).isSome && decide (0<=most) && decide (most<=65536) with
 | false=>
  have:runT p f most=(Fra.zero,0,2):=by unfold runT;rw [hb];rfl
  rw [this]
  exact run_bad w h hs f most hb
 | true=>
  have:runT p f most=runF p most.toNat 0 f:=by unfold runT;rw [hb];rfl
  rw [this]
  simp only [Bool.and_eq_true,decide_eq_true_eq] at hb
  obtain ⟨⟨h1,h2⟩,h3⟩:=hb
  have:=run_ok w h hs hm f h1 most.toNat (by omega) (Lib.hid rfl:Hid (runF p most.toNat 0 f=_))
  rw [Int.toNat_of_nonneg h2] at this
  exact this
open Go.RowKit
def noRec:Cas:=⟨true,0,0,0⟩
def chosenF (s:Sit) (k:Int):Option Cas:=
 if 0<=k/\k<(s.cs.length:Int) then s.cs[k.toNat]? else if k=(s.cs.length:Int)/\s.d=true then some noRec else none
def servedF (p:Prg) (x:In) (k:Int):Option Cas:=
 if x.o=8 then (p.sites[x.k.toNat]?).bind (fun s=>chosenF s k)
 else if k = -1 then some (if x.o=6 then ⟨false,x.c,x.a,x.b⟩ else noRec) else none
def recF (c:Cas) (f:Fra) (v:Int) (ok:Bool):Fra:=if c.s then f else (f.put c.v.toNat v).put c.o.toNat (if ok then 1 else 0)
def numF (x:In) (f:Fra) (k:Int):Fra:=if x.o=8 then f.put x.b.toNat k else f
def pcF (x:In) (f:Fra):Fra:=if x.o=10 then f else f.goto (f.p+1)
def doneG (c:Cas) (x:In) (f:Fra) (k v:Int) (ok:Bool):Fra:=pcF x (numF x (recF c f v ok) k)
def doneF (p:Prg) (f:Fra) (k v:Int) (ok:Bool):Fra × Int:=match atF p f with
 | none=>(Fra.zero,2)
 | some x=>if locO x.o then (Fra.zero,8) else match servedF p x k with
  | none=>(Fra.zero,2)
  | some c=>(doneG c x f k v ok,0)
section
variable {p:Prg} {f:Fra} {x:In}
theorem recF_c (c:Cas) (f:Fra) (v:Int) (ok:Bool):(recF c f v ok).c=f.c:=by unfold recF;split;rfl;rw [put_c,put_c]
theorem recF_p (c:Cas) (f:Fra) (v:Int) (ok:Bool):(recF c f v ok).p=f.p:=by unfold recF;split;rfl;rw [put_p,put_p]
theorem numF_c (x:In) (f:Fra) (k:Int):(numF x f k).c=f.c:=by unfold numF;split;rw [put_c];rfl
theorem numF_p (x:In) (f:Fra) (k:Int):(numF x f k).p=f.p:=by unfold numF;split;rw [put_p];rfl
theorem pcF_c (x:In) (f:Fra):(pcF x f).c=f.c:=by unfold pcF;split <;> rfl
theorem doneG_c (c:Cas) (x:In) (f:Fra) (k v:Int) (ok:Bool):(doneG c x f k v ok).c=f.c:=by unfold doneG;rw [pcF_c,numF_c,recF_c]
theorem doneG_p (c:Cas) (x:In) (f:Fra) (k v:Int) (ok:Bool):(doneG c x f k v ok).p=if x.o=10 then f.p else f.p+1:=by
 unfold doneG pcF
 split
 ·rw [numF_p,recF_p]
 ·show (numF x (recF c f v ok) k).p+1=_;rw [numF_p,recF_p]
theorem at_site (h:checkW p=none) (hx:atF p f=some x) (ho:x.o=8):0<=x.k/\x.k<(p.sites.length:Int):=by
 obtain ⟨m,n,c,_,_,hc,hn⟩:=atF_parts hx
 have:=may_ins h hc hn
 obtain ⟨o,xa,xb,xc,xk⟩:=x
 simp only at ho
 subst ho
 simp [checkB,okI,bareOf,bareStep,In.put,In.only,In.eq,known,pairs,namesOf,In.get,checkStep,mayB,belowB] at this ⊢
 omega
theorem site_cases (h:checkW p=none) {n:Nat} {s:Sit} (hs:p.sites[n]?=some s):∀ c ∈ s.cs,(0<=c.v/\c.v<8)/\(0<=c.o/\c.o<8):=by
 have h2:=(check_parts h).2.1
 unfold sitesW at h2
 have h3:=firstI_none.1 (or_none h2).2 n s hs
 unfold siteW at h3
 intro c hc
 obtain ⟨j,hj,rfl⟩:=List.mem_iff_getElem.1 hc
 have:=wrongIf_none (firstI_none.1 (or_none h3).2 j _ (List.getElem?_eq_getElem hj))
 unfold mayCaseB withinB at this
 simp at this
 omega
theorem served_regs (h:checkW p=none) (hx:atF p f=some x) {k:Int} {c:Cas} (hc:servedF p x k=some c):(0<=c.v/\c.v<8)/\(0<=c.o/\c.o<8):=by
 have hr:=at_regs h hx
 unfold servedF at hc
 split at hc
 ·cases hs:p.sites[x.k.toNat]? with
  | none=>rw [hs] at hc;cases hc
  | some s=>
   rw [hs] at hc
   simp only [Option.bind_some] at hc
   unfold chosenF at hc
   split at hc
   ·exact site_cases h hs c (List.mem_of_getElem? hc)
   ·split at hc
    ·cases hc;exact ⟨⟨by decide,by decide⟩,⟨by decide,by decide⟩⟩
    ·cases hc
 ·split at hc
  ·split at hc
   ·cases hc;exact hr
   ·cases hc;exact ⟨⟨by decide,by decide⟩,⟨by decide,by decide⟩⟩
  ·cases hc
theorem doneG_at (h:checkW p=none) (hx:atF p f=some x) (hl:locO x.o=false) (c:Cas) (k v:Int) (ok:Bool):(atF p (doneG c x f k v ok)).isSome=true:=by
 obtain ⟨m,n,cd,hfc,hfp,hc,hn⟩:=atF_parts hx
 unfold atF
 rw [doneG_c,doneG_p]
 split
 ·show (atF p f).isSome=true
  rw [hx];rfl
 ·rename_i ho
  rw [hfc,hfp]
  rcases at_next h hc hn with h1 | ⟨_,h1⟩
  ·exact h1
  ·simp [locO] at hl;omega
end
open Go.RowKit
def begF (c:Int):Fra:=Fra.at0 c Fra.zero
theorem begin_any (c:Int) (w:World):Calls Tryz.prog 26 #[.int .i64 c] w fun e w'=>e=.returned (fraV (begF c))/\Below w.heap.size w w':=by
 have hc:=spawn_any Fra.zero c (w.alloc (.cells (fraA Fra.zero) 61))
 have hb0:Below w.heap.size w (w.alloc (.cells (fraA Fra.zero) 61)):=(Below.refl _ w).alloc (Nat.le_refl _) _
 have hZ:=blk_new w 61 (fraA Fra.zero)
 obtain ⟨w1,hw1⟩:∃ w1,w1=w.alloc (.cells (fraA Fra.zero) 61):=⟨_,rfl⟩
 rw [<- hw1] at hc hb0 hZ
 go_enter Tryz.func26,Tryz.ntmps26
 go_wp2_with fail
 rw [show (#[.int .i64 0,.int .i64 0,.int .i64 0,.int .i64 0,.int .i64 0,.int .i64 0,.int .i64 0,.int .i64 0,.int .i64 0,.int .i64 0]:Array Value)=fraA Fra.zero from rfl, <- hw1]
 clear hw1
 refine hc.mono ?_
 rintro e w2 ⟨rfl,hb⟩
 have hB2:=below_next hb0 hb (Nat.le_refl _)
 have hZ2:=hZ.later hb hZ.lt
 obtain ⟨g,hg⟩:∃ g,g=Fra.at0 c Fra.zero:=⟨_,rfl⟩
 rw [<- hg]
 have HG:Hid (g=begF c):=Lib.hid hg
 clear hc hb0 hZ hb hg
 obtain ⟨z0,z1,z2,z3,z4,z5,z6,z7,z8,z9⟩:=fra_cells hZ2
 have zf:=hZ2.frozen
 obtain ⟨w5,hw5,hX5,hb5⟩:∃ w5,w5=((((((((((w2.setCell ⟨w.heap.size,0,none⟩ (.int .i64 g.c)).setCell ⟨w.heap.size,1,none⟩ (.int .i64 g.p)).setCell ⟨w.heap.size,2,none⟩ (.int .i64 g.r0)).setCell ⟨w.heap.size,3,none⟩ (.int .i64 g.r1)).setCell ⟨w.heap.size,4,none⟩ (.int .i64 g.r2)).setCell ⟨w.heap.size,5,none⟩ (.int .i64 g.r3)).setCell ⟨w.heap.size,6,none⟩ (.int .i64 g.r4)).setCell ⟨w.heap.size,7,none⟩ (.int .i64 g.r5)).setCell ⟨w.heap.size,8,none⟩ (.int .i64 g.r6)).setCell ⟨w.heap.size,9,none⟩ (.int .i64 g.r7))/\Blk w5 w.heap.size 61 (fraA g)/\But [w.heap.size] w2 w5:=⟨_,rfl,sto10 hZ2 (.int .i64 g.c) (.int .i64 g.p) (.int .i64 g.r0) (.int .i64 g.r1) (.int .i64 g.r2) (.int .i64 g.r3) (.int .i64 g.r4) (.int .i64 g.r5) (.int .i64 g.r6) (.int .i64 g.r7)⟩
 have hB5:=below_but hB2 hb5 (Nat.le_refl _) (by omega)
 go_wp2_with fail
 rw [<- hw5]
 obtain ⟨q0,q1,q2,q3,q4,q5,q6,q7,q8,q9⟩:=fra_cells hX5
 refine bodyPost_ret (v:=fraV g) (by simp [results,Tryz.f26,go_sem,q0,q1,q2,q3,q4,q5,q6,q7,q8,q9]) rfl ?_
 exact ⟨by rw [HG.out],hB5⟩
theorem runF_at {p:Prg} (hm:checkW p=none):∀ (m n:Nat) (f g:Fra) (k:Int),(atF p f).isSome=true->runF p m n f=(g,k,0)->(atF p g).isSome=true:=by
 have next:∀ f,locAt p f=true->(atF p (nextF p f)).isSome=true:=fun f hl=>by
  unfold locAt at hl
  unfold nextF
  cases hx:atF p f with
  | none=>rw [hx] at hl;cases hl
  | some x=>rw [hx] at hl;exact (doF_at hm hx hl).1
 intro m
 induction m with
 | zero=>
  intro n f g k ha h
  unfold runF at h
  cases hl:locAt p f with
  | true=>rw [hl] at h;simp at h
  | false=>
   rw [hl] at h
   simp only [Bool.false_eq_true,if_false,Prod.mk.injEq,and_true] at h
   rw [<- h.1];exact ha
 | succ m ih=>
  intro n f g k ha h
  unfold runF at h
  cases hl:locAt p f with
  | true=>
   rw [hl] at h
   simp only [if_true] at h
   exact ih _ _ _ _ (next f hl) h
  | false=>
   rw [hl] at h
   simp only [Bool.false_eq_true,if_false,Prod.mk.injEq,and_true] at h
   rw [<- h.1];exact ha
theorem runT_ok {p:Prg} {f g:Fra} {m n:Int} (h:runT p f m=(g,n,0)):(atF p f).isSome=true/\0<=m/\m<=65536/\runF p m.toNat 0 f=(g,n,0):=by
 unfold runT at h
 split at h
 ·rename_i hb
  simp only [Bool.and_eq_true,decide_eq_true_eq] at hb
  exact ⟨hb.1.1,hb.1.2,hb.2,h⟩
 ·simp at h
end Go.Proofs.YtnfbncgfpmcpnaaGreat
namespace Go.Proofs.YtnfbncgfpmcpnaaGreat.SetM
def top:Nat:=18446744073709551616
def bitOf (k:Int):Nat:=if 0<=k/\k<64 then 2 ^ k.toNat else 0
def has (s:Nat) (k:Int):Bool:=decide (0<=k/\k<64) && s.testBit k.toNat
def withN (s:Nat) (k:Int):Nat:=s ||| bitOf k
def ofL (l:List Int):Nat:=l.foldl withN 0
theorem bitOf_in {k:Int} (h0:0<=k) (h1:k<64):bitOf k=2 ^ k.toNat:=by rw [bitOf,if_pos ⟨h0,h1⟩]
theorem bitOf_out {k:Int} (h : ¬ (0<=k/\k<64)):bitOf k=0:=by rw [bitOf,if_neg h]
theorem bitOf_lt (k:Int):bitOf k<18446744073709551616:=by
 by_cases h:0<=k/\k<64
 ·rw [bitOf_in h.1 h.2,show (18446744073709551616:Nat)=2 ^ 64 from rfl]
  exact Nat.pow_lt_pow_right (by decide) (by omega)
 ·rw [bitOf_out h];decide
theorem withN_lt {s:Nat} (hs:s<18446744073709551616) (k:Int):withN s k<18446744073709551616:=
 Nat.or_lt_two_pow (n:=64) hs (bitOf_lt k)
theorem ofL_snoc (l:List Int) (k:Int):ofL (l ++ [k])=withN (ofL l) k:=by simp [ofL]
theorem and_bit (s:Nat) (k:Int):(s &&& bitOf k=0) ↔ has s k=false:=by
 by_cases h:0<=k/\k<64
 ·rw [bitOf_in h.1 h.2,nat_bit,has,decide_eq_true h,Bool.true_and,Nat.testBit_eq_decide_div_mod_eq]
  have hp:0<2 ^ k.toNat:=Nat.two_pow_pos _
  have h2:s / 2 ^ k.toNat % 2=0 \/ s / 2 ^ k.toNat % 2=1:=by omega
  rcases h2 with h2 | h2
  ·rw [h2];simp
  ·rw [h2];simp
 ·rw [bitOf_out h,has,decide_eq_false h];simp
theorem shl_bit {k:Int} (h0:0<=k):IntKind.u64.wrap ((2:Int) ^ min k.toNat 64)=(bitOf k:Nat):=by
 rw [IntKind.wrap_u64,u64_shl_one_var k h0]
 by_cases h:64<=k
 ·rw [if_pos h,bitOf_out (by omega)];rfl
 ·rw [if_neg h,bitOf_in h0 (by omega)];simp
theorem and_has {s:Nat} (hs:s<18446744073709551616) (k:Int):(bits .and .u64 (s:Int) (bitOf k:Nat) != 0)=has s k:=by
 rw [u64_and_nat s (bitOf k) hs (bitOf_lt k)]
 cases h:has s k with
 | false=>rw [(and_bit s k).2 h];rfl
 | true=>
  have:s &&& bitOf k ≠ 0:=fun e=>by rw [(and_bit s k).1 e] at h;cases h
  simp [this]
theorem or_with {s:Nat} (hs:s<18446744073709551616) (k:Int):bits .or .u64 (s:Int) (bitOf k:Nat)=(withN s k:Nat):=u64_or_nat s (bitOf k) hs (bitOf_lt k)
end Go.Proofs.YtnfbncgfpmcpnaaGreat.SetM
