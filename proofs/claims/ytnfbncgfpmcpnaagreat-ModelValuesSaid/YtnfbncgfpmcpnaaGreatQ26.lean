/-
  ReplayNext: its walks, part 26.
-/
import Derived.Test.YtnfbncgfpmcpnaaGreatQ25
set_option maxRecDepth 100000
set_option maxHeartbeats 12800000
namespace Go.Proofs.YtnfbncgfpmcpnaaGreat.Mdl
open Go.RowKit
open Mch (grown_below below1 below_nx owns_slice' boxed_below)
theorem exec_load_row {P:Program} {o:Oper} {a:Act} {w:World} {ty:TypeId} {x:Operand} {g:Nat} {t:TypeId} {cs:Array Value} {d:TypeDesc} (ho:o.op=.load ty x) (hx:a.eval x=.pointer (some ⟨g,0,none⟩)) (hg:Blk w g t cs)
  (hu:P.underlying ty=some d) (hd:(match d with | .struct _ | .array _ _=>true | _=>false)=true) (hi:(P.info? ty).map (·.size)=some cs.size):(execOp a.eval o).run P w=.ok (.value (.agg cs)) w:=by
 unfold execOp
 simp only [ho,hx,Instr.loadAt,Instr.sureAddr,Sem.run_bind,Sem.run_pure,Result.andThen_ok,run_loadVar_row w g t ty cs (0,0) d hg hu hd hi]
theorem szRul:(Tryz.prog.info? 113).map (·.size)=some 2:=by kernel_rfl
set_option linter.unusedSimpArgs false in
theorem rule_two (B:Nat) (t:Int) (f:Fra) (x:In) (w:World) (h5:5<=x.o) (h10:x.o<=10) (K1 K2:FuncId) (hv:rulV B t f x x.o=.agg #[(.func (.func K1) #[stdV B t f x] #[]),(.func (.func K2) #[stdV B t f x] #[])]) :
  Calls Tryz.prog 43 #[stdV B t f x] w fun e w'=>e=.returned (rulV B t f x x.o)/\Below w.heap.size w w':=by
 obtain ⟨w2,hw2⟩:∃ w2,w2=(w.alloc (.cells (stdA B t f x) 107)).alloc (.cells #[.nilFunc,.nilFunc] 113):=⟨_,rfl⟩
 have hB2:Below w.heap.size w w2:=by rw [hw2];exact below2 w _ _
 have hS2:StAt w2 w.heap.size B t f x:=by rw [hw2];exact (blk_new w _ _).alloc _
 have hR2:Blk w2 (w.heap.size+1) 113 #[.nilFunc,.nilFunc]:=by rw [hw2];exact blk_at (by simp)

 have hru:=rules_any B t f x w2.drew
 have hk:∀ W,Below w2.drew.heap.size w2.drew W->(W.cell? ⟨w.heap.size,0,none⟩=some (ptrV B)/\W.cell? ⟨w.heap.size,1,none⟩=some (.int .i64 t)/\W.cell? ⟨w.heap.size,2,none⟩=some (.int .i64 f.c)/\W.cell? ⟨w.heap.size,3,none⟩=some (.int .i64 f.p)/\W.cell? ⟨w.heap.size,4,none⟩=some (.int .i64 f.r0)/\W.cell? ⟨w.heap.size,5,none⟩=some (.int .i64 f.r1)/\W.cell? ⟨w.heap.size,6,none⟩=some (.int .i64 f.r2)/\W.cell? ⟨w.heap.size,7,none⟩=some (.int .i64 f.r3)/\W.cell? ⟨w.heap.size,8,none⟩=some (.int .i64 f.r4)/\W.cell? ⟨w.heap.size,9,none⟩=some (.int .i64 f.r5)/\W.cell? ⟨w.heap.size,10,none⟩=some (.int .i64 f.r6)/\W.cell? ⟨w.heap.size,11,none⟩=some (.int .i64 f.r7)/\W.cell? ⟨w.heap.size,12,none⟩=some (.int .u8 (x.o:Int))/\W.cell? ⟨w.heap.size,13,none⟩=some (.int .i64 x.a)/\W.cell? ⟨w.heap.size,14,none⟩=some (.int .i64 x.b)/\W.cell? ⟨w.heap.size,15,none⟩=some (.int .i64 x.c)/\W.cell? ⟨w.heap.size,16,none⟩=some (.int .i64 x.k))/\Blk W (w.heap.size+1) 113 #[.nilFunc,.nilFunc]/\Below w.heap.size w W:=fun W hb=>by
  have h1:Blk W w.heap.size 107 (stdA B t f x):=Blk.later (show Blk w2.drew _ _ _ from hS2) hb hS2.lt
  exact ⟨std_cells h1,Blk.later (show Blk w2.drew _ _ _ from hR2) hb hR2.lt,hB2.drew.trans (hb.mono (show w.heap.size<=w2.heap.size from hB2.size))⟩
 rw [hv]
 have hl:∀ (W:World) (M:Nat) (g:Nat->Option Value),RulMap W M g 6->(∀ o,5<=o->o<=10->g o=some (rulV B t f x o))->(Instr.lookup 163 (.map (some M)) (.int .u8 (x.o:Int)) false).run Tryz.prog W=.ok (.agg #[(.func (.func K1) #[stdV B t f x] #[]),(.func (.func K2) #[stdV B t f x] #[])]) W:=fun W M g hM hg=>by
  rw [hM.look (by omega) (hg x.o h5 h10),hv]
 clear hv
 go_enter Tryz.func43,Tryz.ntmps43
 go_wp2_with fail
 rw [<- hw2]
 clear hw2
 refine wp_region_held_drew (S:=fun W=>Blk W w.heap.size 107 (stdA B t f x)) (by kernel_rfl) hS2 (fun hHeld=>?_)
 refine takeD (i:=0) (d:=some 3) (v:=stdV B t f x) (by kernel_rfl) (by kernel_rfl) (by kernel_rfl) (by kernel_rfl) (fun _ _ _ h=>h) (fun oi h=>?_) hHeld ?_
 ·simp only [uA,uS,uZ,Option.some.injEq] at h
  subst h
  refine Or.inl ⟨by rfl,fun w' hSw=>?_⟩
  exact exec_load_row rfl rfl hSw Tryz.underlying107 rfl szStd
 try simp only [Act.put,tA,tZ,tS]
 refine takeD (i:=2) (d:=some 5) (v:=.pointer (some ⟨w.heap.size,12,none⟩)) (by kernel_rfl) (by kernel_rfl) (by kernel_rfl) (by kernel_rfl) (fun _ _ _ h=>h) (fun oi h=>?_) hHeld ?_
 ·simp only [uA,uS,uZ,Option.some.injEq] at h
  subst h
  refine Or.inl ⟨by rfl,fun w' hSw=>?_⟩
  go_simp
 try simp only [Act.put,tA,tZ,tS]
 refine takeD (i:=3) (d:=some 6) (v:=.pointer (some ⟨w.heap.size,12,none⟩)) (by kernel_rfl) (by kernel_rfl) (by kernel_rfl) (by kernel_rfl) (fun _ _ _ h=>h) (fun oi h=>?_) hHeld ?_
 ·simp only [uA,uS,uZ,Option.some.injEq] at h
  subst h
  refine Or.inl ⟨by rfl,fun w' hSw=>?_⟩
  go_simp
 try simp only [Act.put,tA,tZ,tS]
 refine takeD (i:=4) (d:=some 7) (v:=.int .u8 (x.o:Int)) (by kernel_rfl) (by kernel_rfl) (by kernel_rfl) (by kernel_rfl) (fun _ _ _ h=>h) (fun oi h=>?_) hHeld ?_
 ·simp only [uA,uS,uZ,Option.some.injEq] at h
  subst h
  refine Or.inl ⟨by rfl,fun w' hSw=>?_⟩
  have hx:w'.cell? ⟨w.heap.size,12,none⟩=some (.int .u8 (x.o:Int)):=hSw.cell rfl
  go_simp
 try simp only [Act.put,tA,tZ,tS]
 refine wpAnyH_ready (rs:=[1]) (by kernel_rfl) (by simp) ?_
 refine AllReadyH.cons rfl (fun K hKK=>?_) AllReadyH.nil
 go_simp
 refine hru.mono ?_
 rintro e w4 ⟨M,g,rfl,hM4,hg4,hb4⟩
 have hk4:=hk w4 hb4
 have hl4:=hl w4 M g hM4 hg4
 have hS4:Blk w4 w.heap.size 107 (stdA B t f x):=Blk.later (show Blk w2.drew _ _ _ from hS2) hb4 hS2.lt
 refine hKK.out _ _ hS4 (fun hHeld=>?_)
 clear hKK K
 try simp only [Act.put,tA,tZ,tS]
 refine wpAnyH_ready (rs:=[5]) (by kernel_rfl) (by simp) ?_
 refine AllReadyH.cons rfl (fun K hKK=>?_) AllReadyH.nil
 go_simp
 refine hKK.out _ _ hS4 (fun hHeld=>?_)
 clear hKK K
 try simp only [Act.put,tA,tZ,tS]
 refine wpAnyH_ready (rs:=[6]) (by kernel_rfl) (by simp) ?_
 refine AllReadyH.cons rfl (fun K hKK=>?_) AllReadyH.nil
 have r0:w4.cell? ⟨w.heap.size+1,0,none⟩=some .nilFunc:=hk4.2.1.cell rfl
 have r1:w4.cell? ⟨w.heap.size+1,1,none⟩=some .nilFunc:=hk4.2.1.cell rfl
 have rf:=hk4.2.1.frozen
 obtain ⟨E1,E2⟩:=sto2 hk4.2.1 ((.func (.func K1) #[stdV B t f x] #[])) ((.func (.func K2) #[stdV B t f x] #[]))
 go_simp
 generalize (w4.setCell ⟨w.heap.size+1,0,none⟩ ((.func (.func K1) #[stdV B t f x] #[]))).setCell ⟨w.heap.size+1,1,none⟩ ((.func (.func K2) #[stdV B t f x] #[]))=w5 at E1 E2 hKK ⊢
 have hS5:Blk w5 w.heap.size 107 (stdA B t f x):=but_on hS4 E2 (by simp)
 refine hKK.out _ _ hS5 (fun hHeld=>?_)
 clear hKK K
 try simp only [Act.put,tA,tZ,tS]
 refine wpAnyH_done (by kernel_rfl) ?_ _
 go_wp2_with fail
 refine bodyPost_ret (v:=.agg #[(.func (.func K1) #[stdV B t f x] #[]),(.func (.func K2) #[stdV B t f x] #[])]) (results_cell_row rfl _ _ (w.heap.size+1) 113 _ (0,0) _ rfl E1 Tryz.underlying113 rfl szRul) rfl ?_
 exact ⟨rfl,hk4.2.2.trans (E2.below hk4.2.2.size (by simp))⟩
set_option linter.unusedSimpArgs false in
theorem rule_one (B:Nat) (t:Int) (f:Fra) (x:In) (w:World) (h5:5<=x.o) (h10:x.o<=10) (K2:FuncId) (hv:rulV B t f x x.o=.agg #[.nilFunc,(.func (.func K2) #[stdV B t f x] #[])]) :
  Calls Tryz.prog 43 #[stdV B t f x] w fun e w'=>e=.returned (rulV B t f x x.o)/\Below w.heap.size w w':=by
 obtain ⟨w2,hw2⟩:∃ w2,w2=(w.alloc (.cells (stdA B t f x) 107)).alloc (.cells #[.nilFunc,.nilFunc] 113):=⟨_,rfl⟩
 have hB2:Below w.heap.size w w2:=by rw [hw2];exact below2 w _ _
 have hS2:StAt w2 w.heap.size B t f x:=by rw [hw2];exact (blk_new w _ _).alloc _
 have hR2:Blk w2 (w.heap.size+1) 113 #[.nilFunc,.nilFunc]:=by rw [hw2];exact blk_at (by simp)

 have hru:=rules_any B t f x w2.drew
 have hk:∀ W,Below w2.drew.heap.size w2.drew W->(W.cell? ⟨w.heap.size,0,none⟩=some (ptrV B)/\W.cell? ⟨w.heap.size,1,none⟩=some (.int .i64 t)/\W.cell? ⟨w.heap.size,2,none⟩=some (.int .i64 f.c)/\W.cell? ⟨w.heap.size,3,none⟩=some (.int .i64 f.p)/\W.cell? ⟨w.heap.size,4,none⟩=some (.int .i64 f.r0)/\W.cell? ⟨w.heap.size,5,none⟩=some (.int .i64 f.r1)/\W.cell? ⟨w.heap.size,6,none⟩=some (.int .i64 f.r2)/\W.cell? ⟨w.heap.size,7,none⟩=some (.int .i64 f.r3)/\W.cell? ⟨w.heap.size,8,none⟩=some (.int .i64 f.r4)/\W.cell? ⟨w.heap.size,9,none⟩=some (.int .i64 f.r5)/\W.cell? ⟨w.heap.size,10,none⟩=some (.int .i64 f.r6)/\W.cell? ⟨w.heap.size,11,none⟩=some (.int .i64 f.r7)/\W.cell? ⟨w.heap.size,12,none⟩=some (.int .u8 (x.o:Int))/\W.cell? ⟨w.heap.size,13,none⟩=some (.int .i64 x.a)/\W.cell? ⟨w.heap.size,14,none⟩=some (.int .i64 x.b)/\W.cell? ⟨w.heap.size,15,none⟩=some (.int .i64 x.c)/\W.cell? ⟨w.heap.size,16,none⟩=some (.int .i64 x.k))/\Blk W (w.heap.size+1) 113 #[.nilFunc,.nilFunc]/\Below w.heap.size w W:=fun W hb=>by
  have h1:Blk W w.heap.size 107 (stdA B t f x):=Blk.later (show Blk w2.drew _ _ _ from hS2) hb hS2.lt
  exact ⟨std_cells h1,Blk.later (show Blk w2.drew _ _ _ from hR2) hb hR2.lt,hB2.drew.trans (hb.mono (show w.heap.size<=w2.heap.size from hB2.size))⟩
 rw [hv]
 have hl:∀ (W:World) (M:Nat) (g:Nat->Option Value),RulMap W M g 6->(∀ o,5<=o->o<=10->g o=some (rulV B t f x o))->(Instr.lookup 163 (.map (some M)) (.int .u8 (x.o:Int)) false).run Tryz.prog W=.ok (.agg #[.nilFunc,(.func (.func K2) #[stdV B t f x] #[])]) W:=fun W M g hM hg=>by
  rw [hM.look (by omega) (hg x.o h5 h10),hv]
 clear hv
 go_enter Tryz.func43,Tryz.ntmps43
 go_wp2_with fail
 rw [<- hw2]
 clear hw2
 refine wp_region_held_drew (S:=fun W=>Blk W w.heap.size 107 (stdA B t f x)) (by kernel_rfl) hS2 (fun hHeld=>?_)
 refine takeD (i:=0) (d:=some 3) (v:=stdV B t f x) (by kernel_rfl) (by kernel_rfl) (by kernel_rfl) (by kernel_rfl) (fun _ _ _ h=>h) (fun oi h=>?_) hHeld ?_
 ·simp only [uA,uS,uZ,Option.some.injEq] at h
  subst h
  refine Or.inl ⟨by rfl,fun w' hSw=>?_⟩
  exact exec_load_row rfl rfl hSw Tryz.underlying107 rfl szStd
 try simp only [Act.put,tA,tZ,tS]
 refine takeD (i:=2) (d:=some 5) (v:=.pointer (some ⟨w.heap.size,12,none⟩)) (by kernel_rfl) (by kernel_rfl) (by kernel_rfl) (by kernel_rfl) (fun _ _ _ h=>h) (fun oi h=>?_) hHeld ?_
 ·simp only [uA,uS,uZ,Option.some.injEq] at h
  subst h
  refine Or.inl ⟨by rfl,fun w' hSw=>?_⟩
  go_simp
 try simp only [Act.put,tA,tZ,tS]
 refine takeD (i:=3) (d:=some 6) (v:=.pointer (some ⟨w.heap.size,12,none⟩)) (by kernel_rfl) (by kernel_rfl) (by kernel_rfl) (by kernel_rfl) (fun _ _ _ h=>h) (fun oi h=>?_) hHeld ?_
 ·simp only [uA,uS,uZ,Option.some.injEq] at h
  subst h
  refine Or.inl ⟨by rfl,fun w' hSw=>?_⟩
  go_simp
 try simp only [Act.put,tA,tZ,tS]
 refine takeD (i:=4) (d:=some 7) (v:=.int .u8 (x.o:Int)) (by kernel_rfl) (by kernel_rfl) (by kernel_rfl) (by kernel_rfl) (fun _ _ _ h=>h) (fun oi h=>?_) hHeld ?_
 ·simp only [uA,uS,uZ,Option.some.injEq] at h
  subst h
  refine Or.inl ⟨by rfl,fun w' hSw=>?_⟩
  have hx:w'.cell? ⟨w.heap.size,12,none⟩=some (.int .u8 (x.o:Int)):=hSw.cell rfl
  go_simp
 try simp only [Act.put,tA,tZ,tS]
 refine wpAnyH_ready (rs:=[1]) (by kernel_rfl) (by simp) ?_
 refine AllReadyH.cons rfl (fun K hKK=>?_) AllReadyH.nil
 go_simp
 refine hru.mono ?_
 rintro e w4 ⟨M,g,rfl,hM4,hg4,hb4⟩
 have hk4:=hk w4 hb4
 have hl4:=hl w4 M g hM4 hg4
 have hS4:Blk w4 w.heap.size 107 (stdA B t f x):=Blk.later (show Blk w2.drew _ _ _ from hS2) hb4 hS2.lt
 refine hKK.out _ _ hS4 (fun hHeld=>?_)
 clear hKK K
 try simp only [Act.put,tA,tZ,tS]
 refine wpAnyH_ready (rs:=[5]) (by kernel_rfl) (by simp) ?_
 refine AllReadyH.cons rfl (fun K hKK=>?_) AllReadyH.nil
 go_simp
 refine hKK.out _ _ hS4 (fun hHeld=>?_)
 clear hKK K
 try simp only [Act.put,tA,tZ,tS]
 refine wpAnyH_ready (rs:=[6]) (by kernel_rfl) (by simp) ?_
 refine AllReadyH.cons rfl (fun K hKK=>?_) AllReadyH.nil
 have r0:w4.cell? ⟨w.heap.size+1,0,none⟩=some .nilFunc:=hk4.2.1.cell rfl
 have r1:w4.cell? ⟨w.heap.size+1,1,none⟩=some .nilFunc:=hk4.2.1.cell rfl
 have rf:=hk4.2.1.frozen
 obtain ⟨E1,E2⟩:=sto2 hk4.2.1 (.nilFunc) ((.func (.func K2) #[stdV B t f x] #[]))
 go_simp
 generalize (w4.setCell ⟨w.heap.size+1,0,none⟩ (.nilFunc)).setCell ⟨w.heap.size+1,1,none⟩ ((.func (.func K2) #[stdV B t f x] #[]))=w5 at E1 E2 hKK ⊢
 have hS5:Blk w5 w.heap.size 107 (stdA B t f x):=but_on hS4 E2 (by simp)
 refine hKK.out _ _ hS5 (fun hHeld=>?_)
 clear hKK K
 try simp only [Act.put,tA,tZ,tS]
 refine wpAnyH_done (by kernel_rfl) ?_ _
 go_wp2_with fail
 refine bodyPost_ret (v:=.agg #[.nilFunc,(.func (.func K2) #[stdV B t f x] #[])]) (results_cell_row rfl _ _ (w.heap.size+1) 113 _ (0,0) _ rfl E1 Tryz.underlying113 rfl szRul) rfl ?_
 exact ⟨rfl,hk4.2.2.trans (E2.below hk4.2.2.size (by simp))⟩
theorem rule_any (B:Nat) (t:Int) (f:Fra) (x:In) (w:World) (h5:5<=x.o) (h10:x.o<=10) :
  Calls Tryz.prog 43 #[stdV B t f x] w fun e w'=>e=.returned (rulV B t f x x.o)/\Below w.heap.size w w':=by
 have:x.o=5 \/ x.o=6 \/ x.o=7 \/ x.o=8 \/ x.o=9 \/ x.o=10:=by omega
 rcases this with h | h | h | h | h | h
 ·exact rule_two B t f x w h5 h10 _ _ (by rw [h];rfl)
 ·exact rule_two B t f x w h5 h10 _ _ (by rw [h];rfl)
 ·exact rule_one B t f x w h5 h10 _ (by rw [h];rfl)
 ·exact rule_two B t f x w h5 h10 _ _ (by rw [h];rfl)
 ·exact rule_one B t f x w h5 h10 _ (by rw [h];rfl)
 ·exact rule_one B t f x w h5 h10 _ (by rw [h];rfl)
open Go.RowKit
open Ent (En EnRow EnAt)
open Mch (grown_below below1 below_nx owns_slice' boxed_below)
abbrev enA (x:En):Array Value:=#[.int .i64 x.a,.int .u8 (x.k:Int),.int .i64 x.w,.int .i64 x.t,.int .i64 x.p,.int .i64 x.c,.int .i64 x.b,.int .i64 x.q,.int .i64 x.v,.int .i64 x.u,.bool x.o,.int .i64 x.e,.int .u64 (x.s:Int)]
abbrev enV (x:En):Value:=.agg #[.int .i64 x.a,.int .u8 (x.k:Int),.int .i64 x.w,.int .i64 x.t,.int .i64 x.p,.int .i64 x.c,.int .i64 x.b,.int .i64 x.q,.int .i64 x.v,.int .i64 x.u,.bool x.o,.int .i64 x.e,.int .u64 (x.s:Int)]
theorem szEn:(Tryz.prog.info? 39).map (·.size)=some 13:=by kernel_rfl
theorem szSit:(Tryz.prog.info? 117).map (·.size)=some 2:=by kernel_rfl
def Opn.cellsL (o:Opn):List Value:=[.int .i64 o.b,.bool o.s,.int .i64 o.c,.int .i64 o.v]
abbrev opV (o:Opn):Value:=.agg #[.int .i64 o.b,.bool o.s,.int .i64 o.c,.int .i64 o.v]
abbrev opA (o:Opn):Array Value:=#[.int .i64 o.b,.bool o.s,.int .i64 o.c,.int .i64 o.v]
def flatO (l:List Opn):List Value:=l.flatMap Opn.cellsL
theorem row_one {base:Nat} {e:TypeId} {size:Nat} (w:World) (cs:Array Value) (hb:base<=w.heap.size) (hs:cs.size=size):(w.alloc (.cells cs e)).ownsRow base e size (.slice (some ⟨w.heap.size,0,none⟩) 1 1) 1 cs.toList:=by
 refine ⟨by simp [hs],.inr ⟨w.heap.size,1,cs,rfl,hb,World.alloc_heap_new w _,Nat.le_refl _,by unfold maxLen;omega,by omega,?_⟩⟩
 rw [List.take_of_length_le (by simp;omega)]
theorem fault_any (t p e:Int) (w:World) :
  Calls Tryz.prog 84 #[.int .i64 t,.int .i64 p,.int .i64 e] w fun d w'=>d=.returned (enV (faultE t p e))/\Below w.heap.size w w':=by
 have hZ:=blk_new w 39 #[.int .i64 0,.int .u8 0,.int .i64 0,.int .i64 0,.int .i64 0,.int .i64 0,.int .i64 0,.int .i64 0,.int .i64 0,.int .i64 0,.bool false,.int .i64 0,.int .u64 0]
 have hB1:Below w.heap.size w (w.alloc (.cells #[.int .i64 0,.int .u8 0,.int .i64 0,.int .i64 0,.int .i64 0,.int .i64 0,.int .i64 0,.int .i64 0,.int .i64 0,.int .i64 0,.bool false,.int .i64 0,.int .u64 0] 39)):=below1 w _
 go_enter Tryz.func84,Tryz.ntmps84
 go_wp2_with (refine wpList_put rfl _ _ _ rfl w.heap.size (enA (faultE t p e)) rfl rfl hZ szEn rfl (by simp [Value.oneCell']) ?_;intro w5 E1 E2;go_frame)
 refine bodyPost_ret (v:=enV (faultE t p e)) (results_cell_row rfl _ _ w.heap.size 39 _ (0,0) _ rfl E1 Tryz.underlying39 rfl szEn) rfl ?_
 exact ⟨rfl,hB1.trans (E2.below hB1.size (by simp))⟩
def EnNew (n:Nat) (W:World) (v:Value) (l:List En):Prop:=EnRow W v l/\∀ g,v.ownBlock=some g->n<=g
theorem EnNew.slice {n:Nat} {W:World} {v:Value} {l:List En} (h:EnNew n W v l):∃ a c,v=.slice a l.length c:=h.1.slice
theorem EnNew.mono {n m:Nat} {W:World} {v:Value} {l:List En} (h:EnNew n W v l) (hm:m<=n):EnNew m W v l:=⟨h.1,fun g e=>Nat.le_trans hm (h.2 g e)⟩
theorem EnNew.nil (n:Nat) (W:World):EnNew n W (.slice none 0 0) []:=⟨EnRow.nil W,fun g e=>by simp [Value.ownBlock] at e⟩
theorem EnNew.of_owns {n:Nat} {W:World} {v:Value} {l:List En} (h:W.ownsRow n 39 13 v l.length (l.flatMap En.cellsL)):EnNew n W v l:=⟨EnRow.of_owns h,Mch.owns_ge h⟩
theorem EnNew.one (W:World) (x:En):EnNew W.heap.size (W.alloc (.cells (enA x) 39)) (.slice (some ⟨W.heap.size,0,none⟩) 1 1) [x]:=⟨EnRow.one W x,fun g e=>by
 simp [Value.ownBlock] at e
 omega⟩
theorem ends_any (B:Nat) (t:Int) (f:Fra) (x:In) (w:World) :
  Calls Tryz.prog 128 #[stdV B t f x] w fun e w'=>∃ v,e=.returned v/\EnNew w.heap.size w' v [bareE 10 t]/\Below w.heap.size w w':=by
 obtain ⟨w1,hw1⟩:∃ w1,w1=w.alloc (.cells (stdA B t f x) 107):=⟨_,rfl⟩
 have hB1:Below w.heap.size w w1:=by rw [hw1];exact below1 w _
 have hS1:StAt w1 w.heap.size B t f x:=by rw [hw1];exact blk_new w _ _
 have s1:w1.cell? ⟨w.heap.size,1,none⟩=some (.int .i64 t):=hS1.cell rfl
 rw [hw1] at s1
 have hsz:w1.heap.size=w.heap.size+1:=by rw [hw1];exact World.size_alloc _ _
 have hR:=EnNew.one w1 (bareE 10 t)
 rw [hsz] at hR
 have hB2:=Mch.Below.al hB1 hB1.size (.cells (enA (bareE 10 t)) 39)
 have HW:=Lib.hid hw1
 clear hw1
 go_enter Tryz.func128,Tryz.ntmps128
 go_wp2_with fail
 go_ret
 rw [<- HW.out]
 exact ⟨_,rfl,hR.mono (Nat.le_succ _),hB2⟩
theorem toSend_any (B:Nat) (t:Int) (f:Fra) (x:In) (w:World) (ha:0<=x.a/\x.a<8) :
  Calls Tryz.prog 121 #[stdV B t f x] w fun e w'=>∃ v,e=.returned v/\w'.ownsRow w.heap.size 193 4 v 1 (flatO [⟨-1,true,x.c,f.get x.a.toNat⟩])/\Below w.heap.size w w':=by
 obtain ⟨w1,hw1⟩:∃ w1,w1=w.alloc (.cells (stdA B t f x) 107):=⟨_,rfl⟩
 have hB1:Below w.heap.size w w1:=by rw [hw1];exact below1 w _
 have hS1:StAt w1 w.heap.size B t f x:=by rw [hw1];exact blk_new w _ _
 obtain ⟨n,hn⟩:∃ n:Nat,x.a=(n:Int):=⟨x.a.toNat,by omega⟩
 have hn8:n<8:=by omega
 have s13:w1.drew.cell? ⟨w.heap.size,13,none⟩=some (.int .i64 (n:Int)):=by rw [<- hn];exact Blk.cell (show Blk w1.drew _ _ _ from hS1) rfl
 have s15:w1.drew.cell? ⟨w.heap.size,15,none⟩=some (.int .i64 x.c):=Blk.cell (show Blk w1.drew _ _ _ from hS1) rfl
 have sR:w1.drew.cell? ⟨w.heap.size,4+n,none⟩=some (.int .i64 (f.get n)):=by
  refine Blk.cell (show Blk w1.drew _ _ _ from hS1) ?_
  have:n=0 \/ n=1 \/ n=2 \/ n=3 \/ n=4 \/ n=5 \/ n=6 \/ n=7:=by omega
  rcases this with rfl | rfl | rfl | rfl | rfl | rfl | rfl | rfl <;> rfl
 have q0:(0:Int)<=(n:Int):=by omega
 have q8:(n:Int)<8:=by omega
 have htn:x.a.toNat=n:=by omega
 rw [htn]
 obtain ⟨r,hr⟩:∃ r,r=f.get n:=⟨_,rfl⟩
 rw [<- hr] at sR ⊢
 have hR:=(row_one (base:=w.heap.size) (e:=193) w1 (opA ⟨-1,true,x.c,r⟩) hB1.size rfl).drew
 have hB2:=(Mch.Below.al hB1 hB1.size (.cells (opA ⟨-1,true,x.c,r⟩) 193)).drew
 have HW:=Lib.hid hw1
 clear hn hn8 htn hr hS1 ha
 go_enter Tryz.func121,Tryz.ntmps121
 go_wp2_with fail
 rw [<- hw1]
 clear hw1
 go_region
 go_wp2_with fail
 go_ret
 exact ⟨_,rfl,by simpa [flatO,Opn.cellsL] using hR,hB2⟩
theorem toRecv_any (B:Nat) (t:Int) (f:Fra) (x:In) (w:World) :
  Calls Tryz.prog 123 #[stdV B t f x] w fun e w'=>∃ v,e=.returned v/\w'.ownsRow w.heap.size 193 4 v 1 (flatO [⟨-1,false,x.c,0⟩])/\Below w.heap.size w w':=by
 obtain ⟨w1,hw1⟩:∃ w1,w1=w.alloc (.cells (stdA B t f x) 107):=⟨_,rfl⟩
 have hB1:Below w.heap.size w w1:=by rw [hw1];exact below1 w _
 have hS1:StAt w1 w.heap.size B t f x:=by rw [hw1];exact blk_new w _ _
 have s15:w1.cell? ⟨w.heap.size,15,none⟩=some (.int .i64 x.c):=hS1.cell rfl
 rw [hw1] at s15
 have hsz:w1.heap.size=w.heap.size+1:=by rw [hw1];exact World.size_alloc _ _
 have hR:=row_one (base:=w.heap.size) (e:=193) w1 (opA ⟨-1,false,x.c,0⟩) hB1.size rfl
 rw [hsz] at hR
 have hB2:=Mch.Below.al hB1 hB1.size (.cells (opA ⟨-1,false,x.c,0⟩) 193)
 have HW:=Lib.hid hw1
 clear hw1 hS1
 go_enter Tryz.func123,Tryz.ntmps123
 go_wp2_with fail
 go_ret
 rw [<- HW.out]
 exact ⟨_,rfl,by simpa [flatO,Opn.cellsL] using hR,hB2⟩
theorem site_any {o:Nat->Nat} {B:Nat} {M:Mod} (t:Int) (f:Fra) (x:In) (w:World) (h:Md w o B M) (hk:0<=x.k/\x.k<(M.p.sites.length:Int)) :
  Calls Tryz.prog 104 #[stdV B t f x] w fun e w'=>∃ a c lo hi,e=.returned (.agg #[.slice a (site M x).cs.length c,.bool (site M x).d])/\CasesAt lo hi w' (.slice a (site M x).cs.length c) (site M x).cs/\hi<=w.heap.size/\Below w.heap.size w w':=by
 obtain ⟨lo,hi,v1,v2,v3,vT,vC,Cs,h⟩:=h
 obtain ⟨n,hn⟩:∃ n:Nat,x.k=(n:Int):=⟨x.k.toNat,by omega⟩
 have hnl:n<M.p.sites.length:=by omega
 obtain ⟨w2,hw2⟩:∃ w2,w2=(w.alloc (.cells (stdA B t f x) 107)).alloc (.cells #[.slice none 0 0,.bool false] 117):=⟨_,rfl⟩
 have hB2:Below w.heap.size w w2:=by rw [hw2];exact below2 w _ _
 have hS2:StAt w2 w.heap.size B t f x:=by rw [hw2];exact (blk_new w _ _).alloc _
 have hR2:Blk w2 (w.heap.size+1) 117 #[.slice none 0 0,.bool false]:=by rw [hw2];exact blk_at (by simp)
 have h2:=h.below hB2
 obtain ⟨a3,c3,hv3⟩:=h2.prog.sites.slice
 have hsites:=h2.prog.sites
 rw [hv3] at hsites
 obtain ⟨b,off,ra,rc,s,hA,hlb,hbh,hs,k0,k1,hcs⟩:=hsites.at hnl
 have hsite:site M x=s:=by unfold site;rw [hn,Int.toNat_natCast,hs];rfl
 rw [hsite]
 have hp3:=h2.p3
 rw [hv3,hA] at hp3
 have d0:w2.drew.cell? ⟨w.heap.size,0,none⟩=some (ptrV B):=Blk.cell (show Blk w2.drew _ _ _ from hS2) rfl
 have d16:w2.drew.cell? ⟨w.heap.size,16,none⟩=some (.int .i64 (n:Int)):=by rw [<- hn];exact Blk.cell (show Blk w2.drew _ _ _ from hS2) rfl
 have d2:w2.drew.cell? ⟨B,2,none⟩=some (.slice (some ⟨b,off,none⟩) M.p.sites.length c3):=hp3
 have e0:w2.drew.cell? ⟨b,off+n * 2,none⟩=some (.slice ra s.cs.length rc):=k0
 have e1:w2.drew.cell? ⟨b,off+n * 2+1,none⟩=some (.bool s.d):=k1
 have z0:w2.drew.cell? ⟨w.heap.size+1,0,none⟩=some (.slice none 0 0):=Blk.cell (show Blk w2.drew _ _ _ from hR2) rfl
 have z1:w2.drew.cell? ⟨w.heap.size+1,1,none⟩=some (.bool false):=Blk.cell (show Blk w2.drew _ _ _ from hR2) rfl
 have zf:∀ k,w2.drew.frozen? ⟨w.heap.size+1,k,none⟩=false:=Blk.frozen (show Blk w2.drew _ _ _ from hR2)
 have y1:w2.cell? ⟨w.heap.size+1,1,none⟩=some (.bool false):=z1
 have y0:w2.cell? ⟨w.heap.size+1,0,none⟩=some (.slice none 0 0):=z0
 have yf:∀ k,w2.frozen? ⟨w.heap.size+1,k,none⟩=false:=zf
 have q0:(0:Int)<=(n:Int):=by omega
 have q1:(n:Int)<(M.p.sites.length:Int):=by omega
 obtain ⟨E1,E2⟩:=sto2 (show Blk w2.drew _ _ _ from hR2) (.slice ra s.cs.length rc) (.bool s.d)
 have hB3:=hB2.drew.trans (E2.below (show w.heap.size<=w2.heap.size from hB2.size) (by simp))
 have htop:hi<=w.heap.size:=h.prog.top
 have HC:Hid (∀ w5,But [w.heap.size+1] w2.drew w5->CasesAt lo hi w5 (.slice ra s.cs.length rc) s.cs):=Lib.hid fun w5 hb=>hcs.stay (fun b _ hb2=>hb.block b (Nat.lt_of_lt_of_le hb2 h2.prog.top) (by simp;omega))
 clear h h2 hS2 hR2 hsites hcs hp3 hs k0 k1 hv3 hA hn hsite hk
 go_enter Tryz.func104,Tryz.ntmps104
 go_wp2_with fail
 rw [<- hw2]
 clear hw2
 go_region
 obtain ⟨w5,hw5⟩:∃ w5,w5=((w2.drew.setCell ⟨w.heap.size+1,0,none⟩ (.slice ra s.cs.length rc)).setCell ⟨w.heap.size+1,1,none⟩ (.bool s.d)):=⟨_,rfl⟩
 rw [<- hw5] at E1 E2 hB3
 go_wp2_with fail
 have hw6:((w2.setCell ⟨w.heap.size+1,0,none⟩ (.slice ra s.cs.length rc)).setCell ⟨w.heap.size+1,1,none⟩ (.bool s.d)).drew=w5:=hw5.symm
 rw [hw6]
 exact bodyPost_ret (v:=.agg #[.slice ra s.cs.length rc,.bool s.d]) (results_cell_row rfl _ _ (w.heap.size+1) 117 _ (0,0) _ rfl E1 Tryz.underlying117 rfl szSit) rfl ⟨ra,rc,lo,hi,rfl,HC.out w5 E2,htop,hB3⟩
open Go.RowKit
open Mch (grown_below below1 below_nx owns_slice' boxed_below)
theorem infoOp:(Tryz.prog.info? 193).map (fun i=>(i.zero,i.size,i.bytes))=some (some (.agg #[.int .i64 0,.bool false,.int .i64 0,.int .i64 0]),4,32):=by kernel_rfl
theorem opn_len (o:Opn):o.cellsL.length=4:=rfl
theorem opn_one (l:List Opn):∀ u ∈ flatO l,u.oneCell'=true:=by
 intro u hu;obtain ⟨x,_,hu⟩:=List.mem_flatMap.1 hu
 simp only [Opn.cellsL,List.mem_cons,List.not_mem_nil,or_false] at hu
 rcases hu with rfl | rfl | rfl | rfl <;> rfl
theorem flatO_snoc (l:List Opn) (o:Opn):flatO (l ++ [o])=flatO l ++ o.cellsL:=by simp [flatO]
theorem take_mapIdx {f:Fra} (cs:List Cas) {k:Nat} {c:Cas} (hk:cs[k]?=some c):(cs.mapIdx (opOf f)).take (k+1)=(cs.mapIdx (opOf f)).take k ++ [opOf f k c]:=by
 rw [List.take_add_one,List.getElem?_mapIdx,hk];rfl
theorem op_cell {W:World} {A:Nat} {o:Opn} (h:Blk W A 193 (opA o)) (j:Nat) (u:Value) (hj:o.cellsL[j]?=some u):W.cell? (Addr.add ⟨A,0,none⟩ j)=some u:=by
 rw [add0]
 exact Blk.cell h (by simpa [Opn.cellsL] using hj)
theorem sit_cs (a b:Value) (w:World):(Instr.field 117 (.agg #[a,b]) 0).run Tryz.prog w=.ok a w:=by kernel_rfl
theorem sit_d (a b:Value) (w:World):(Instr.field 117 (.agg #[a,b]) 1).run Tryz.prog w=.ok b w:=by kernel_rfl
theorem cases_any {o:Nat->Nat} {B:Nat} {M:Mod} (t:Int) (f:Fra) (x:In) (w:World) (h:Md w o B M) (hk:0<=x.k/\x.k<(M.p.sites.length:Int)) (hcs:(site M x).cs.length<=1000) (hval:∀ c ∈ (site M x).cs,c.s=true->0<=c.v/\c.v<8) :
  Calls Tryz.prog 124 #[stdV B t f x] w fun e w'=>∃ v,e=.returned v/\w'.ownsRow w.heap.size 193 4 v (site M x).cs.length (flatO ((site M x).cs.mapIdx (opOf f)))/\Below w.heap.size w w':=by
 obtain ⟨i0,hi,hz0,hz1,hz2⟩:=info_parts infoOp
 obtain ⟨w1,hw1⟩:∃ w1,w1=w.alloc (.cells (stdA B t f x) 107):=⟨_,rfl⟩
 have hB1:Below w.heap.size w w1:=by rw [hw1];exact below1 w _
 have hS1:StAt w1 w.heap.size B t f x:=by rw [hw1];exact blk_new w _ _
 have h1:=h.below hB1
 have hsite:=site_any (B:=B) t f x w1 h1 hk
 obtain ⟨sx,hsx⟩:∃ sx,sx=site M x:=⟨_,rfl⟩
 rw [<- hsx] at hsite hcs hval ⊢
 obtain ⟨n,hn⟩:∃ n,n=sx.cs.length:=⟨_,rfl⟩
 rw [<- hn] at hsite hcs ⊢
 have HN:=Lib.hid hn
 obtain ⟨E,hE⟩:∃ E,E=sx.cs.mapIdx (opOf f):=⟨_,rfl⟩
 rw [<- hE]
 have sc:=std_cells (show StAt w1 w.heap.size B t f x from hS1)
 obtain ⟨s0,s1,s2,s3,s4,s5,s6,s7,s8,s9,s10,s11,s12,s13,s14,s15,s16⟩:=sc
 rw [hw1] at s0 s1 s2 s3 s4 s5 s6 s7 s8 s9 s10 s11 s12 s13 s14 s15 s16
 have HE:=Lib.hid hE
 clear hsx h h1 hk hn hE
 go_enter Tryz.func124,Tryz.ntmps124
 go_wp2_with fail
 rw [<- hw1]
 refine hsite.mono ?_
 clear s0 s1 s2 s3 s4 s5 s6 s7 s8 s9 s10 s11 s12 s13 s14 s15 s16 hw1
 rintro e w2 ⟨ra,rc,lo,hi',rfl,HC,htop,hb2⟩
 have hB2:=below_nx hB1 hb2 (Nat.le_refl _)
 have hS2:StAt w2 w.heap.size B t f x:=Blk.later hS1 hb2 hS1.lt
 have hb2s:=hb2.size
 clear hsite hS1 hB1 hb2
 have qf:∀ W:World,(Instr.field 117 (.agg #[.slice ra n rc,.bool sx.d]) 0).run Tryz.prog W=.ok (.slice ra n rc) W:=fun W=>sit_cs (.slice ra n rc) (.bool sx.d) W
 go_wp2_with fail
 go_loopw [2,10] (fun lv iv wr=>∃ k:Nat,k<=n/\iv=.int .i64 (k:Int)/\Below w2.heap.size w2 wr/\wr.ownsRow w2.heap.size 193 4 lv k (flatO (E.take k))) (fun _ iv _=>n - (intOf iv).toNat)
 case atStart=>exact ⟨0,by omega,rfl,Below.refl _ _,World.ownsRow_nil _ _ _ _⟩
 case round=>
  obtain ⟨k,hk,rfl,hB,hR⟩:=hrel
  have hHC:=HC.stay (stay_below' hB (show hi'<=w2.heap.size from Nat.le_trans htop hb2s))
  have hSr:=Blk.later hS2 hB hS2.lt
  by_cases hlt:k<n
  ·have hlt':(k:Int)<(n:Int):=by omega
   have q0:(0:Int)<=(k:Int):=by omega
   have hwr:IntKind.i64.wrap ((k:Int)+1)=(k:Int)+1:=by rw [IntKind.wrap_i64];omega
   obtain ⟨b,off,c,rfl,hlb,hbh,hc,hcok,c0,c1,c2,c3⟩:=hHC.at (show k<sx.cs.length by have:=HN.out;omega)
   cases hs:c.s with
   | true=>
    rw [hs] at c0
    obtain ⟨nv,hnv⟩:∃ nv:Nat,c.v=(nv:Int):=⟨c.v.toNat,by have:=hval c (List.mem_of_getElem? hc) hs;omega⟩
    have hn8:nv<8:=by have:=hval c (List.mem_of_getElem? hc) hs;omega
    rw [hnv] at c2
    have p0:(0:Int)<=(nv:Int):=by omega
    have p8:(nv:Int)<8:=by omega
    obtain ⟨r,hr⟩:∃ r,r=f.get nv:=⟨_,rfl⟩
    have sR:((wr.alloc (.cells #[.bool true,.int .i64 c.c,.int .i64 (nv:Int),.int .i64 c.o] 169)).alloc (.cells #[.int .i64 (k:Int),.bool true,.int .i64 c.c,.int .i64 0] 193)).cell? ⟨w.heap.size,4+nv,none⟩=some (.int .i64 r):=by
     refine Blk.cell (Blk.later hSr (Mch.Below.al (below1 wr _) (by simp) _) hSr.lt) ?_
     rw [hr]
     have:nv=0 \/ nv=1 \/ nv=2 \/ nv=3 \/ nv=4 \/ nv=5 \/ nv=6 \/ nv=7:=by omega
     rcases this with rfl | rfl | rfl | rfl | rfl | rfl | rfl | rfl <;> rfl
    have HO:Hid (opOf f k c=⟨k,true,c.c,r⟩):=Lib.hid (by unfold opOf;rw [hs,if_pos rfl,hnv,hr];rfl)
    clear hn8 hr hSr hHC
    obtain ⟨la,lc,rfl⟩:=owns_slice' hR
    have hR3:=((hR.alloc (.cells #[.bool true,.int .i64 c.c,.int .i64 (nv:Int),.int .i64 c.o] 169)).alloc (.cells #[.int .i64 (k:Int),.bool true,.int .i64 c.c,.int .i64 r] 193)).alloc (.cells #[.int .i64 (k:Int),.bool true,.int .i64 c.c,.int .i64 r] 193)
    have hB3:=Mch.Below.al (Mch.Below.al (Mch.Below.al hB hB.size (.cells #[.bool true,.int .i64 c.c,.int .i64 (nv:Int),.int .i64 c.o] 169)) (Nat.le_trans hB.size (by simp)) (.cells #[.int .i64 (k:Int),.bool true,.int .i64 c.c,.int .i64 r] 193)) (Nat.le_trans hB.size (by simp;omega)) (.cells #[.int .i64 (k:Int),.bool true,.int .i64 c.c,.int .i64 r] 193)
    have hcl:=op_cell (o:=⟨k,true,c.c,r⟩) (blk_new ((wr.alloc (.cells #[.bool true,.int .i64 c.c,.int .i64 (nv:Int),.int .i64 c.o] 169)).alloc (.cells #[.int .i64 (k:Int),.bool true,.int .i64 c.c,.int .i64 r] 193)) 193 _)
    simp only [World.size_alloc] at hcl
    have hone:∀ u ∈ Opn.cellsL ⟨k,true,c.c,r⟩,u.oneCell'=true:=by simpa [flatO] using opn_one [⟨k,true,c.c,r⟩]
    have hbs:=hB.size
    go_wp2_with (at_builtin;refine wpList_append_own _ rfl _ _ 191 rfl w2.heap.size 193 i0 (.agg #[.int .i64 0,.bool false,.int .i64 0,.int .i64 0]) 4 32 Tryz.underlying191 hi hz0 hz1 hz2 rfl (by decide) _ k (flatO (E.take k)) rfl hR3 ⟨wr.heap.size+1+1,0,none⟩ 1 1 (Opn.cellsL ⟨k,true,c.c,r⟩) rfl ?c0 ?c1 ?c2 ?c3 ?c4 ?c5 ?_)
    case c0=>rfl
    case c1=>exact hcl
    case c2=>exact hone
    case c3=>unfold maxLen;omega
    case c4=>omega
    try (case c5=>first | omega | (simp;omega))
    intro v5 w5 hown hgrow _
    have hb5:=hB3.grown hgrow (Nat.le_trans hbs (by simp;omega)) (fun g e=>by have:=(hR3.lt g e).1;omega)
    have hown':w5.ownsRow w2.heap.size 193 4 v5 (k+1) (flatO (E.take (k+1))):=by
     have e:=take_mapIdx (f:=f) sx.cs hc
     rw [<- HE.out,HO.out] at e
     rw [e,flatO_snoc]
     exact hown
    clear hown hgrow hcl hR3 hB3
    go_wp2_with fail
    go_roundw
    case rel=>exact ⟨k+1,by omega,by go_num,hb5,hown'⟩
    case measure=>simp [intOf];omega
   | false=>
    rw [hs] at c0
    have HO:Hid (opOf f k c=⟨k,false,c.c,0⟩):=Lib.hid (by unfold opOf;rw [hs];rfl)
    clear hSr hHC
    obtain ⟨la,lc,rfl⟩:=owns_slice' hR
    have hR3:=((hR.alloc (.cells #[.bool false,.int .i64 c.c,.int .i64 c.v,.int .i64 c.o] 169)).alloc (.cells #[.int .i64 (k:Int),.bool false,.int .i64 c.c,.int .i64 0] 193)).alloc (.cells #[.int .i64 (k:Int),.bool false,.int .i64 c.c,.int .i64 0] 193)
    have hB3:=Mch.Below.al (Mch.Below.al (Mch.Below.al hB hB.size (.cells #[.bool false,.int .i64 c.c,.int .i64 c.v,.int .i64 c.o] 169)) (Nat.le_trans hB.size (by simp)) (.cells #[.int .i64 (k:Int),.bool false,.int .i64 c.c,.int .i64 0] 193)) (Nat.le_trans hB.size (by simp;omega)) (.cells #[.int .i64 (k:Int),.bool false,.int .i64 c.c,.int .i64 0] 193)
    have hcl:=op_cell (o:=⟨k,false,c.c,0⟩) (blk_new ((wr.alloc (.cells #[.bool false,.int .i64 c.c,.int .i64 c.v,.int .i64 c.o] 169)).alloc (.cells #[.int .i64 (k:Int),.bool false,.int .i64 c.c,.int .i64 0] 193)) 193 _)
    simp only [World.size_alloc] at hcl
    have hone:∀ u ∈ Opn.cellsL ⟨k,false,c.c,0⟩,u.oneCell'=true:=by simpa [flatO] using opn_one [⟨k,false,c.c,0⟩]
    have hbs:=hB.size
    go_wp2_with (at_builtin;refine wpList_append_own _ rfl _ _ 191 rfl w2.heap.size 193 i0 (.agg #[.int .i64 0,.bool false,.int .i64 0,.int .i64 0]) 4 32 Tryz.underlying191 hi hz0 hz1 hz2 rfl (by decide) _ k (flatO (E.take k)) rfl hR3 ⟨wr.heap.size+1+1,0,none⟩ 1 1 (Opn.cellsL ⟨k,false,c.c,0⟩) rfl ?c0 ?c1 ?c2 ?c3 ?c4 ?c5 ?_)
    case c0=>rfl
    case c1=>exact hcl
    case c2=>exact hone
    case c3=>unfold maxLen;omega
    case c4=>omega
    try (case c5=>first | omega | (simp;omega))
    intro v5 w5 hown hgrow _
    have hb5:=hB3.grown hgrow (Nat.le_trans hbs (by simp;omega)) (fun g e=>by have:=(hR3.lt g e).1;omega)
    have hown':w5.ownsRow w2.heap.size 193 4 v5 (k+1) (flatO (E.take (k+1))):=by
     have e:=take_mapIdx (f:=f) sx.cs hc
     rw [<- HE.out,HO.out] at e
     rw [e,flatO_snoc]
     exact hown
    clear hown hgrow hcl hR3 hB3
    go_wp2_with fail
    go_roundw
    case rel=>exact ⟨k+1,by omega,by go_num,hb5,hown'⟩
    case measure=>simp [intOf];omega
  ·have hlt' : ¬ (k:Int)<(n:Int):=by omega
   obtain rfl:k=n:=by omega
   obtain ⟨la,lc,rfl⟩:=owns_slice' hR
   have HT:Hid (E.take k=E):=Lib.hid (List.take_of_length_le (by rw [HE.out,List.length_mapIdx, <- HN.out];omega))
   go_wp2_with fail
   go_ret
   rw [HT.out] at hR
   exact ⟨_,rfl,⟨hR.1,hR.2.imp id (fun ⟨g,cap,cur,h1,h2,r⟩=>⟨g,cap,cur,h1,Nat.le_trans hB2.size h2,r⟩)⟩,hB2.trans (hB.mono hB2.size)⟩
open Go.RowKit
open Ent (En EnRow EnAt)
open Mch (Wt Gt whatK putL Chn Frm Fw Fl grown_below below1 below_nx owns_slice' boxed_below)
theorem ready_any {o:Nat->Nat} {B:Nat} {M:Mod} (op:Opn) (w:World) (h:Md w o B M) (hc:op.c = -1 \/ (0<=op.c/\op.c<(M.C.length:Int))) (hS:(M.ch op.c).S.length<=1000) (hR:(M.ch op.c).R.length<=1000) :
  Calls Tryz.prog 167 #[ptrV B,opV op] w fun e w'=>e=.returned (.bool (ready M op))/\Below w.heap.size w w':=by
 obtain ⟨wa,hwa⟩:∃ wa,wa=w.alloc (.cells (opA op) 193):=⟨_,rfl⟩
 have hBa:Below w.heap.size w wa:=by rw [hwa];exact below1 w _
 have hOp:Blk wa w.heap.size 193 (opA op):=by rw [hwa];exact blk_new w _ _
 obtain ⟨ob,os,oc,ov⟩:=op
 simp only at hc hS hR
 have hd:Blk wa.drew w.heap.size 193 (opA ⟨ob,os,oc,ov⟩):=hOp
 by_cases hn:oc = -1
 ·have HC:Hid (ready M ⟨ob,os,oc,ov⟩=false):=Lib.hid (by unfold ready;simp [hn])
  have c2:wa.drew.cell? ⟨w.heap.size,2,none⟩=some (.int .i64 (-1)):=by rw [<- hn];exact hd.cell rfl
  clear hn hc
  go_enter Tryz.func167,Tryz.ntmps167
  go_upto_region 1 with fail
  rw [<- hwa]
  clear hwa
  have c2':wa.cell? ⟨w.heap.size,2,none⟩=some (.int .i64 (-1)):=c2
  go_quiet (fail)
  go_wp2_with fail
  go_ret
  rw [HC.out]
  exact ⟨rfl,Mch.below_drewN hBa _⟩
 ·have hc2:=hc.resolve_left hn
  obtain ⟨n,rfl⟩:∃ n:Nat,oc=(n:Int):=⟨oc.toNat,by omega⟩
  have hnl:n<M.C.length:=by omega
  have HC:Hid (ready M ⟨ob,os,n,ov⟩ = !((((M.ch (n:Int)).what os:Nat):Int) == 6)):=Lib.hid (by
   unfold ready
   rw [show ((n:Int) != -1)=true by simp,Bool.true_and]
   show (_ != 6)=_
   rw [bne]
   congr 1
   by_cases e:(M.ch (n:Int)).what os=6
   ·rw [e];rfl
   ·rw [beq_eq_false_iff_ne.2 e]
    exact (beq_eq_false_iff_ne.2 (by omega)).symm)
  have hx:=h
  obtain ⟨lo,hi,v1,v2,v3,vT,vC,Cs,hx⟩:=hx
  obtain ⟨C,g,cap,hC,hvC,hcell,hch⟩:=hx.chan hnl
  have hha:=hx.below hBa
  have hchW:∀ W,Below wa.heap.size wa W->Calls Tryz.prog 140 #[ptrV C,.bool os] W fun e w'=>e=.returned (.int .u8 (((M.ch (n:Int)).what os:Nat):Int))/\Below wa.heap.size wa w':=fun W hW=>by
   obtain ⟨b',u0,u1,hA,-⟩:=(hch.below (hBa.trans (hW.mono hBa.size))).at
   exact (Mch.what_any os W hA hS hR).mono fun e w' ⟨e1,e2⟩=>⟨e1,below_nx hW e2 (Nat.le_refl _)⟩
  obtain ⟨K,hK⟩:∃ K,K=(M.ch (n:Int)).what os:=⟨_,rfl⟩
  rw [<- hK] at HC hchW
  have hkS:∀ W,Below wa.heap.size wa W->W.cell? ⟨w.heap.size,2,none⟩=some (.int .i64 (n:Int))/\W.cell? ⟨w.heap.size,1,none⟩=some (.bool os)/\W.cell? ⟨B,5,none⟩=some (.slice (some ⟨g,0,none⟩) M.C.length cap)/\W.cell? ⟨g,n,none⟩=some (ptrV C)/\Below wa.heap.size wa W:=fun W hW=>by
   have h1:=Blk.later hOp hW hOp.lt
   have h2:=hha.below hW
   obtain ⟨C',g',cap',hC',hvC',hcell',-⟩:=h2.chan hnl
   rw [hC] at hC'
   cases hC'
   rw [hvC] at hvC'
   cases hvC'
   have h3:=h2.cn
   rw [hvC,hx.len] at h3
   exact ⟨h1.cell rfl,h1.cell rfl,h3,hcell',hW⟩
  have r0:Below wa.heap.size wa wa.drew:=(Below.refl _ _).drew
  obtain ⟨k0,k1,k2,k3,-⟩:=hkS _ r0
  have q0:(0:Int)<=(n:Int):=by omega
  have q1:(n:Int)<(M.C.length:Int):=by omega
  have q2:((n:Int) == -1)=false:=by simp
  clear hn hc hc2 h hx hK hch hcell hC hvC hha
  go_enter Tryz.func167,Tryz.ntmps167
  go_upto_region 1 with fail
  rw [<- hwa]
  clear hwa
  first
   | (go_region_held3 (fun W=>W.cell? ⟨w.heap.size,2,none⟩=some (.int .i64 (n:Int))/\W.cell? ⟨w.heap.size,1,none⟩=some (.bool os)/\W.cell? ⟨B,5,none⟩=some (.slice (some ⟨g,0,none⟩) M.C.length cap)/\W.cell? ⟨g,n,none⟩=some (ptrV C)/\Below wa.heap.size wa W)
     ((refine hkS _ ?_;with_reducible first | exact r0 | exact hb2))
     ((first
      | (go_at_call 140;with_reducible refine (hchW _ r0).mono ?_;rintro e w2 ⟨rfl,hb2⟩))))
  all_goals go_wp2_with fail
  all_goals go_ret
  all_goals rw [HC.out]
  all_goals exact ⟨rfl,hBa.trans (hb2.mono hBa.size)⟩
end Go.Proofs.YtnfbncgfpmcpnaaGreat.Mdl
