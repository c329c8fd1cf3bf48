/- 19. -/
import Derived.Test.YthfgpkdbclogpaaGreatDoorTx17
import Derived.Test.YthfgpkdbclogpaaGreatDoorTx18
set_option maxHeartbeats 40000000
set_option maxRecDepth 100000
namespace Go.Proofs.YthfgpkdbclogpaaGreatDoor
open Go.RowKit Go.Shelf
theorem ta_fn (p:Nat)(w:World):(Instr.typeAssert (fnI p) 74 81 true).run Tryz.prog w= .ok (.tuple #[ptB p,.bool true]) w:=by
 simp[Instr.typeAssert,run_underlying Tryz.underlying81,go_sem,Result.andThen]
attribute [local go_sem] ta_fn
structure CaI (w:World)(r wb g gn cn c1 hB:Nat)(x:Int)(t:ByteArray)(m1 m2:Int)(k:Nat)(W:World):Prop where
 fr:Fr w.heap.size r (bif k==0 then m1 else m2) w W
 bx:W.heap[w.heap.size]? =some (.cells #[.int .i64 10,.int .i64 x,.string t,.slice (some ⟨g,0,none⟩) 2 c1,.slice (some ⟨gn,0,none⟩) 1 cn] 162 (0,0))
 hl:w.heap.size<hB∧hB<W.heap.size
 h0:k=0→W.heap[hB]? =some (.cells #[.slice none 0 0,.slice (some ⟨gn,0,none⟩) 1 cn] 129 (0,0))
 h1:k=1→∃ gv cv,W.heap[hB]? =some (.cells #[.slice (some ⟨gv,0,none⟩) 1 cv,.slice (some ⟨gn,0,none⟩) 1 cn] 129 (0,0))∧W.cell? ⟨gv,0,none⟩=some (txV bT)
def SCa (wb r e:Nat)(k2 x2:Int)(t2:ByteArray)(b1 b2:Option Addr)(e1 d1 e2 d2:Nat)(V:World):Prop:=V.cell? ⟨wb,0,none⟩=some (ptB r)∧V.heap[e]? =some (.cells #[.int .i64 k2,.int .i64 x2,.string t2,.slice b1 e1 d1,.slice b2 e2 d2] 162 (0,0))
theorem SCa.cells {wb r e:Nat}{k2 x2:Int}{t2:ByteArray}{b1 b2:Option Addr}{e1 d1 e2 d2:Nat}{V:World}(h:SCa wb r e k2 x2 t2 b1 b2 e1 d1 e2 d2 V):V.cell? ⟨wb,0,none⟩=some (ptB r)∧V.cell? ⟨e,0,none⟩=some (.int .i64 k2)∧V.cell? ⟨e,1,none⟩=some (.int .i64 x2)∧V.cell? ⟨e,2,none⟩=some (.string t2)∧V.cell? ⟨e,3,none⟩=some (.slice b1 e1 d1)∧V.cell? ⟨e,4,none⟩=some (.slice b2 e2 d2):=by
 refine⟨h.1,?_,?_,?_,?_,?_⟩<;>(rw[Lib.cell_of_heap h.2];rfl)
def SCd (wb r hB gv cv gn cn:Nat)(V:World):Prop:=V.cell? ⟨wb,0,none⟩=some (ptB r)∧V.cell? ⟨hB,0,none⟩=some (.slice (some ⟨gv,0,none⟩) 1 cv)∧V.cell? ⟨hB,1,none⟩=some (.slice (some ⟨gn,0,none⟩) 1 cn)
theorem infVl:(Tryz.prog.info? 74).map (fun i=>(i.zero,i.size,i.bytes))=some (some .nilIface,1,16):=by kernel_rfl
set_option linter.unusedSimpArgs false in
theorem call1 {wb r g gn cn p c1:Nat}{n m1 m2 x x1 x2:Int}{t t1 t2:ByteArray}{k1 k2:Int}{a b c:Value}{p1 p2 b1 b2:Option Addr}{g1 g2 h1 h2 e1 d1 e2 d2:Nat}{w:World}(h:WkAt w wb r n)(hr:RAt w r #[a,b,c,.int .i64 n,.slice none 0 0])(hwr:wb≠r)
  (hk1:KidAt w r g 0 k1 x1 t1 (.slice p1 g1 h1) (.slice p2 g2 h2)) (hk2:KidAt w r g 5 k2 x2 t2 (.slice b1 e1 d1) (.slice b2 e2 d2)) (hn:w.cell? ⟨gn,0,none⟩=some (.string kName)) (hnr:gn≠r) (hp:w.heap[p]? =some (.cells (fnC r) 102 (0,0))) (hpr:p≠r) (hc1:2≤c1∧c1≤maxLen)
  (HK1:Rk w wb r (exV k1 x1 t1 (.slice p1 g1 h1) (.slice p2 g2 h2)) n m1 (fnI p)) (HK2:Rk w wb r (exV k2 x2 t2 (.slice b1 e1 d1) (.slice b2 e2 d2)) m1 m2 (txV bT)):
  Calls Tryz.prog 180 #[ptB wb,exV 10 x t (.slice (some ⟨g,0,none⟩) 2 c1) (.slice (some ⟨gn,0,none⟩) 1 cn)] w fun e w'=>e= .returned (txV bT)∧KP r w w'∧RuQ a b c m2 r w.heap.size w':=by
 obtain⟨i0,hi,hz0,hz1,hz2⟩:=info_p infVl
 have hgup:=fun W=>gup_any false 8 W
 obtain⟨W1,e1'⟩:∃ W1,W1=w.alloc (.cells #[.int .i64 10,.int .i64 x,.string t,.slice (some ⟨g,0,none⟩) 2 c1,.slice (some ⟨gn,0,none⟩) 1 cn] 162):=⟨_,rfl⟩
 have hb1:Below w.heap.size w W1:=by rw[e1'];exact(Below.refl _ w).alloc (Nat.le_refl _) _
 have F1:Fr w.heap.size r n w W1:=Fr.same hr h.fuel hb1
 obtain⟨-,-,j0,j1,j2,j3,j4⟩:=hk1.fr F1
 simp only[Nat.zero_add]at j1 j2 j3 j4
 have HC1:=HK1 _ F1
 have hbox:W1.heap[w.heap.size]? =some (.cells #[.int .i64 10,.int .i64 x,.string t,.slice (some ⟨g,0,none⟩) 2 c1,.slice (some ⟨gn,0,none⟩) 1 cn] 162 (0,0)):=by rw[e1'];exact heap_alloc_new w _
 have hs1:W1.heap.size=w.heap.size+1:=by rw[e1'];exact World.size_alloc _ _
 have hlr:=h.lr
 have hwl:=h.lw
 have HF:Hid (WkAt w wb r n∧RAt w r #[a,b,c,.int .i64 n,.slice none 0 0]∧KidAt w r g 5 k2 x2 t2 (.slice b1 e1 d1) (.slice b2 e2 d2)∧w.cell? ⟨gn,0,none⟩=some (.string kName)∧w.heap[p]? =some (.cells (fnC r) 102 (0,0))∧Rk w wb r (exV k2 x2 t2 (.slice b1 e1 d1) (.slice b2 e2 d2)) m1 m2 (txV bT)∧W1.heap[w.heap.size]? =some (.cells #[.int .i64 10,.int .i64 x,.string t,.slice (some ⟨g,0,none⟩) 2 c1,.slice (some ⟨gn,0,none⟩) 1 cn] 162 (0,0))∧Fr w.heap.size r n w W1):=⟨h,hr,hk2,hn,hp,HK2,hbox,F1⟩
 have q3:W1.cell? ⟨w.heap.size,3,none⟩=some (.slice (some ⟨g,0,none⟩) 2 c1):=by rw[Lib.cell_of_heap hbox];rfl
 clear hb1 hk1 HK1 F1 hbox hr hk2 hn hp HK2 h
 rw[e1']at j0 j1 j2 j3 j4 q3 HC1
 go_enter Tryz.func180,Tryz.ntmps180
 go_wp2_with fail
 refine HC1.mono ?_
 rintro e W2 ⟨rfl,hb⟩
 rw[←e1']at hb
 have F2:Fr w.heap.size r m1 w W2:=HF.out.2.2.2.2.2.2.2.trans hlr HF.out.2.1 (Below.mono hb (by omega))
 have hs2:W1.heap.size≤W2.heap.size:=Fr.size hb
 have bx2:W2.heap[w.heap.size]? =some (.cells #[.int .i64 10,.int .i64 x,.string t,.slice (some ⟨g,0,none⟩) 2 c1,.slice (some ⟨gn,0,none⟩) 1 cn] 162 (0,0)):=by
  rw[hb.block _ (by omega),Below.heap_setCell _ ⟨r,3,none⟩ _ _ (by show w.heap.size≠r;omega)]
  exact HF.out.2.2.2.2.2.2.1
 have u3:W2.cell? ⟨w.heap.size,3,none⟩=some (.slice (some ⟨g,0,none⟩) 2 c1):=by rw[Lib.cell_of_heap bx2];rfl
 have u4:W2.cell? ⟨w.heap.size,4,none⟩=some (.slice (some ⟨gn,0,none⟩) 1 cn):=by rw[Lib.cell_of_heap bx2];rfl
 obtain⟨W3,e3⟩:∃ W3,W3=W2.alloc (.cells #[.slice none 0 0,.slice (some ⟨gn,0,none⟩) 1 cn] 129):=⟨_,rfl⟩
 have hb3:Below W2.heap.size W2 W3:=by rw[e3];exact(Below.refl _ W2).alloc (Nat.le_refl _) _
 have H0:Hid (CaI w r wb g gn cn c1 W2.heap.size x t m1 m2 0 W3):=⟨F2.below (hb3.mono (by omega)),(hb3.block _ (by omega)).trans bx2,⟨by omega,by rw[e3,World.size_alloc];omega⟩,fun _=>by rw[e3];exact heap_alloc_new W2 _,fun e=>by cases e⟩
 have u3':W3.cell? ⟨w.heap.size,3,none⟩=some (.slice (some ⟨g,0,none⟩) 2 c1):=(hb3.cell (by show w.heap.size<W2.heap.size;omega)).trans u3
 clear hb F2 bx2 hb3 HC1 j0 j1 j2 j3 j4 q3
 rw[e3]at u3'
 go_wp2_with fail
 rw[←e3]at *
 clear e3
 obtain⟨hB,hhB⟩:∃ hB,hB=W2.heap.size:=⟨_,rfl⟩
 rw[←hhB]at H0 ⊢
 clear hhB
 go_loopw [24] (fun i wr=>∃ k:Nat,k≤1∧i= .int .i64 (k:Int)∧Hid (CaI w r wb g gn cn c1 hB x t m1 m2 k wr)) (fun i _=>1-(intOf i).toNat)
 case atStart=>exact⟨0,Nat.zero_le _,rfl,H0⟩
 case round=>
  obtain⟨k,hk,rfl,HN⟩:=hrel
  clear H0 u3 u4 u3'
  rcases(show k=0∨k=1 by omega)with rfl|rfl
  ·have F0:Fr w.heap.size r m1 w wr:=HN.out.fr
   obtain⟨-,-,i0',i1,i2,i3,i4⟩:=HF.out.2.2.1.fr F0
   simp only[Nat.reduceAdd]at i0' i1 i2 i3 i4
   obtain⟨hB1,hB2⟩:=HN.out.hl
   obtain⟨W4,e4⟩:∃ W4,W4=wr.alloc (.cells #[.int .i64 k2,.int .i64 x2,.string t2,.slice b1 e1 d1,.slice b2 e2 d2] 162):=⟨_,rfl⟩
   have hb4:Below wr.heap.size wr W4:=by rw[e4];exact(Below.refl _ wr).alloc (Nat.le_refl _) _
   have F4:Fr w.heap.size r m1 w W4.drew:=(F0.below (hb4.mono (by omega))).below (Below.refl _ W4).drew
   have HKd:=HF.out.2.2.2.2.2.1 W4.drew F4
   have hs4:W4.heap.size=wr.heap.size+1:=by rw[e4];exact World.size_alloc _ _
   have h04:W4.heap[hB]? =some (.cells #[.slice none 0 0,.slice (some ⟨gn,0,none⟩) 1 cn] 129 (0,0)):=(hb4.block _ hB2).trans (HN.out.h0 rfl)
   have y4:W4.cell? ⟨hB,0,none⟩=some (.slice none 0 0):=by rw[Lib.cell_of_heap h04];rfl
   have hS4:SCa wb r wr.heap.size k2 x2 t2 b1 b2 e1 d1 e2 d2 W4.drew:=⟨(F4.other (p:=⟨wb,0,none⟩) hwl hwr).trans HF.out.1.run,by show W4.heap[wr.heap.size]? =_;rw[e4];exact heap_alloc_new wr _⟩
   have HSS:Hid (SCa wb r wr.heap.size k2 x2 t2 b1 b2 e1 d1 e2 d2 W4.drew):=hS4
   have HQ5:Hid (∀ W5,Fr W4.drew.heap.size r m2 W4.drew W5→W5.cell? ⟨hB,0,none⟩=some (.slice none 0 0)∧SCa wb r wr.heap.size k2 x2 t2 b1 b2 e1 d1 e2 d2 W5∧(Fr w.heap.size r m2 w W5∧Fr W4.drew.heap.size r m2 W4.drew W5)):=fun W5 f5=>by
    have f5':Fr W4.heap.size r m2 W4.drew W5:=f5
    have o5:∀ q,q<W4.heap.size→q≠r→W5.heap[q]? =W4.heap[q]? :=fun q h1 h2=>by rw[f5'.block q h1];exact Below.heap_setCell _ ⟨r,3,none⟩ _ q h2
    refine⟨(World.cell?_of_block (o5 hB (by omega) (by omega))).trans y4,⟨(World.cell?_of_block (o5 wb (by omega) hwr)).trans hS4.1,(o5 _ (by omega) (by omega)).trans hS4.2⟩,Fr.trans hlr HF.out.2.1 F4 (Below.mono f5 (by show w.heap.size≤W4.heap.size;omega)),f5⟩
   have HQ6:Hid (∀ W5 W6,(Fr w.heap.size r m2 w W5∧Fr W4.drew.heap.size r m2 W4.drew W5)→W6=W5.alloc (.cells #[txV bT] 74)→W6.cell? ⟨hB,0,none⟩=some (.slice none 0 0)∧SCa wb r wr.heap.size k2 x2 t2 b1 b2 e1 d1 e2 d2 W6∧(∀ (j:Nat) (u:Value),([txV bT]:List Value)[j]? =some u→W6.cell? ((⟨W5.heap.size,0,none⟩:Addr).add j)=some u)∧
     ∀ gv cv W7,W7.ownsRow W6.heap.size 74 1 (.slice (some ⟨gv,0,none⟩) (0+1) cv) (0+1) ([]++[txV bT])→W6.grownBy W7 (Value.slice none 0 0).ownBlock→W7.cell? ⟨hB,0,none⟩=some (.slice none 0 0)∧W7.frozen? ⟨hB,0,none⟩=false∧SCa wb r wr.heap.size k2 x2 t2 b1 b2 e1 d1 e2 d2 W7∧(SCa wb r wr.heap.size k2 x2 t2 b1 b2 e1 d1 e2 d2 (W7.setCell ⟨hB,0,none⟩ (.slice (some ⟨gv,0,none⟩) 1 cv))∧CaI w r wb g gn cn c1 hB x t m1 m2 1 (W7.setCell ⟨hB,0,none⟩ (.slice (some ⟨gv,0,none⟩) 1 cv)))):=fun W5 W6 H5 e6=>by
    obtain⟨fw,f5⟩:=H5
    have f5':Fr W4.heap.size r m2 W4.drew W5:=f5
    have hs5:W4.heap.size≤W5.heap.size:=by
     have hz:W4.drew.heap.size≤W5.heap.size:=Fr.size f5
     exact hz
    have hb6:Below W5.heap.size W5 W6:=by rw[e6];exact(Below.refl _ W5).alloc (Nat.le_refl _) _
    have hs6:W6.heap.size=W5.heap.size+1:=by rw[e6];exact World.size_alloc _ _
    have o6:∀ q,q<W4.heap.size→q≠r→W6.heap[q]? =W4.heap[q]? :=fun q h1 h2=>by rw[hb6.block q (by omega),f5'.block q h1];exact Below.heap_setCell _ ⟨r,3,none⟩ _ q h2
    refine⟨(World.cell?_of_block (o6 hB (by omega) (by omega))).trans y4,⟨(World.cell?_of_block (o6 wb (by omega) hwr)).trans hS4.1,(o6 _ (by omega) (by omega)).trans hS4.2⟩,fun j u hu=>by rw[e6];exact World.news_of_block (heap_alloc_new W5 _) j u hu,fun gv cv W7 hown hgr=>?_⟩
    have o7:∀ q,q<W6.heap.size→W7.heap[q]? =W6.heap[q]? :=fun q hq=>hgr.block q hq (fun e=>by cases e)
    have hs7:=hgr.size
    have p7:∀ q,q<W4.heap.size→q≠r→W7.heap[q]? =W4.heap[q]? :=fun q h1 h2=>(o7 q (by omega)).trans (o6 q h1 h2)
    have h07:=(p7 hB (by omega) (by omega)).trans h04
    have hgv:=(hown.lt gv rfl).1
    have hct:W7.cell? ⟨gv,0,none⟩=some (txV bT):=hown.cells rfl 0 _ rfl
    have hS7:SCa wb r wr.heap.size k2 x2 t2 b1 b2 e1 d1 e2 d2 W7:=⟨(World.cell?_of_block (p7 wb (by omega) hwr)).trans hS4.1,(p7 _ (by omega) (by omega)).trans hS4.2⟩
    have o8:∀ q,q≠hB→(W7.setCell ⟨hB,0,none⟩ (.slice (some ⟨gv,0,none⟩) 1 cv)).heap[q]? =W7.heap[q]? :=fun q hq=>Below.heap_setCell _ ⟨hB,0,none⟩ _ q hq
    refine⟨by rw[Lib.cell_of_heap h07];rfl,Lib.frozen_of_heap h07 0,hS7,⟨(World.cell?_of_block (o8 wb (by omega))).trans hS7.1,(o8 _ (by omega)).trans hS7.2⟩,⟨?_,?_,⟨hB1,by rw[size_set];omega⟩,(fun e=>by cases e),fun _=>⟨gv,cv,?_,?_⟩⟩⟩
    ·have hwW:w.heap.size≤W5.heap.size:=fw.size
     have hb7:Below W6.heap.size W6 W7:=⟨hgr.os,hgr.tape,hgr.output,hgr.size,o7⟩
     exact((fw.below (hb6.mono hwW)).below (hb7.mono (by omega))).below ((Below.refl _ W7).setCell (p:=⟨hB,0,none⟩) (by show w.heap.size≤hB;omega) _)
    ·rw[o8 _ (by omega),p7 _ (by omega) (by omega),hb4.block _ (by omega)]
     exact HN.out.bx
    ·rw[heap_setCell_same W7 hB 0 _ 129 _ h07]
     rfl
    ·exact(World.cell?_of_block (o8 gv (by omega))).trans hct
   have y4':wr.cell? ⟨hB,0,none⟩=some (.slice none 0 0):=by rw[Lib.cell_of_heap (HN.out.h0 rfl)];rfl
   clear F0 hb4 F4 hs4 h04 hS4 hB1 hB2
   go_wp2_with fail
   rw[←e4]
   clear e4 y4' i0' i1 i2 i3 i4
   refine wp_region_held_drew (S:=SCa wb r wr.heap.size k2 x2 t2 b1 b2 e1 d1 e2 d2) (by kernel_rfl) HSS.out (fun hHeld=>?_)
   refine wpAnyH_take (i:=0) (v:= .pointer (some ⟨hB,0,none⟩)) rfl (by kernel_rfl) (by kernel_rfl) (by kernel_rfl) (fun _ _ _ h=>h) (Or.inl ⟨by rfl,?_⟩) (by assumption) ?_
   ·intro V' hSV
    obtain⟨s0,s1,s2,s3,s4,s5⟩:=hSV.cells
    go_simp
    try with_reducible rfl
   try simp only[Act.put,List.getElem_toArray,List.getElem_cons_succ,List.getElem_cons_zero,List.setIfInBounds_toArray,List.set_cons_zero,List.set_cons_succ]
   refine wpAnyH_take (i:=2) (v:=ptB wb) rfl (by kernel_rfl) (by kernel_rfl) (by kernel_rfl) (fun _ _ _ h=>h) (Or.inl ⟨by rfl,?_⟩) (by assumption) ?_
   ·intro V' hSV
    obtain⟨s0,s1,s2,s3,s4,s5⟩:=hSV.cells
    go_simp
    try with_reducible rfl
   try simp only[Act.put,List.getElem_toArray,List.getElem_cons_succ,List.getElem_cons_zero,List.setIfInBounds_toArray,List.set_cons_zero,List.set_cons_succ]
   refine wpAnyH_take (i:=3) (v:=exV k2 x2 t2 (.slice b1 e1 d1) (.slice b2 e2 d2)) rfl (by kernel_rfl) (by kernel_rfl) (by kernel_rfl) (fun _ _ _ h=>h) (Or.inl ⟨by rfl,?_⟩) (by assumption) ?_
   ·intro V' hSV
    obtain⟨s0,s1,s2,s3,s4,s5⟩:=hSV.cells
    go_simp
    try with_reducible rfl
   try simp only[Act.put,List.getElem_toArray,List.getElem_cons_succ,List.getElem_cons_zero,List.setIfInBounds_toArray,List.set_cons_zero,List.set_cons_succ]
   refine wpAnyH_ready (rs:=[1,4]) (by kernel_rfl) (by simp) (AllReadyH.cons rfl (fun K hK=>?_) (AllReadyH.cons rfl (fun K hK=>?_) AllReadyH.nil))
   ·go_simp
    refine hK.out _ _ HSS.out (fun hHeld=>?_)
    clear hK K
    try simp only[Act.put,List.getElem_toArray,List.getElem_cons_succ,List.getElem_cons_zero,List.setIfInBounds_toArray,List.set_cons_zero,List.set_cons_succ]
    refine wpAnyH_ready (rs:=[4]) (by kernel_rfl) (by simp) (AllReadyH.cons rfl (fun K hK=>?_) AllReadyH.nil)
    go_simp
    refine HKd.mono ?_
    rintro e W5 ⟨rfl,hb5⟩
    obtain⟨y5,hS5,H5⟩:=HQ5.out W5 hb5
    clear hb5
    refine hK.out _ _ hS5 (fun hHeld=>?_)
    clear hK K
    try simp only[Act.put,List.getElem_toArray,List.getElem_cons_succ,List.getElem_cons_zero,List.setIfInBounds_toArray,List.set_cons_zero,List.set_cons_succ]
    refine wpAnyH_ready (rs:=[5]) (by kernel_rfl) (by simp) (AllReadyH.cons rfl (fun K hK=>?_) AllReadyH.nil)
    obtain⟨W6,e6⟩:∃ W6,W6=W5.alloc (.cells #[txV bT] 74):=⟨_,rfl⟩
    obtain⟨y6,hS6,hn6,HQ7⟩:=HQ6.out W5 W6 H5 e6
    go_simp
    rw[←e6]
    clear e6
    refine hK.out _ _ hS6 (fun hHeld=>?_)
    clear hK K
    try simp only[Act.put,List.getElem_toArray,List.getElem_cons_succ,List.getElem_cons_zero,List.setIfInBounds_toArray,List.set_cons_zero,List.set_cons_succ]
    refine wpAnyH_ready (rs:=[6]) (by kernel_rfl) (by simp) (AllReadyH.cons rfl (fun K hK=>?_) AllReadyH.nil)
    refine step_append_lies (w:=W6) (by rfl) (Operand.tmp 29) (Operand.tmp 33) 83 (by rfl) W6.heap.size 74 i0 .nilIface 1 16 Tryz.underlying83 hi hz0 hz1 hz2 rfl (by decide) (.slice none 0 0) 0 [] (by rfl) (World.ownsRow_nil _ _ _ _) ⟨W5.heap.size,0,none⟩ 1 1 ([txV bT]:List Value) (by rfl) rfl hn6 (by simp[Value.oneCell']) (by decide) (by unfold maxLen;omega) (by omega) (Nat.le_refl _) W6.heap.size rfl ?_
    intro gv cv W7 hown hgr hat hlt
    obtain⟨y7,f7,hS7,H8⟩:=HQ7 gv cv W7 hown hgr
    clear hown hgr hat
    refine hK.out _ _ hS7 (fun hHeld=>?_)
    clear hK K
    try simp only[Act.put,List.getElem_toArray,List.getElem_cons_succ,List.getElem_cons_zero,List.setIfInBounds_toArray,List.set_cons_zero,List.set_cons_succ]
    refine wpAnyH_take (i:=7) (v:= .pointer (some ⟨hB,0,none⟩)) rfl (by kernel_rfl) (by kernel_rfl) (by kernel_rfl) (fun _ _ _ h=>h) (Or.inl ⟨by rfl,?_⟩) (by assumption) ?_
    ·intro V' hSV
     go_simp
     try with_reducible rfl
    try simp only[Act.put,List.getElem_toArray,List.getElem_cons_succ,List.getElem_cons_zero,List.setIfInBounds_toArray,List.set_cons_zero,List.set_cons_succ]
    refine wpAnyH_ready (rs:=[8]) (by kernel_rfl) (by simp) (AllReadyH.cons rfl (fun K hK=>?_) AllReadyH.nil)
    go_simp
    refine hK.out _ _ H8.1 (fun hHeld=>?_)
    clear hK K
    refine wpAnyH_done (by kernel_rfl) ?_ _
    try simp only[Act.put,List.getElem_toArray,List.getElem_cons_succ,List.getElem_cons_zero,List.setIfInBounds_toArray,List.set_cons_zero,List.set_cons_succ]
    have HN:Hid (CaI w r wb g gn cn c1 hB x t m1 m2 1 (W7.setCell ⟨hB,0,none⟩ (.slice (some ⟨gv,0,none⟩) 1 cv))):=H8.2
    clear H8 hS7 y7 f7
    go_wp2
    exact⟨⟨1,Nat.le_refl _,by simp,HN⟩,by simp only[intOf];omega⟩
   ·go_simp
    refine HKd.mono ?_
    rintro e W5 ⟨rfl,hb5⟩
    obtain⟨y5,hS5,H5⟩:=HQ5.out W5 hb5
    clear hb5
    refine hK.out _ _ hS5 (fun hHeld=>?_)
    clear hK K
    try simp only[Act.put,List.getElem_toArray,List.getElem_cons_succ,List.getElem_cons_zero,List.setIfInBounds_toArray,List.set_cons_zero,List.set_cons_succ]
    refine wpAnyH_ready (rs:=[1,5]) (by kernel_rfl) (by simp) (AllReadyH.cons rfl (fun K hK=>?_) (AllReadyH.cons rfl (fun K hK=>?_) AllReadyH.nil))
    ·go_simp
     refine hK.out _ _ hS5 (fun hHeld=>?_)
     clear hK K
     try simp only[Act.put,List.getElem_toArray,List.getElem_cons_succ,List.getElem_cons_zero,List.setIfInBounds_toArray,List.set_cons_zero,List.set_cons_succ]
     refine wpAnyH_ready (rs:=[5]) (by kernel_rfl) (by simp) (AllReadyH.cons rfl (fun K hK=>?_) AllReadyH.nil)
     obtain⟨W6,e6⟩:∃ W6,W6=W5.alloc (.cells #[txV bT] 74):=⟨_,rfl⟩
     obtain⟨y6,hS6,hn6,HQ7⟩:=HQ6.out W5 W6 H5 e6
     go_simp
     rw[←e6]
     clear e6
     refine hK.out _ _ hS6 (fun hHeld=>?_)
     clear hK K
     try simp only[Act.put,List.getElem_toArray,List.getElem_cons_succ,List.getElem_cons_zero,List.setIfInBounds_toArray,List.set_cons_zero,List.set_cons_succ]
     refine wpAnyH_ready (rs:=[6]) (by kernel_rfl) (by simp) (AllReadyH.cons rfl (fun K hK=>?_) AllReadyH.nil)
     refine step_append_lies (w:=W6) (by rfl) (Operand.tmp 29) (Operand.tmp 33) 83 (by rfl) W6.heap.size 74 i0 .nilIface 1 16 Tryz.underlying83 hi hz0 hz1 hz2 rfl (by decide) (.slice none 0 0) 0 [] (by rfl) (World.ownsRow_nil _ _ _ _) ⟨W5.heap.size,0,none⟩ 1 1 ([txV bT]:List Value) (by rfl) rfl hn6 (by simp[Value.oneCell']) (by decide) (by unfold maxLen;omega) (by omega) (Nat.le_refl _) W6.heap.size rfl ?_
     intro gv cv W7 hown hgr hat hlt
     obtain⟨y7,f7,hS7,H8⟩:=HQ7 gv cv W7 hown hgr
     clear hown hgr hat
     refine hK.out _ _ hS7 (fun hHeld=>?_)
     clear hK K
     try simp only[Act.put,List.getElem_toArray,List.getElem_cons_succ,List.getElem_cons_zero,List.setIfInBounds_toArray,List.set_cons_zero,List.set_cons_succ]
     refine wpAnyH_take (i:=7) (v:= .pointer (some ⟨hB,0,none⟩)) rfl (by kernel_rfl) (by kernel_rfl) (by kernel_rfl) (fun _ _ _ h=>h) (Or.inl ⟨by rfl,?_⟩) (by assumption) ?_
     ·intro V' hSV
      go_simp
      try with_reducible rfl
     try simp only[Act.put,List.getElem_toArray,List.getElem_cons_succ,List.getElem_cons_zero,List.setIfInBounds_toArray,List.set_cons_zero,List.set_cons_succ]
     refine wpAnyH_ready (rs:=[8]) (by kernel_rfl) (by simp) (AllReadyH.cons rfl (fun K hK=>?_) AllReadyH.nil)
     go_simp
     refine hK.out _ _ H8.1 (fun hHeld=>?_)
     clear hK K
     refine wpAnyH_done (by kernel_rfl) ?_ _
     try simp only[Act.put,List.getElem_toArray,List.getElem_cons_succ,List.getElem_cons_zero,List.setIfInBounds_toArray,List.set_cons_zero,List.set_cons_succ]
     have HN:Hid (CaI w r wb g gn cn c1 hB x t m1 m2 1 (W7.setCell ⟨hB,0,none⟩ (.slice (some ⟨gv,0,none⟩) 1 cv))):=H8.2
     clear H8 hS7 y7 f7
     go_wp2
     exact⟨⟨1,Nat.le_refl _,by simp,HN⟩,by simp only[intOf];omega⟩
    ·obtain⟨W6,e6⟩:∃ W6,W6=W5.alloc (.cells #[txV bT] 74):=⟨_,rfl⟩
     obtain⟨y6,hS6,hn6,HQ7⟩:=HQ6.out W5 W6 H5 e6
     go_simp
     rw[←e6]
     clear e6
     refine hK.out _ _ hS6 (fun hHeld=>?_)
     clear hK K
     try simp only[Act.put,List.getElem_toArray,List.getElem_cons_succ,List.getElem_cons_zero,List.setIfInBounds_toArray,List.set_cons_zero,List.set_cons_succ]
     refine wpAnyH_ready (rs:=[1]) (by kernel_rfl) (by simp) (AllReadyH.cons rfl (fun K hK=>?_) AllReadyH.nil)
     go_simp
     refine hK.out _ _ hS6 (fun hHeld=>?_)
     clear hK K
     try simp only[Act.put,List.getElem_toArray,List.getElem_cons_succ,List.getElem_cons_zero,List.setIfInBounds_toArray,List.set_cons_zero,List.set_cons_succ]
     refine wpAnyH_ready (rs:=[6]) (by kernel_rfl) (by simp) (AllReadyH.cons rfl (fun K hK=>?_) AllReadyH.nil)
     refine step_append_lies (w:=W6) (by rfl) (Operand.tmp 29) (Operand.tmp 33) 83 (by rfl) W6.heap.size 74 i0 .nilIface 1 16 Tryz.underlying83 hi hz0 hz1 hz2 rfl (by decide) (.slice none 0 0) 0 [] (by rfl) (World.ownsRow_nil _ _ _ _) ⟨W5.heap.size,0,none⟩ 1 1 ([txV bT]:List Value) (by rfl) rfl hn6 (by simp[Value.oneCell']) (by decide) (by unfold maxLen;omega) (by omega) (Nat.le_refl _) W6.heap.size rfl ?_
     intro gv cv W7 hown hgr hat hlt
     obtain⟨y7,f7,hS7,H8⟩:=HQ7 gv cv W7 hown hgr
     clear hown hgr hat
     refine hK.out _ _ hS7 (fun hHeld=>?_)
     clear hK K
     try simp only[Act.put,List.getElem_toArray,List.getElem_cons_succ,List.getElem_cons_zero,List.setIfInBounds_toArray,List.set_cons_zero,List.set_cons_succ]
     refine wpAnyH_take (i:=7) (v:= .pointer (some ⟨hB,0,none⟩)) rfl (by kernel_rfl) (by kernel_rfl) (by kernel_rfl) (fun _ _ _ h=>h) (Or.inl ⟨by rfl,?_⟩) (by assumption) ?_
     ·intro V' hSV
      go_simp
      try with_reducible rfl
     try simp only[Act.put,List.getElem_toArray,List.getElem_cons_succ,List.getElem_cons_zero,List.setIfInBounds_toArray,List.set_cons_zero,List.set_cons_succ]
     refine wpAnyH_ready (rs:=[8]) (by kernel_rfl) (by simp) (AllReadyH.cons rfl (fun K hK=>?_) AllReadyH.nil)
     go_simp
     refine hK.out _ _ H8.1 (fun hHeld=>?_)
     clear hK K
     refine wpAnyH_done (by kernel_rfl) ?_ _
     try simp only[Act.put,List.getElem_toArray,List.getElem_cons_succ,List.getElem_cons_zero,List.setIfInBounds_toArray,List.set_cons_zero,List.set_cons_succ]
     have HN:Hid (CaI w r wb g gn cn c1 hB x t m1 m2 1 (W7.setCell ⟨hB,0,none⟩ (.slice (some ⟨gv,0,none⟩) 1 cv))):=H8.2
     clear H8 hS7 y7 f7
     go_wp2
     exact⟨⟨1,Nat.le_refl _,by simp,HN⟩,by simp only[intOf];omega⟩
  ·obtain⟨gv,cv,h1,hct⟩:=HN.out.h1 rfl
   have hhB:wr.cell? ⟨hB,0,none⟩=some (.slice (some ⟨gv,0,none⟩) 1 cv):=by rw[Lib.cell_of_heap h1];rfl
   have hhN:wr.cell? ⟨hB,1,none⟩=some (.slice (some ⟨gn,0,none⟩) 1 cn):=by rw[Lib.cell_of_heap h1];rfl
   have u3:wr.cell? ⟨w.heap.size,3,none⟩=some (.slice (some ⟨g,0,none⟩) 2 c1):=by rw[Lib.cell_of_heap HN.out.bx];rfl
   have FN:Fr w.heap.size r m2 w wr:=HN.out.fr
   have hgn:=World.block_lt_of_cell? _ _ HF.out.2.2.2.1
   have hlp:=(Array.getElem?_eq_some_iff.1 HF.out.2.2.2.2.1).1
   have hpw:wr.drew.heap[p]? =some (.cells (fnC r) 102 (0,0)):=by
    show wr.heap[p]? =_
    rw[FN.block p hlp,Below.heap_setCell _ ⟨r,3,none⟩ _ _ hpr]
    exact HF.out.2.2.2.2.1
   have hgw:wr.cell? ⟨gn,0,none⟩=some (.string kName):=(FN.other (p:=⟨gn,0,none⟩) hgn hnr).trans HF.out.2.2.2.1
   have hrw:wr.drew.heap[r]? =some (.cells #[a,b,c,.int .i64 m2,.slice none 0 0] 52 (0,0)):=FN.at hlr HF.out.2.1
   have HCo:=comes1 r p gv cv gn cn wr.drew ⟨hct,hgw⟩ hrw hpw hpr
   have hSd:SCd wb r hB gv cv gn cn wr.drew:=⟨(FN.other (p:=⟨wb,0,none⟩) hwl hwr).trans HF.out.1.run,hhB,hhN⟩
   have HSd:Hid (SCd wb r hB gv cv gn cn wr.drew∧Fr w.heap.size r m2 w wr):=⟨hSd,FN⟩
   have HHB:=HN.out.hl
   clear FN hgn hlp hpw hgw hrw hSd h1 hct
   go_wp2_with fail
   refine(hgup _).mono ?_
   rintro e V0 ⟨rfl,rfl⟩
   go_wp2_with fail
   refine wp_region_held_drew (S:=SCd wb r hB gv cv gn cn) (by kernel_rfl) HSd.out.1 (fun hHeld=>?_)
   refine wpAnyH_take (i:=0) (v:=ptB wb) rfl (by kernel_rfl) (by kernel_rfl) (by kernel_rfl) (fun _ _ _ h=>h) (Or.inl ⟨by rfl,?_⟩) (by assumption) ?_
   ·intro V' hSV
    obtain⟨l0,l1,l2⟩:=hSV
    go_simp
    try with_reducible rfl
   try simp only[Act.put,List.getElem_toArray,List.getElem_cons_succ,List.getElem_cons_zero,List.setIfInBounds_toArray,List.set_cons_zero,List.set_cons_succ]
   refine wpAnyH_take (i:=1) (v:=ptB wb) rfl (by kernel_rfl) (by kernel_rfl) (by kernel_rfl) (fun _ _ _ h=>h) (Or.inl ⟨by rfl,?_⟩) (by assumption) ?_
   ·intro V' hSV
    obtain⟨l0,l1,l2⟩:=hSV
    go_simp
    try with_reducible rfl
   try simp only[Act.put,List.getElem_toArray,List.getElem_cons_succ,List.getElem_cons_zero,List.setIfInBounds_toArray,List.set_cons_zero,List.set_cons_succ]
   refine wpAnyH_take (i:=2) (v:=ptB wb) rfl (by kernel_rfl) (by kernel_rfl) (by kernel_rfl) (fun _ _ _ h=>h) (Or.inl ⟨by rfl,?_⟩) (by assumption) ?_
   ·intro V' hSV
    obtain⟨l0,l1,l2⟩:=hSV
    go_simp
    try with_reducible rfl
   try simp only[Act.put,List.getElem_toArray,List.getElem_cons_succ,List.getElem_cons_zero,List.setIfInBounds_toArray,List.set_cons_zero,List.set_cons_succ]
   refine wpAnyH_take (i:=3) (v:=ptB r) rfl (by kernel_rfl) (by kernel_rfl) (by kernel_rfl) (fun _ _ _ h=>h) (Or.inl ⟨by rfl,?_⟩) (by assumption) ?_
   ·intro V' hSV
    obtain⟨l0,l1,l2⟩:=hSV
    go_simp
    try with_reducible rfl
   try simp only[Act.put,List.getElem_toArray,List.getElem_cons_succ,List.getElem_cons_zero,List.setIfInBounds_toArray,List.set_cons_zero,List.set_cons_succ]
   refine wpAnyH_take (i:=4) (v:=ptB p) rfl (by kernel_rfl) (by kernel_rfl) (by kernel_rfl) (fun _ _ _ h=>h) (Or.inl ⟨by rfl,?_⟩) (by assumption) ?_
   ·intro V' hSV
    obtain⟨l0,l1,l2⟩:=hSV
    go_simp
    try with_reducible rfl
   try simp only[Act.put,List.getElem_toArray,List.getElem_cons_succ,List.getElem_cons_zero,List.setIfInBounds_toArray,List.set_cons_zero,List.set_cons_succ]
   refine wpAnyH_take (i:=5) (v:=hnV gv cv gn cn) rfl (by kernel_rfl) (by kernel_rfl) (by kernel_rfl) (fun _ _ _ h=>h) (Or.inl ⟨by rfl,?_⟩) (by assumption) ?_
   ·intro V' hSV
    obtain⟨l0,l1,l2⟩:=hSV
    go_simp
    try with_reducible rfl
   try simp only[Act.put,List.getElem_toArray,List.getElem_cons_succ,List.getElem_cons_zero,List.setIfInBounds_toArray,List.set_cons_zero,List.set_cons_succ]
   refine wpAnyH_ready (rs:=[6]) (by kernel_rfl) (by simp) (AllReadyH.cons rfl (fun K hK=>?_) AllReadyH.nil)
   go_simp
   refine HCo.mono ?_
   rintro e V ⟨rfl,hk,tb,tc,q1,q2,q3⟩
   have hSV:SCd wb r hB gv cv gn cn V:=by
    obtain⟨l0,l1,l2⟩:=HSd.out.1
    have k1:=hk.blk wb (World.block_lt_of_cell? _ _ l0) hwr
    have k2:=hk.blk hB (World.block_lt_of_cell? _ _ l1) (by omega)
    exact⟨(World.cell?_of_block k1).trans l0,(World.cell?_of_block k2).trans l1,(World.cell?_of_block k2).trans l2⟩
   have HZ:Hid (KP r w V∧RuQ a b c m2 r w.heap.size V):=⟨((kp_of HSd.out.2).trans (KP.of_below (Below.refl _ _).drew)).trans hk,tb,tc,Nat.le_trans (Fr.size HSd.out.2) q1,q2,q3⟩
   refine hK.out _ _ hSV (fun hHeld=>?_)
   clear hK K hk q1 q2 q3
   try simp only[Act.put,List.getElem_toArray,List.getElem_cons_succ,List.getElem_cons_zero,List.setIfInBounds_toArray,List.set_cons_zero,List.set_cons_succ]
   refine wpAnyH_take (i:=7) (v:=txV bT) rfl (by kernel_rfl) (by kernel_rfl) (by kernel_rfl) (fun _ _ _ h=>h) (Or.inl ⟨by rfl,?_⟩) (by assumption) ?_
   ·intro V' hSV
    skip
    go_simp
    try with_reducible rfl
   try simp only[Act.put,List.getElem_toArray,List.getElem_cons_succ,List.getElem_cons_zero,List.setIfInBounds_toArray,List.set_cons_zero,List.set_cons_succ]
   refine wpAnyH_done (by kernel_rfl) ?_ _
   try simp only[Act.put,List.getElem_toArray,List.getElem_cons_succ,List.getElem_cons_zero,List.setIfInBounds_toArray,List.set_cons_zero,List.set_cons_succ]
   go_wp2
   go_ret
   exact⟨rfl,HZ.out⟩
end Go.Proofs.YthfgpkdbclogpaaGreatDoor
