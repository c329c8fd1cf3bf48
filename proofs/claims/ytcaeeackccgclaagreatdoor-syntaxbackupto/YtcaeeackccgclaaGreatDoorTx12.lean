/- 12. -/
import Derived.Shelf.Strconv.Clone
import Derived.Test.YtcaeeackccgclaaGreatDoorTx9
set_option maxHeartbeats 40000000
set_option maxRecDepth 100000
namespace Go.Proofs.YtcaeeackccgclaaGreatDoor
open Go.RowKit Go.Shelf
theorem infF:(Tryz.prog.info? 25).map (fun i=>(i.zero,i.size,i.bytes))=some (some (.agg #[.int .i64 0,.int .i64 0]),2,16):=by
 kernel_rfl
theorem ta_nil (xT:TypeId)(w:World):(Instr.typeAssert .nilIface xT 25 true).run Tryz.prog w= .ok (.tuple #[.agg #[.int .i64 0,.int .i64 0],.bool false]) w:=by
 obtain⟨i0,hi,hz0,hz1,hz2⟩:=info_p infF
 simp[Instr.typeAssert,run_underlying Tryz.underlying25,zeroValue,typeInfo,hi,hz0,go_sem,Result.andThen]
theorem ta_yes (v:Value)(xT:TypeId)(w:World):(Instr.typeAssert (.iface 25 v) xT 25 true).run Tryz.prog w= .ok (.tuple #[v,.bool true]) w:=by
 simp[Instr.typeAssert,run_underlying Tryz.underlying25,go_sem,Result.andThen]
theorem catch_idle (p q:Addr)(w:World):
  CallsD Tryz.prog 30 #[.pointer (some p),.pointer (some q)] .returning w fun e u' w'=>e= .returned (.tuple #[])∧u'= .returning∧Below w.heap.size w w':=by
 refine callsD_of_wpS Tryz.func30 rfl fun c₀ cs hu=>?_
 apply wpS_seq
 apply wpS_region
 simp[wpOpsS,go_sem,recoverD,hu,Tryz.ntmps30,Exit.thenS,ta_nil]
 apply wpS_seq
 apply wpS_region
 simp[wpOpsS,go_sem,Exit.thenS]
 refine wpS_cond (t:=false) (by simp[Act.eval,Array.replicate]) ?_
 simp only[Bool.false_eq_true,if_false]
 refine wpS_of_wp (wp_skip ?_)
 have hb:Below w.heap.size w (w.alloc (.cells #[.int .i64 0,.int .i64 0] 25)):=(Below.refl _ w).alloc (Nat.le_refl _) _
 cases c₀
 simp_all [bodyPostS,results,Tryz.results30]
theorem catch_pan (B lb fb:Nat)(x y0 y1:Value)(k:Int)(z:Nat)(older:List PanicEntry)(w:World)(h0:w.cell? ⟨lb,0,none⟩=some x)(h1:w.cell? ⟨fb,0,none⟩=some y0)(h2:w.cell? ⟨fb,1,none⟩=some y1)
  (f0:w.frozen? ⟨lb,0,none⟩=false) (f1:w.frozen? ⟨fb,0,none⟩=false) (f2:w.frozen? ⟨fb,1,none⟩=false) (hn:¬lb=fb) (hB:B≤lb) (hB2:B≤fb):
  CallsD Tryz.prog 30 #[.pointer (some ⟨lb,0,none⟩),.pointer (some ⟨fb,0,none⟩)] (.panicking ({v:= .iface 25 (.agg #[.int .i64 k,.int .i64 z]),recovered:=false}::older)) w fun e u' w'=>
   e= .returned (.tuple #[])∧u'= .panicking ({v:= .iface 25 (.agg #[.int .i64 k,.int .i64 z]),recovered:=true}::older)∧w'.cell? ⟨lb,0,none⟩=some (.slice none 0 0)∧w'.cell? ⟨fb,0,none⟩=some (.int .i64 k)∧w'.cell? ⟨fb,1,none⟩=some (.int .i64 z)∧Below B w w':=by
 refine callsD_of_wpS Tryz.func30 rfl fun c₀ cs hu=>?_
 apply wpS_seq
 apply wpS_region
 simp[wpOpsS,go_sem,recoverD,hu,Tryz.ntmps30,Exit.thenS,ta_yes]
 apply wpS_seq
 apply wpS_region
 simp[wpOpsS,go_sem,Exit.thenS]
 refine wpS_cond (t:=true) (by simp[Act.eval,Array.replicate]) ?_
 simp only[if_true]
 refine wpS_of_wp ?_
 simp[Array.replicate]
 have hpl:lb<w.heap.size:=World.block_lt_of_cell? w ⟨lb,0,none⟩ h0
 have hql:fb<w.heap.size:=World.block_lt_of_cell? w ⟨fb,0,none⟩ h1
 have hnew:=heap_alloc_new w (.cells #[.int .i64 k,.int .i64 (z:Int)] 25)
 have g0:(w.alloc (.cells #[.int .i64 k,.int .i64 (z:Int)] 25)).cell? ⟨lb,0,none⟩=some x:=(World.cell?_alloc_past _ _ _ hpl).trans h0
 have g1:(w.alloc (.cells #[.int .i64 k,.int .i64 (z:Int)] 25)).cell? ⟨fb,0,none⟩=some y0:=(World.cell?_alloc_past _ _ _ hql).trans h1
 have g2:(w.alloc (.cells #[.int .i64 k,.int .i64 (z:Int)] 25)).cell? ⟨fb,1,none⟩=some y1:=(World.cell?_alloc_past _ _ _ hql).trans h2
 have e0:(w.alloc (.cells #[.int .i64 k,.int .i64 (z:Int)] 25)).frozen? ⟨lb,0,none⟩=false:=(World.frozen?_of_block (heap_al w _ lb hpl)).trans f0
 have e1:(w.alloc (.cells #[.int .i64 k,.int .i64 (z:Int)] 25)).frozen? ⟨fb,0,none⟩=false:=(World.frozen?_of_block (heap_al w _ fb hql)).trans f1
 have e2:(w.alloc (.cells #[.int .i64 k,.int .i64 (z:Int)] 25)).frozen? ⟨fb,1,none⟩=false:=(World.frozen?_of_block (heap_al w _ fb hql)).trans f2
 have n0:(w.alloc (.cells #[.int .i64 k,.int .i64 (z:Int)] 25)).cell? ⟨w.heap.size,0,none⟩=some (.int .i64 k):=by rw[Lib.cell_of_heap hnew];rfl
 have n1:(w.alloc (.cells #[.int .i64 k,.int .i64 (z:Int)] 25)).cell? ⟨w.heap.size,1,none⟩=some (.int .i64 (z:Int)):=by rw[Lib.cell_of_heap hnew];rfl
 have HB:Hid (Below B w (w.alloc (.cells #[.int .i64 k,.int .i64 (z:Int)] 25))):=(Below.refl B w).alloc (by omega) _
 have m1:¬w.heap.size=lb:=by omega
 have m2:¬w.heap.size=fb:=by omega
 clear h0 h1 h2 f0 f1 f2 hpl hql hnew
 generalize w.alloc (.cells #[.int .i64 k,.int .i64 (z:Int)] 25)=W at *
 generalize w.heap.size=Z at *
 go_region_with fail
 all_goals
  have hb:Below B w (((W.setCell ⟨lb,0,none⟩ (.slice none 0 0)).setCell ⟨fb,0,none⟩ (.int .i64 k)).setCell ⟨fb,1,none⟩ (.int .i64 (z:Int))).drew:=(((HB.out.setCell (p:=⟨lb,0,none⟩) hB _).setCell (p:=⟨fb,0,none⟩) hB2 _).setCell (p:=⟨fb,1,none⟩) hB2 _).drew
  cases c₀
  simp[bodyPostS,results,Tryz.results30,go_sem,g0,g1,g2,hb]
def SplP (w:World)(r:Except Ft (List Tk))(e:Ending)(w':World):Prop:=
 (∀ (k z:Nat),r= .error (k,z)→e= .returned (.tuple #[.slice none 0 0,.agg #[.int .i64 (k:Int),.int .i64 (z:Int)]]))∧
 (∀ l,r= .ok l→∃ tv,e= .returned (.tuple #[tv,.agg #[.int .i64 0,.int .i64 0]])∧w'.ownsRow w.heap.size 84 4 tv l.length (tcs l))∧Below w.heap.size w w'
theorem row_mono {w:World}{base base':Nat}{e:TypeId}{size:Nat}{v:Value}{n:Nat}{xs:List Value}(h:w.ownsRow base e size v n xs)(hb:base'≤base):w.ownsRow base' e size v n xs:=by
 refine⟨h.1,?_⟩
 rcases h.2 with h2|⟨g,cap,cur,hv,hg,r⟩
 ·exact Or.inl h2
 ·exact Or.inr ⟨g,cap,cur,hv,Nat.le_trans hb hg,r⟩
def begW (L:List UInt8)(w:World):World:=(((w.alloc (.cells #[.slice none 0 0] 48)).alloc (.cells #[.int .i64 0,.int .i64 0] 25)).alloc (.cells #[.int .i64 0] 3)).alloc (.cells #[.string (mkB L),.int .i64 0,.slice none 0 0,.slice (some ⟨w.heap.size+1+1,0,none⟩) 1 1,.int .i64 0] 72)
theorem beg_facts (L:List UInt8)(w:World):TS (w.heap.size+1+1) (w.heap.size+1+1+1) L (.slice none 0 0) (.slice (some ⟨w.heap.size+1+1,0,none⟩) 1 1) (begW L w) ⟨0,[],[0],0⟩∧Below w.heap.size w (begW L w)∧
  (begW L w).heap[w.heap.size]? =some (.cells #[.slice none 0 0] 48 (0,0))∧(begW L w).heap[w.heap.size+1]? =some (.cells #[.int .i64 0,.int .i64 0] 25 (0,0)):=by
 have s1:(w.alloc (.cells #[.slice none 0 0] 48)).heap.size=w.heap.size+1:=World.size_alloc _ _
 have s2:((w.alloc (.cells #[.slice none 0 0] 48)).alloc (.cells #[.int .i64 0,.int .i64 0] 25)).heap.size=w.heap.size+1+1:=by rw[World.size_alloc,s1]
 have s3:(((w.alloc (.cells #[.slice none 0 0] 48)).alloc (.cells #[.int .i64 0,.int .i64 0] 25)).alloc (.cells #[.int .i64 0] 3)).heap.size=w.heap.size+1+1+1:=by rw[World.size_alloc,s2]
 have b0:(begW L w).heap[w.heap.size]? =some (.cells #[.slice none 0 0] 48 (0,0)):=by
  unfold begW
  rw[heap_al _ _ _ (by rw[s3];omega),heap_al _ _ _ (by rw[s2];omega),heap_al _ _ _ (by rw[s1];omega)]
  exact heap_alloc_new w _
 have b1:(begW L w).heap[w.heap.size+1]? =some (.cells #[.int .i64 0,.int .i64 0] 25 (0,0)):=by
  unfold begW
  rw[heap_al _ _ _ (by rw[s3];omega),heap_al _ _ _ (by rw[s2];omega),←s1]
  exact heap_alloc_new _ _
 have b2:(begW L w).heap[w.heap.size+1+1]? =some (.cells #[.int .i64 0] 3 (0,0)):=by
  unfold begW
  rw[heap_al _ _ _ (by rw[s3];omega),←s2]
  exact heap_alloc_new _ _
 have b3:(begW L w).heap[w.heap.size+1+1+1]? =some (.cells #[.string (mkB L),.int .i64 0,.slice none 0 0,.slice (some ⟨w.heap.size+1+1,0,none⟩) 1 1,.int .i64 0] 72 (0,0)):=by
  unfold begW
  rw[←s3]
  exact heap_alloc_new _ _
 refine⟨⟨by omega,b3,World.ownsRow_nil _ _ _ _,⟨rfl,.inr ⟨w.heap.size+1+1,1,_,rfl,Nat.le_refl _,b2,Nat.le_refl _,by decide,rfl,rfl⟩⟩,by simp[Value.ownBlock],by simp[Value.ownBlock],by simp[Value.ownBlock]⟩,?_,b0,b1⟩
 unfold begW
 exact((((Below.refl _ w).alloc (Nat.le_refl _) _).alloc (by rw[s1];omega) _).alloc (by rw[s2];omega) _).alloc (by rw[s3];omega) _
theorem split_any (L:List UInt8)(w:World)(hL:L.length≤6000)(hr:ErrR w):
  Calls Tryz.prog 19 #[.string (mkB L)] w fun e w'=>SplP w (splitL L) e w':=by
 have hmf:∀ (fn:Fn) (first cap:Array Value) (w:World),(Instr.makeFunc fn first cap).run Tryz.prog w= .ok (.func fn first cap) w:=fun _ _ _ _=>rfl
 obtain⟨t0,hb0,l0,f0⟩:=beg_facts L w
 have hg:3<w.heap.size+1+1:=by
  obtain⟨ev,h1,_⟩:=hr
  have:=World.block_lt_of_cell? w ⟨3,0,none⟩ h1
  have:3<w.heap.size:=this
  omega
 have HLn:Hid (Calls Tryz.prog 31 #[.pointer (some ⟨w.heap.size+1+1+1,0,none⟩)] (begW L w) fun e w'=>StP (w.heap.size+1+1) (w.heap.size+1+1+1) L (begW L w) (linesF L (L.length+1) ⟨0,[],[0],0⟩) e w'):=
  lines_any t0 hL ⟨Nat.zero_le _,⟨by simp,rfl⟩,by decide,by decide,by decide⟩ hg (hr.up hb0)
 have HB0:Hid (Below w.heap.size w (begW L w)∧(begW L w).heap[w.heap.size]? =some (.cells #[.slice none 0 0] 48 (0,0))∧(begW L w).heap[w.heap.size+1]? =some (.cells #[.int .i64 0,.int .i64 0] 25 (0,0))):=⟨hb0,l0,f0⟩
 have HSp:Hid (splitL L=match linesF L (L.length+1) ⟨0,[],[0],0⟩with| .error x=>.error x| .ok q=>.ok q.toks):=rfl
 clear t0 hb0 l0 f0 hg hr
 cases hli:linesF L (L.length+1) ⟨0,[],[0],0⟩with
 |error x=>
  obtain⟨k,z⟩:=x
  rw[hli]at HLn HSp
  clear hli
  have HRV:Hid (splitL L= .error (k,z)):=HSp.out
  go_enter_defers Tryz.func19,Tryz.ntmps19
  go_wp2_with fail
  refine HLn.out.mono ?_
  rintro e w1 ⟨h1,-,hb1⟩
  obtain rfl:=h1 k z rfl
  have l1:=(hb1.block w.heap.size (by omega)).trans HB0.out.2.1
  have f1:=(hb1.block (w.heap.size+1) (by omega)).trans HB0.out.2.2
  have HB1:Hid (Below w.heap.size w w1):=HB0.out.1.trans (hb1.mono (by omega))
  have q0:w1.cell? ⟨w.heap.size,0,none⟩=some (.slice none 0 0):=by rw[Lib.cell_of_heap l1];rfl
  have q1:w1.cell? ⟨w.heap.size+1,0,none⟩=some (.int .i64 0):=by rw[Lib.cell_of_heap f1];rfl
  have q2:w1.cell? ⟨w.heap.size+1,1,none⟩=some (.int .i64 0):=by rw[Lib.cell_of_heap f1];rfl
  have r0:w1.frozen? ⟨w.heap.size,0,none⟩=false:=Lib.frozen_of_heap l1 0
  have r1:w1.frozen? ⟨w.heap.size+1,0,none⟩=false:=Lib.frozen_of_heap f1 0
  have r2:w1.frozen? ⟨w.heap.size+1,1,none⟩=false:=Lib.frozen_of_heap f1 1
  clear h1 hb1 l1 f1
  go_wp2
  refine leaves_cons (f:=30) (args:=#[.pointer (some ⟨w.heap.size,0,none⟩),.pointer (some ⟨w.heap.size+1,0,none⟩)]) (by simp) (by simp[go_sem]) ?_
  refine(catch_pan w.heap.size w.heap.size (w.heap.size+1) _ _ _ k z [] _ q0 q1 q2 r0 r1 r2 (by omega) (Nat.le_refl _) (Nat.le_succ _)).mono ?_
  rintro e u' w2 ⟨rfl,rfl,s0,s1,s2,hb2⟩
  simp[Leaves,settle,results,Tryz.results19,go_sem,s0,s1,s2]
  refine⟨fun k' z' hz=>?_,fun l hl=>?_,HB1.out.trans hb2⟩
  ·rw[HRV.out]at hz;cases hz;rfl
  ·rw[HRV.out]at hl;cases hl
 |ok q=>
  rw[hli]at HLn HSp
  clear hli
  have HRV:Hid (splitL L= .ok q.toks):=HSp.out
  go_enter_defers Tryz.func19,Tryz.ntmps19
  go_wp2_with fail
  refine HLn.out.mono ?_
  rintro e w1 ⟨-,h2,hb1⟩
  obtain⟨rfl,tv,iv,hts⟩:=h2 q rfl
  have l1:=(hb1.block w.heap.size (by omega)).trans HB0.out.2.1
  have f1:=(hb1.block (w.heap.size+1) (by omega)).trans HB0.out.2.2
  have HB1:Hid (Below w.heap.size w w1):=HB0.out.1.trans (hb1.mono (by omega))
  have q0:w1.cell? ⟨w.heap.size,0,none⟩=some (.slice none 0 0):=by rw[Lib.cell_of_heap l1];rfl
  have q1:w1.cell? ⟨w.heap.size+1,0,none⟩=some (.int .i64 0):=by rw[Lib.cell_of_heap f1];rfl
  have q2:w1.cell? ⟨w.heap.size+1,1,none⟩=some (.int .i64 0):=by rw[Lib.cell_of_heap f1];rfl
  have r0:w1.frozen? ⟨w.heap.size,0,none⟩=false:=Lib.frozen_of_heap l1 0
  have r1:w1.frozen? ⟨w.heap.size+1,0,none⟩=false:=Lib.frozen_of_heap f1 0
  have r2:w1.frozen? ⟨w.heap.size+1,1,none⟩=false:=Lib.frozen_of_heap f1 1
  have c2:=hts.c2
  obtain⟨ao,cap,htv⟩:=row_shape hts.ot
  subst htv
  have HT:Hid (TS (w.heap.size+1+1) (w.heap.size+1+1+1) L (.slice ao q.toks.length cap) iv w1 q):=hts
  clear h2 hb1 l1 f1 hts
  have s0:(((w1.setCell ⟨w.heap.size,0,none⟩ (.slice ao q.toks.length cap)).setCell ⟨w.heap.size+1,0,none⟩ (.int .i64 0)).setCell ⟨w.heap.size+1,1,none⟩ (.int .i64 0)).cell? ⟨w.heap.size,0,none⟩=some (.slice ao q.toks.length cap):=by simp[go_sem,q0]
  have s1:(((w1.setCell ⟨w.heap.size,0,none⟩ (.slice ao q.toks.length cap)).setCell ⟨w.heap.size+1,0,none⟩ (.int .i64 0)).setCell ⟨w.heap.size+1,1,none⟩ (.int .i64 0)).cell? ⟨w.heap.size+1,0,none⟩=some (.int .i64 0):=by simp[go_sem,q1]
  have s2:(((w1.setCell ⟨w.heap.size,0,none⟩ (.slice ao q.toks.length cap)).setCell ⟨w.heap.size+1,0,none⟩ (.int .i64 0)).setCell ⟨w.heap.size+1,1,none⟩ (.int .i64 0)).cell? ⟨w.heap.size+1,1,none⟩=some (.int .i64 0):=by simp[go_sem,q2]
  have HS:Hid ((((w1.setCell ⟨w.heap.size,0,none⟩ (.slice ao q.toks.length cap)).setCell ⟨w.heap.size+1,0,none⟩ (.int .i64 0)).setCell ⟨w.heap.size+1,1,none⟩ (.int .i64 0)).cell? ⟨w.heap.size,0,none⟩=some (.slice ao q.toks.length cap)∧(((w1.setCell ⟨w.heap.size,0,none⟩ (.slice ao q.toks.length cap)).setCell ⟨w.heap.size+1,0,none⟩ (.int .i64 0)).setCell ⟨w.heap.size+1,1,none⟩ (.int .i64 0)).cell? ⟨w.heap.size+1,0,none⟩=some (.int .i64 0)∧(((w1.setCell ⟨w.heap.size,0,none⟩ (.slice ao q.toks.length cap)).setCell ⟨w.heap.size+1,0,none⟩ (.int .i64 0)).setCell ⟨w.heap.size+1,1,none⟩ (.int .i64 0)).cell? ⟨w.heap.size+1,1,none⟩=some (.int .i64 0)):=⟨s0,s1,s2⟩
  have HO:Hid ((((w1.setCell ⟨w.heap.size,0,none⟩ (.slice ao q.toks.length cap)).setCell ⟨w.heap.size+1,0,none⟩ (.int .i64 0)).setCell ⟨w.heap.size+1,1,none⟩ (.int .i64 0)).ownsRow (w.heap.size+1+1) 84 4 (.slice ao q.toks.length cap) q.toks.length (tcs q.toks)):=own_heap HT.out.ot fun g hg=>by
   have:=(HT.out.ot.lt g hg).1
   exact(Below.heap_setCell _ ⟨w.heap.size+1,1,none⟩ _ g (by show ¬g=w.heap.size+1;omega)).trans ((Below.heap_setCell _ ⟨w.heap.size+1,0,none⟩ _ g (by show ¬g=w.heap.size+1;omega)).trans (Below.heap_setCell _ ⟨w.heap.size,0,none⟩ _ g (by show ¬g=w.heap.size;omega)))
  have HB2:Hid (Below w.heap.size w (((w1.setCell ⟨w.heap.size,0,none⟩ (.slice ao q.toks.length cap)).setCell ⟨w.heap.size+1,0,none⟩ (.int .i64 0)).setCell ⟨w.heap.size+1,1,none⟩ (.int .i64 0))):=((HB1.out.setCell (p:=⟨w.heap.size,0,none⟩) (Nat.le_refl _) _).setCell (p:=⟨w.heap.size+1,0,none⟩) (Nat.le_succ _) _).setCell (p:=⟨w.heap.size+1,1,none⟩) (Nat.le_succ _) _
  clear s0 s1 s2
  go_wp2
  generalize((w1.setCell ⟨w.heap.size,0,none⟩ (.slice ao q.toks.length cap)).setCell ⟨w.heap.size+1,0,none⟩ (.int .i64 0)).setCell ⟨w.heap.size+1,1,none⟩ (.int .i64 0)=w2 at *
  refine leaves_cons (f:=30) (args:=#[.pointer (some ⟨w.heap.size,0,none⟩),.pointer (some ⟨w.heap.size+1,0,none⟩)]) (by simp) (by simp[go_sem]) ?_
  refine(catch_idle ⟨w.heap.size,0,none⟩ ⟨w.heap.size+1,0,none⟩ _).mono ?_
  rintro e u' w3 ⟨rfl,rfl,hb3⟩
  have k0:=(hb3.cell (World.block_lt_of_cell? w2 _ HS.out.1)).trans HS.out.1
  have k1:=(hb3.cell (World.block_lt_of_cell? w2 _ HS.out.2.1)).trans HS.out.2.1
  have k2:=(hb3.cell (World.block_lt_of_cell? w2 _ HS.out.2.2)).trans HS.out.2.2
  have hle:w.heap.size≤w2.heap.size:=Nat.le_of_lt (World.block_lt_of_cell? w2 _ HS.out.1)
  simp[Leaves,settle,results,Tryz.results19,go_sem,k0,k1,k2]
  refine⟨fun k' z' hz=>?_,fun l hl=>?_,HB2.out.trans (hb3.mono hle)⟩
  ·rw[HRV.out]at hz;cases hz
  ·rw[HRV.out]at hl
   cases hl
   exact⟨_,rfl,row_mono (own_heap HO.out fun g hg=>hb3.block g (HO.out.lt g hg).2) (by omega)⟩
def laysCl_ren:Ren:=⟨fun|316=>32|n=>n,fun|9=>9|3=>3|4=>4|37=>34|0=>0|127=>56|5=>5|n=>n,fun|n=>n⟩
theorem laysCl:Go.Proofs.LaysM.n316 Tryz.prog laysCl_ren:={
 mixed:=by kernel_rfl
 f316:=Tryz.func32.trans (congrArg some (by kernel_rfl))
 t0:=Tryz.underlying0
 a0:=Tryz.isAgg0
 z0:=Tryz.sizeOf0
 v0:=Tryz.zeroValue0
 t3:=Tryz.underlying3
 a3:=Tryz.isAgg3
 z3:=Tryz.sizeOf3
 v3:=Tryz.zeroValue3
 t4:=Tryz.underlying4
 a4:=Tryz.isAgg4
 z4:=Tryz.sizeOf4
 v4:=Tryz.zeroValue4
 t9:=Tryz.underlying9
 a9:=Tryz.isAgg9
 z9:=Tryz.sizeOf9
 v9:=Tryz.zeroValue9
 t37:=Tryz.underlying34
 a37:=Tryz.isAgg34
 z37:=Tryz.sizeOf34
 v37:=Tryz.zeroValue34
 t127:=Tryz.underlying56
 a127:=Tryz.isAgg56
 z127:=Tryz.sizeOf56
 v127:=Tryz.zeroValue56
 t5:=Tryz.underlying5
 a5:=Tryz.isAgg5
 z5:=Tryz.sizeOf5
 v5:=Tryz.zeroValue5
 i0:=by kernel_rfl
 i3:=by kernel_rfl
 i4:=by kernel_rfl
 i5:=by kernel_rfl
 i9:=by kernel_rfl
 i37:=by kernel_rfl
 i127:=by kernel_rfl}
theorem cloneLite (s:ByteArray)(w:World)(hlim:s.size≤281474976710656):
  Calls Tryz.prog 32 #[.string s] w fun e w'=>e= .returned (.string s)∧Below w.heap.size w w':=Any.stringslite_Clone laysCl s w hlim
theorem clone_any (s:ByteArray)(w:World)(hlim:s.size≤281474976710656):
  Calls Tryz.prog 20 #[.string s] w fun e w'=>e= .returned (.string s)∧Below w.heap.size w w':=by
 go_enter Tryz.func20,Tryz.ntmps20
 go_wp2_with (go_at_call 32;refine(cloneLite s _ hlim).mono ?_;rintro e w' ⟨rfl,hb⟩)
 go_ret
 exact⟨rfl,hb⟩
def splitA (L:List UInt8):Except Ft (List Tk):=if L.length≤6000 then splitL L else .error (2,0)
theorem Split_any (L:List UInt8)(w:World)(hr:ErrR w):
  Calls Tryz.prog 13 #[.string (mkB L)] w fun e w'=>SplP w (splitA L) e w':=by
 have hsz:=mk_size L
 by_cases hL:L.length≤6000
 ·have HA:Hid (splitA L=splitL L):=if_pos hL
  have hn:¬(6000:Int)<((mkB L).size:Int):=by omega
  have HCl:Hid (∀ W,Calls Tryz.prog 20 #[.string (mkB L)] W fun e w'=>e= .returned (.string (mkB L))∧Below W.heap.size W w'):=fun W=>clone_any (mkB L) W (by omega)
  have HSp:Hid (∀ W,Below w.heap.size w W→Calls Tryz.prog 19 #[.string (mkB L)] W fun e w'=>SplP W (splitL L) e w'):=fun W hW=>split_any L W hL (hr.up hW)
  have HR:Hid (ErrR w):=hr
  clear hr hL hsz
  have hb0:Below w.heap.size w (w.alloc (.cells #[.int .i64 0,.int .i64 0] 25)):=(Below.refl _ w).alloc (Nat.le_refl _) _
  have l0:=heap_alloc_new w (.cells #[.int .i64 0,.int .i64 0] 25)
  have hz0:(w.alloc (.cells #[.int .i64 0,.int .i64 0] 25)).heap.size=w.heap.size+1:=World.size_alloc _ _
  have H0:Hid (Below w.heap.size w (w.alloc (.cells #[.int .i64 0,.int .i64 0] 25))∧(w.alloc (.cells #[.int .i64 0,.int .i64 0] 25)).heap[w.heap.size]? =some (.cells #[.int .i64 0,.int .i64 0] 25 (0,0))∧(w.alloc (.cells #[.int .i64 0,.int .i64 0] 25)).heap.size=w.heap.size+1):=⟨hb0,l0,hz0⟩
  clear hb0 l0 hz0
  go_enter Tryz.func13,Tryz.ntmps13
  go_wp2_with fail
  generalize w.alloc (.cells #[.int .i64 0,.int .i64 0] 25)=W0 at *
  refine(HCl.out W0).mono ?_
  rintro e W1 ⟨rfl,hb1⟩
  have hlt1:w.heap.size<W1.heap.size:=by have:=hb1.size;have:=H0.out.2.2;omega
  have H1:Hid (Below w.heap.size w W1∧W1.heap[w.heap.size]? =some (.cells #[.int .i64 0,.int .i64 0] 25 (0,0))∧w.heap.size<W1.heap.size):=⟨H0.out.1.trans (hb1.mono (by have:=H0.out.2.2;omega)),(hb1.block _ (by have:=H0.out.2.2;omega)).trans H0.out.2.1,hlt1⟩
  clear hb1 H0 hlt1
  go_wp2_with fail
  refine(HSp.out W1 H1.out.1).mono ?_
  rintro e W2 ⟨h1,h2,hb2⟩
  have l2:=(hb2.block _ H1.out.2.2).trans H1.out.2.1
  have q0:W2.cell? ⟨w.heap.size,0,none⟩=some (.int .i64 0):=by rw[Lib.cell_of_heap l2];rfl
  have q1:W2.cell? ⟨w.heap.size,1,none⟩=some (.int .i64 0):=by rw[Lib.cell_of_heap l2];rfl
  have r0:W2.frozen? ⟨w.heap.size,0,none⟩=false:=Lib.frozen_of_heap l2 0
  have r1:W2.frozen? ⟨w.heap.size,1,none⟩=false:=Lib.frozen_of_heap l2 1
  have HB2:Hid (Below w.heap.size w W2):=H1.out.1.trans (hb2.mono (Nat.le_of_lt H1.out.2.2))
  have HW:Hid (∀ a b:Value,Below w.heap.size w ((W2.setCell ⟨w.heap.size,0,none⟩ a).setCell ⟨w.heap.size,1,none⟩ b)):=fun a b=>(HB2.out.setCell (p:=⟨w.heap.size,0,none⟩) (Nat.le_refl _) _).setCell (p:=⟨w.heap.size,1,none⟩) (Nat.le_refl _) _
  clear hb2 l2
  cases hsp:splitL L with
  |error x=>
   obtain⟨k,z⟩:=x
   rw[hsp]at HA
   obtain rfl:=h1 k z hsp
   clear h1 h2 hsp
   go_wp2
   refine bodyPost_ret (v:= .tuple #[.slice none 0 0,.agg #[.int .i64 (k:Int),.int .i64 (z:Int)]]) (by simp[results,Tryz.results13,go_sem,q0,q1]) rfl ?_
   refine⟨fun k' z' hz=>?_,fun l hl=>?_,HW.out _ _⟩
   ·rw[HA.out]at hz;cases hz;rfl
   ·rw[HA.out]at hl;cases hl
  |ok l=>
   rw[hsp]at HA
   obtain⟨tv,rfl,ho⟩:=h2 l hsp
   have HO:Hid (∀ a b:Value,((W2.setCell ⟨w.heap.size,0,none⟩ a).setCell ⟨w.heap.size,1,none⟩ b).ownsRow w.heap.size 84 4 tv l.length (tcs l)):=fun a b=>row_mono (own_heap ho fun g hg=>by
    have:=(ho.lt g hg).1
    have:=H1.out.2.2
    exact(Below.heap_setCell _ ⟨w.heap.size,1,none⟩ _ g (by show ¬g=w.heap.size;omega)).trans (Below.heap_setCell _ ⟨w.heap.size,0,none⟩ _ g (by show ¬g=w.heap.size;omega))) (Nat.le_of_lt H1.out.2.2)
   clear h1 h2 hsp ho
   go_wp2
   refine bodyPost_ret (v:= .tuple #[tv,.agg #[.int .i64 0,.int .i64 0]]) (by simp[results,Tryz.results13,go_sem,q0,q1]) rfl ?_
   refine⟨fun k' z' hz=>?_,fun l hl=>?_,HW.out _ _⟩
   ·rw[HA.out]at hz;cases hz
   ·rw[HA.out]at hl;cases hl
    exact⟨_,rfl,HO.out _ _⟩
 ·have HA:Hid (splitA L= .error (2,0)):=if_neg hL
  have hn:(6000:Int)<((mkB L).size:Int):=by omega
  clear hr hL hsz
  go_enter Tryz.func13,Tryz.ntmps13
  go_wp2
  refine bodyPost_ret (v:= .tuple #[.slice none 0 0,.agg #[.int .i64 2,.int .i64 0]]) (by simp[results,Tryz.results13,go_sem]) rfl ?_
  refine⟨fun k' z' hz=>?_,fun l hl=>?_,?_⟩
  ·rw[HA.out]at hz;cases hz;rfl
  ·rw[HA.out]at hl;cases hl
  ·exact(Below.refl _ w).alloc (Nat.le_refl _) _
end Go.Proofs.YtcaeeackccgclaaGreatDoor
namespace Go.Proofs.YtcaeeackccgclaaGreatDoor
def isNmL (x:List UInt8):Bool:=match splitA x with
 | .ok (t::_)=>t.kind==1&&t.text==x
 |_=>false
def ldL:Nat→List (List UInt8)→Ps→Px (List (List UInt8))
 |0,_,_=>none
 |f+1,l,p=>bif decide (0<l.length)&&p.sees [[41]]then ok l p
  else iff (decide (l.length<1000000)) (bnd (tkS [44] p) fun _ q=>bnd (guIf (!isNmL q.nx.text) 1 q) fun _ q=>bnd (tkK 3 q) fun t q=>iff (less q p) (ldL f (l++[t.text]) q))
def loadS (p:Ps):Px Sm:=bnd (guIf (decide (0<p.blk)) 4 p) fun _ p=>bnd (tkS [108,111,97,100] p) fun _ p=>bnd (tkS [40] p) fun _ p=>bnd (tkK 3 p) fun t p=>
 bnd (ldL (p.toks.length+1) [] p) fun l p=>bnd (tkS [41] p) fun _ p=>ok ⟨4,t.text,l,⟨0,0,[],[],[]⟩,[],[]⟩ p
def smlF (E:Ps→Px Ex)(p:Ps):Px Sm:=
 bif p.sees [[112,97,115,115]]then ok ⟨1,[],[],⟨0,0,[],[],[]⟩,[],[]⟩ p.adv
 else bif p.sees [[114,101,116,117,114,110]]then givS E p
 else bif p.sees [[108,111,97,100]]then loadS p
 else bif sSet p then setS E p else bnd (E p) fun e q=>ok ⟨5,[],[],e,[],[]⟩ q
def Ps.bin (p:Ps):Ps:={p with blk:=p.blk+1}
def Ps.bout (p:Ps):Ps:={p with blk:=p.blk-1}
def Ps.din (p:Ps)(b:Bool):Ps:={p with inD:=b}
def blL (St:Ps→Px Sm):Nat→List Sm→Ps→Px (List Sm)
 |0,_,_=>none
 |f+1,l,p=>bif p.nx.kind==8 then ok l p else iff (decide (l.length<1000000)) (bnd (St p) fun s q=>iff (less q p) (blL St f (l++[s]) q))
def blF (St:Ps→Px Sm)(p:Ps):Px (List Sm):=bnd (tkS [58] p) fun _ p=>bnd (tkK 6 p) fun _ p=>bnd (tkK 7 p) fun _ p=>
 iff (decide (p.blk<1000)) (bnd (blL St (p.toks.length+1) [] p.bin) fun l q=>iff (decide (1≤q.blk)) (bnd (tkK 8 q.bout) fun _ q=>ok l q))
section
variable (E:Ps→Px Ex) (B:Ps→Px (List Sm))
def condS (p:Ps):Px Sm:=bnd (tkS [105,102] p) fun _ p=>bnd (E p) fun e p=>bnd (B p) fun b p=>
 bif p.sees [[101,108,115,101]]then bnd (B p.adv) fun c q=>ok ⟨7,[],[],e,b,c⟩ q else ok ⟨7,[],[],e,b,[]⟩ p
def loopS (p:Ps):Px Sm:=bnd (tkS [102,111,114] p) fun _ p=>bnd (tkK 1 p) fun t p=>bnd (tkS [105,110] p) fun _ p=>bnd (E p) fun e p=>bnd (B p) fun b p=>ok ⟨8,t.text,[],e,b,[]⟩ p
def nmE (l:List (List UInt8))(p:Ps):Px (List (List UInt8)):=iff (decide (l.length<1000000)) (bnd (tkN l p) fun x q=>ok (l++[x]) q)
def defS (p:Ps):Px Sm:=bnd (guIf (decide (0<p.blk)) 4 p) fun _ p=>bnd (tkS [100,101,102] p) fun _ p=>bnd (tkK 1 p) fun t p=>bnd (tkS [40] p) fun _ p=>
 bnd (lst [41] nmE [] p) fun l p=>bnd (B (p.din true)) fun b p=>ok ⟨6,t.text,l,⟨0,0,[],[],[]⟩,b,[]⟩ (p.din false)
def stmF (p:Ps):Px Sm:=
 bif p.sees [[105,102]]then condS E B p
 else bif p.sees [[102,111,114]]then loopS E B p
 else bif p.sees [[100,101,102]]then defS B p
 else bnd (smlF E p) fun s q=>bnd (tkK 6 q) fun _ q=>ok s q
end
def stD (E:Ps→Px Ex):Nat→Ps→Px Sm
 |0,_=>none
 |n+1,p=>stmF E (blF (stD E n)) p
def srcL (St:Ps→Px Sm):Nat→List Sm→Ps→Px (List Sm)
 |0,_,_=>none
 |f+1,l,p=>bif decide (p.toks.length=0)then ok l p else iff (decide (l.length<1000000)) (bnd (St p) fun s q=>iff (less q p) (srcL St f (l++[s]) q))
def srcF (E:Ps→Px Ex)(p:Ps):Px (List Sm):=srcL (stD E 40) (p.toks.length+1) [] p
structure Nx (p q:Ps):Prop where
 sf:∃ u,p.toks=u++q.toks∧∀ t∈u,t.kind≠7∧t.kind≠8
 deep:q.deep=p.deep
 blk:q.blk=p.blk
 inD:q.inD=p.inD
 fin:q.fin=p.fin
theorem Nx.refl (p:Ps):Nx p p:=⟨⟨[],rfl,by simp⟩,rfl,rfl,rfl,rfl⟩
theorem Nx.trans {p q r:Ps}(h:Nx p q)(k:Nx q r):Nx p r:=by
 obtain⟨u,h1,h2⟩:=h.sf
 obtain⟨v,k1,k2⟩:=k.sf
 refine⟨⟨u++v,by rw[h1,k1,List.append_assoc],fun t ht=>?_⟩,k.deep.trans h.deep,k.blk.trans h.blk,k.inD.trans h.inD,k.fin.trans h.fin⟩
 rcases List.mem_append.1 ht with ht|ht
 ·exact h2 t ht
 ·exact k2 t ht
theorem Nx.le {p q:Ps}(h:Nx p q):q.toks.length≤p.toks.length:=by
 obtain⟨u,h1,_⟩:=h.sf
 rw[h1,List.length_append]
 omega
def Tt {α:Type}(k:Nat)(p:Ps)(m:Px α)(J:α→Ps→Prop):Prop:=∃ z,m=some z∧∀ a q,z= .ok (a,q)→Nx p q∧q.toks.length+k≤p.toks.length∧J a q
section
variable {α β:Type} {k j:Nat} {p:Ps} {m:Px α} {J J':α→Ps→Prop} {K:β→Ps→Prop}
theorem Tt.bnd {f:α→Ps→Px β}(h:Tt k p m J)(g:∀ a q,Nx p q→q.toks.length+k≤p.toks.length→J a q→Tt j q (f a q) K):Tt (k+j) p (bnd m f) K:=by
 obtain⟨z,rfl,hz⟩:=h
 match z,hz with
 | .error x,_=>exact⟨.error x,rfl,fun a q e=>by cases e⟩
 | .ok (a,q),hz=>
  obtain⟨h1,h2,h3⟩:=hz a q rfl
  obtain⟨z2,e2,h4⟩:=g a q h1 h2 h3
  refine⟨z2,e2,fun b r hb=>?_⟩
  obtain⟨h5,h6,h7⟩:=h4 b r hb
  exact⟨h1.trans h5,by omega,h7⟩
theorem Tt.mono (h:Tt k p m J)(hk:j≤k)(hJ:∀ a q,Nx p q→q.toks.length+k≤p.toks.length→J a q→J' a q):Tt j p m J':=by
 obtain⟨z,e,hz⟩:=h
 refine⟨z,e,fun a q ha=>?_⟩
 obtain⟨h1,h2,h3⟩:=hz a q ha
 exact⟨h1,by omega,hJ a q h1 h2 h3⟩
theorem tt_ok (a:α)(h:J a p):Tt 0 p (ok a p) J:=⟨_,rfl,fun b q e=>by cases e;exact⟨Nx.refl p,Nat.le_refl _,h⟩⟩
theorem tt_gu (k c:Nat):Tt k p (gu p c:Px α) J:=⟨_,rfl,fun b q e=>by cases e⟩
theorem tt_iff {b:Bool}(hb:b=true)(h:Tt k p m J):Tt k p (iff b m) J:=by subst hb;exact h
end
theorem guIf_tt (b:Bool)(c:Nat)(p:Ps):Tt 0 p (guIf b c p) (fun _ q=>q=p∧b=false):=by
 cases b with
 |true=>exact tt_gu 0 c
 |false=>exact tt_ok () ⟨rfl,rfl⟩
theorem nx_adv {p:Ps}{t:Tk}{r:List Tk}(hp:p.toks=t::r)(h7:t.kind≠7)(h8:t.kind≠8):Nx p p.adv∧p.adv.toks.length+1≤p.toks.length:=by
 have e:p.adv.toks=r:=by show p.toks.drop 1=r;rw[hp];rfl
 refine⟨⟨⟨[t],by rw[e,hp];rfl,fun x hx=>?_⟩,rfl,rfl,rfl,rfl⟩,by rw[e,hp];simp⟩
 rw[List.mem_singleton.1 hx]
 exact⟨h7,h8⟩
theorem nx_of {p:Ps}{t:Tk}{r:List Tk}(hp:p.toks=t::r):p.nx=t:=by unfold Ps.nx;rw[hp]
theorem sees_hd {p:Ps}{l:List (List UInt8)}(h:p.sees l=true):∃ t r,p.toks=t::r∧(t.kind=4∨t.kind=5)∧t.text∈l:=by
 unfold Ps.sees isS at h
 obtain⟨h1,h2⟩:=(Bool.and_eq_true _ _).mp h
 match hp:p.toks with
 |[]=>rw[show p.nx=⟨0,[],0,p.fin⟩ by unfold Ps.nx;rw[hp]]at h1;simp at h1
 |t::r=>
  rw[nx_of hp]at h1 h2
  exact⟨t,r,rfl,by simpa using h1,by simpa using h2⟩
theorem sees_adv {p:Ps}{l:List (List UInt8)}(h:p.sees l=true):Nx p p.adv∧p.adv.toks.length+1≤p.toks.length:=by
 obtain⟨t,r,hp,hk,_⟩:=sees_hd h
 exact nx_adv hp (by omega) (by omega)
theorem sees_sub {p:Ps}{l m:List (List UInt8)}(h:p.sees l=false)(hm:∀ x∈m,x∈l):p.sees m=false:=by
 cases hs:p.sees m with
 |false=>rfl
 |true=>
  obtain⟨t,r,hp,hk,ht⟩:=sees_hd hs
  have:p.sees l=true:=by
   unfold Ps.sees isS
   rw[nx_of hp]
   simp only[Bool.and_eq_true,Bool.or_eq_true,beq_iff_eq,List.contains_eq_mem,decide_eq_true_eq]
   exact⟨hk,hm _ ht⟩
  rw[h]at this
  cases this
theorem tkS_tt (x:List UInt8)(p:Ps):Tt 1 p (tkS x p) (fun _ q=>q=p.adv∧p.sees [x]=true):=by
 unfold tkS
 cases hs:p.sees [x]with
 |false=>exact tt_gu 1 1
 |true=>
  obtain⟨h1,h2⟩:=sees_adv hs
  exact⟨_,rfl,fun b q e=>by cases e;exact⟨h1,h2,rfl,rfl⟩⟩
theorem tkK_tt (k:Nat)(p:Ps)(h0:k≠0)(h7:k≠7)(h8:k≠8):Tt 1 p (tkK k p) (fun t q=>q=p.adv∧t=p.nx∧p.nx.kind=k):=by
 unfold tkK
 cases hs:p.nx.kind==k with
 |false=>exact tt_gu 1 1
 |true=>
  have hk:p.nx.kind=k:=by simpa using hs
  match hp:p.toks with
  |[]=>rw[show p.nx=⟨0,[],0,p.fin⟩ by unfold Ps.nx;rw[hp]]at hk;exact absurd hk.symm h0
  |t::r=>
   rw[nx_of hp]at hk
   obtain⟨h1,h2⟩:=nx_adv hp (by omega) (by omega)
   exact⟨_,rfl,fun b q e=>by cases e;exact⟨h1,h2,rfl,rfl,by rw[nx_of hp];exact hk⟩⟩
theorem tkN_tt (l:List (List UInt8))(p:Ps):Tt 1 p (tkN l p) (fun _ _=>True):=by
 unfold tkN
 cases hs:p.nx.kind==1&&l.contains p.nx.text with
 |true=>exact tt_gu 1 6
 |false=>exact(Tt.bnd (tkK_tt 1 p (by decide) (by decide) (by decide)) (fun t q _ _ _=>tt_ok t.text trivial)).mono (Nat.le_refl _) (fun _ _ _ _ h=>h)
theorem lst_tt {σ:Type}{c:List UInt8}{each:σ→Ps→Px σ}(I:σ→Ps→Prop)(hI:∀ s p q,I s p→Nx p q→I s q)(hE:∀ s p,I s p→Tt 1 p (each s p) I):∀ (f:Nat) (first:Bool) (s:σ) (p:Ps),I s p→p.toks.length<f→Tt 1 p (lsL c each f first s p) I
 |0,_,_,_,_,h=>by omega
 |f+1,first,s,p,hs,hf=>by
  unfold lsL
  cases hc:p.sees [c]with
  |true=>
   obtain⟨h1,h2⟩:=sees_adv hc
   exact⟨_,rfl,fun a q e=>by cases e;exact⟨h1,h2,hI _ _ _ hs h1⟩⟩
  |false=>
   have h0:Tt 0 p (bif first then ok () p else tkS [44] p) (fun _ _=>True):=by
    cases first with
    |true=>exact tt_ok () trivial
    |false=>exact(tkS_tt [44] p).mono (Nat.zero_le _) (fun _ _ _ _ _=>trivial)
   refine(Tt.bnd (k:=0) (j:=1) h0 fun _ q hn _ _=>?_).mono (Nat.le_refl _) (fun _ _ _ _ h=>h)
   refine(Tt.bnd (k:=1) (j:=0) (hE s q (hI _ _ _ hs hn)) fun s2 r hn2 hl hs2=>?_).mono (Nat.le_refl _) (fun _ _ _ _ h=>h)
   have hle:=hn.le
   refine tt_iff (by unfold less;rw[decide_eq_true_eq];omega) ((lst_tt I hI hE f false s2 r hs2 (by omega)).mono (Nat.zero_le _) (fun _ _ _ _ h=>h))
structure Ib (d:Nat)(p:Ps):Prop where
 gt:d<p.deep
 le:p.deep≤30
 few:p.toks.length≤50000
theorem Ib.nx {d:Nat}{p q:Ps}(h:Ib d p)(n:Nx p q):Ib d q:=⟨by rw[n.deep];exact h.gt,by rw[n.deep];exact h.le,Nat.le_trans n.le h.few⟩
theorem inner_tt {m:Ps→Px Ex}{p:Ps}{k:Nat}{J:Ex→Ps→Prop}(hd:p.deep<1000)(h:Tt k p.inn (m p.inn) (fun a q=>J a q.out)):Tt k p (inner m p) J:=by
 unfold inner
 refine tt_iff (by rw[decide_eq_true_eq];exact hd) ?_
 obtain⟨z,e,hz⟩:=h
 rw[e]
 match z,hz with
 | .error x,_=>exact⟨_,rfl,fun a q e=>by cases e⟩
 | .ok (a,q),hz=>
  obtain⟨h1,h2,h3⟩:=hz a q rfl
  have hdq:q.deep=p.deep+1:=h1.deep
  refine⟨.ok (a,q.out),?_,fun b r e=>?_⟩
  ·show iff (decide (1≤q.deep)) (ok a q.out)=_
   rw[show decide (1≤q.deep)=true by rw[decide_eq_true_eq];omega]
   rfl
  ·cases e
   refine⟨⟨h1.sf,?_,h1.blk,h1.inD,h1.fin⟩,h2,h3⟩
   show q.deep-1=p.deep
   omega
theorem jnL_tt {d:Nat}{part:Ps→Px Ex}{l:List (List UInt8)}(hP:∀ p,Ib d p→Tt 1 p (part p) (fun _ q=>Ib d q)):∀ (f:Nat) (e:Ex) (p:Ps),Ib d p→p.toks.length<f→Tt 0 p (jnL part l f e p) (fun _ q=>Ib d q)
 |0,_,_,_,h=>by omega
 |f+1,e,p,hp,hf=>by
  unfold jnL
  cases hs:p.sees l with
  |false=>exact tt_ok e hp
  |true=>
   obtain⟨h1,h2⟩:=sees_adv hs
   have h3:=hP p.adv (hp.nx h1)
   have h4:Tt 1 p.adv (bnd (part p.adv) fun x q=>iff (less q p) (jnL part l f ⟨14,0,p.nx.text,[e,x],[]⟩ q)) (fun _ q=>Ib d q):=by
    refine(Tt.bnd (k:=1) (j:=0) h3 fun x q hn hl hq=>?_).mono (Nat.le_refl _) (fun _ _ _ _ h=>h)
    exact tt_iff (by unfold less;rw[decide_eq_true_eq];omega) (jnL_tt hP f _ q hq (by omega))
   obtain⟨z,e1,hz⟩:=h4
   refine⟨z,e1,fun a q ha=>?_⟩
   obtain⟨k1,k2,k3⟩:=hz a q ha
   exact⟨h1.trans k1,by omega,k3⟩
theorem jn_tt {d:Nat}{part:Ps→Px Ex}{l:List (List UInt8)}(C:Ps→Prop)(hC:∀ p,Ib d p→C p)(hP:∀ p,C p→Tt 1 p (part p) (fun _ q=>Ib d q))(p:Ps)(h:C p):Tt 1 p (jn part l p) (fun _ q=>Ib d q):=
 (Tt.bnd (k:=1) (j:=0) (hP p h) fun e q _ _ hq=>jnL_tt (fun p hp=>hP p (hC p hp)) _ e q hq (Nat.lt_succ_self _)).mono (Nat.le_refl _) (fun _ _ _ _ h=>h)
end Go.Proofs.YtcaeeackccgclaaGreatDoor
