/- 10. -/
import Derived.Shelf.Strconv.Itoa3
import Derived.Test.YthfgpkdbclogpaaGreatDoorChecked
import Derived.Shelf.Strconv.Clone
import Derived.Test.YthfgpkdbclogpaaGreatDoorTx9
set_option maxHeartbeats 40000000
set_option maxRecDepth 100000
namespace Go.Proofs.YthfgpkdbclogpaaGreatDoor
open Go.RowKit Go.Shelf
theorem infF:(Tryz.prog.info? 110).map (fun i=>(i.zero,i.size,i.bytes))=some (some (.agg #[.int .i64 0,.int .i64 0]),2,16):=by
 kernel_rfl
theorem ta_nil (xT:TypeId)(w:World):(Instr.typeAssert .nilIface xT 110 true).run Tryz.prog w= .ok (.tuple #[.agg #[.int .i64 0,.int .i64 0],.bool false]) w:=by
 obtain⟨i0,hi,hz0,hz1,hz2⟩:=info_p infF
 simp[Instr.typeAssert,run_underlying Tryz.underlying110,zeroValue,typeInfo,hi,hz0,go_sem,Result.andThen]
theorem ta_yes (v:Value)(xT:TypeId)(w:World):(Instr.typeAssert (.iface 110 v) xT 110 true).run Tryz.prog w= .ok (.tuple #[v,.bool true]) w:=by
 simp[Instr.typeAssert,run_underlying Tryz.underlying110,go_sem,Result.andThen]
theorem catch_idle (p q:Addr)(w:World):
  CallsD Tryz.prog 173 #[.pointer (some p),.pointer (some q)] .returning w fun e u' w'=>e= .returned (.tuple #[])∧u'= .returning∧Below w.heap.size w w':=by
 refine callsD_of_wpS Tryz.func173 rfl fun c₀ cs hu=>?_
 apply wpS_seq
 apply wpS_region
 simp[wpOpsS,go_sem,recoverD,hu,Tryz.ntmps173,Exit.thenS,ta_nil]
 apply wpS_seq
 apply wpS_region
 simp[wpOpsS,go_sem,Exit.thenS]
 refine wpS_cond (t:=false) (by simp[Act.eval,Array.replicate]) ?_
 simp only[Bool.false_eq_true,if_false]
 refine wpS_of_wp (wp_skip ?_)
 have hb:Below w.heap.size w (w.alloc (.cells #[.int .i64 0,.int .i64 0] 110)):=(Below.refl _ w).alloc (Nat.le_refl _) _
 cases c₀
 simp_all [bodyPostS,results,Tryz.results173]
theorem catch_pan (B lb fb:Nat)(x y0 y1:Value)(k:Int)(z:Nat)(older:List PanicEntry)(w:World)(h0:w.cell? ⟨lb,0,none⟩=some x)(h1:w.cell? ⟨fb,0,none⟩=some y0)(h2:w.cell? ⟨fb,1,none⟩=some y1)
  (f0:w.frozen? ⟨lb,0,none⟩=false) (f1:w.frozen? ⟨fb,0,none⟩=false) (f2:w.frozen? ⟨fb,1,none⟩=false) (hn:¬lb=fb) (hB:B≤lb) (hB2:B≤fb):
  CallsD Tryz.prog 173 #[.pointer (some ⟨lb,0,none⟩),.pointer (some ⟨fb,0,none⟩)] (.panicking ({v:= .iface 110 (.agg #[.int .i64 k,.int .i64 z]),recovered:=false}::older)) w fun e u' w'=>
   e= .returned (.tuple #[])∧u'= .panicking ({v:= .iface 110 (.agg #[.int .i64 k,.int .i64 z]),recovered:=true}::older)∧w'.cell? ⟨lb,0,none⟩=some (.slice none 0 0)∧w'.cell? ⟨fb,0,none⟩=some (.int .i64 k)∧w'.cell? ⟨fb,1,none⟩=some (.int .i64 z)∧Below B w w':=by
 refine callsD_of_wpS Tryz.func173 rfl fun c₀ cs hu=>?_
 apply wpS_seq
 apply wpS_region
 simp[wpOpsS,go_sem,recoverD,hu,Tryz.ntmps173,Exit.thenS,ta_yes]
 apply wpS_seq
 apply wpS_region
 simp[wpOpsS,go_sem,Exit.thenS]
 refine wpS_cond (t:=true) (by simp[Act.eval,Array.replicate]) ?_
 simp only[if_true]
 refine wpS_of_wp ?_
 simp[Array.replicate]
 have hpl:lb<w.heap.size:=World.block_lt_of_cell? w ⟨lb,0,none⟩ h0
 have hql:fb<w.heap.size:=World.block_lt_of_cell? w ⟨fb,0,none⟩ h1
 have hnew:=heap_alloc_new w (.cells #[.int .i64 k,.int .i64 (z:Int)] 110)
 have g0:(w.alloc (.cells #[.int .i64 k,.int .i64 (z:Int)] 110)).cell? ⟨lb,0,none⟩=some x:=(World.cell?_alloc_past _ _ _ hpl).trans h0
 have g1:(w.alloc (.cells #[.int .i64 k,.int .i64 (z:Int)] 110)).cell? ⟨fb,0,none⟩=some y0:=(World.cell?_alloc_past _ _ _ hql).trans h1
 have g2:(w.alloc (.cells #[.int .i64 k,.int .i64 (z:Int)] 110)).cell? ⟨fb,1,none⟩=some y1:=(World.cell?_alloc_past _ _ _ hql).trans h2
 have e0:(w.alloc (.cells #[.int .i64 k,.int .i64 (z:Int)] 110)).frozen? ⟨lb,0,none⟩=false:=(World.frozen?_of_block (heap_al w _ lb hpl)).trans f0
 have e1:(w.alloc (.cells #[.int .i64 k,.int .i64 (z:Int)] 110)).frozen? ⟨fb,0,none⟩=false:=(World.frozen?_of_block (heap_al w _ fb hql)).trans f1
 have e2:(w.alloc (.cells #[.int .i64 k,.int .i64 (z:Int)] 110)).frozen? ⟨fb,1,none⟩=false:=(World.frozen?_of_block (heap_al w _ fb hql)).trans f2
 have n0:(w.alloc (.cells #[.int .i64 k,.int .i64 (z:Int)] 110)).cell? ⟨w.heap.size,0,none⟩=some (.int .i64 k):=by rw[Lib.cell_of_heap hnew];rfl
 have n1:(w.alloc (.cells #[.int .i64 k,.int .i64 (z:Int)] 110)).cell? ⟨w.heap.size,1,none⟩=some (.int .i64 (z:Int)):=by rw[Lib.cell_of_heap hnew];rfl
 have HB:Hid (Below B w (w.alloc (.cells #[.int .i64 k,.int .i64 (z:Int)] 110))):=(Below.refl B w).alloc (by omega) _
 have m1:¬w.heap.size=lb:=by omega
 have m2:¬w.heap.size=fb:=by omega
 clear h0 h1 h2 f0 f1 f2 hpl hql hnew
 generalize w.alloc (.cells #[.int .i64 k,.int .i64 (z:Int)] 110)=W at *
 generalize w.heap.size=Z at *
 go_region_with fail
 all_goals
  have hb:Below B w (((W.setCell ⟨lb,0,none⟩ (.slice none 0 0)).setCell ⟨fb,0,none⟩ (.int .i64 k)).setCell ⟨fb,1,none⟩ (.int .i64 (z:Int))).drew:=(((HB.out.setCell (p:=⟨lb,0,none⟩) hB _).setCell (p:=⟨fb,0,none⟩) hB2 _).setCell (p:=⟨fb,1,none⟩) hB2 _).drew
  cases c₀
  simp[bodyPostS,results,Tryz.results173,go_sem,g0,g1,g2,hb]
def SplP (w:World)(r:Except Ft (List Tk))(e:Ending)(w':World):Prop:=
 (∀ (k z:Nat),r= .error (k,z)→e= .returned (.tuple #[.slice none 0 0,.agg #[.int .i64 (k:Int),.int .i64 (z:Int)]]))∧
 (∀ l,r= .ok l→∃ tv,e= .returned (.tuple #[tv,.agg #[.int .i64 0,.int .i64 0]])∧w'.ownsRow w.heap.size 255 4 tv l.length (tcs l))∧Below w.heap.size w w'
theorem row_mono {w:World}{base base':Nat}{e:TypeId}{size:Nat}{v:Value}{n:Nat}{xs:List Value}(h:w.ownsRow base e size v n xs)(hb:base'≤base):w.ownsRow base' e size v n xs:=by
 refine⟨h.1,?_⟩
 rcases h.2 with h2|⟨g,cap,cur,hv,hg,r⟩
 ·exact Or.inl h2
 ·exact Or.inr ⟨g,cap,cur,hv,Nat.le_trans hb hg,r⟩
def begW (L:List UInt8)(w:World):World:=(((w.alloc (.cells #[.slice none 0 0] 155)).alloc (.cells #[.int .i64 0,.int .i64 0] 110)).alloc (.cells #[.int .i64 0] 3)).alloc (.cells #[.string (mkB L),.int .i64 0,.slice none 0 0,.slice (some ⟨w.heap.size+1+1,0,none⟩) 1 1,.int .i64 0] 223)
theorem beg_facts (L:List UInt8)(w:World):TS (w.heap.size+1+1) (w.heap.size+1+1+1) L (.slice none 0 0) (.slice (some ⟨w.heap.size+1+1,0,none⟩) 1 1) (begW L w) ⟨0,[],[0],0⟩∧Below w.heap.size w (begW L w)∧
  (begW L w).heap[w.heap.size]? =some (.cells #[.slice none 0 0] 155 (0,0))∧(begW L w).heap[w.heap.size+1]? =some (.cells #[.int .i64 0,.int .i64 0] 110 (0,0)):=by
 have s1:(w.alloc (.cells #[.slice none 0 0] 155)).heap.size=w.heap.size+1:=World.size_alloc _ _
 have s2:((w.alloc (.cells #[.slice none 0 0] 155)).alloc (.cells #[.int .i64 0,.int .i64 0] 110)).heap.size=w.heap.size+1+1:=by rw[World.size_alloc,s1]
 have s3:(((w.alloc (.cells #[.slice none 0 0] 155)).alloc (.cells #[.int .i64 0,.int .i64 0] 110)).alloc (.cells #[.int .i64 0] 3)).heap.size=w.heap.size+1+1+1:=by rw[World.size_alloc,s2]
 have b0:(begW L w).heap[w.heap.size]? =some (.cells #[.slice none 0 0] 155 (0,0)):=by
  unfold begW
  rw[heap_al _ _ _ (by rw[s3];omega),heap_al _ _ _ (by rw[s2];omega),heap_al _ _ _ (by rw[s1];omega)]
  exact heap_alloc_new w _
 have b1:(begW L w).heap[w.heap.size+1]? =some (.cells #[.int .i64 0,.int .i64 0] 110 (0,0)):=by
  unfold begW
  rw[heap_al _ _ _ (by rw[s3];omega),heap_al _ _ _ (by rw[s2];omega),←s1]
  exact heap_alloc_new _ _
 have b2:(begW L w).heap[w.heap.size+1+1]? =some (.cells #[.int .i64 0] 3 (0,0)):=by
  unfold begW
  rw[heap_al _ _ _ (by rw[s3];omega),←s2]
  exact heap_alloc_new _ _
 have b3:(begW L w).heap[w.heap.size+1+1+1]? =some (.cells #[.string (mkB L),.int .i64 0,.slice none 0 0,.slice (some ⟨w.heap.size+1+1,0,none⟩) 1 1,.int .i64 0] 223 (0,0)):=by
  unfold begW
  rw[←s3]
  exact heap_alloc_new _ _
 refine⟨⟨by omega,b3,World.ownsRow_nil _ _ _ _,⟨rfl,.inr ⟨w.heap.size+1+1,1,_,rfl,Nat.le_refl _,b2,Nat.le_refl _,by decide,rfl,rfl⟩⟩,by simp[Value.ownBlock],by simp[Value.ownBlock],by simp[Value.ownBlock]⟩,?_,b0,b1⟩
 unfold begW
 exact((((Below.refl _ w).alloc (Nat.le_refl _) _).alloc (by rw[s1];omega) _).alloc (by rw[s2];omega) _).alloc (by rw[s3];omega) _
theorem split_any (L:List UInt8)(w:World)(hL:L.length≤6000)(hr:ErrR w):
  Calls Tryz.prog 138 #[.string (mkB L)] w fun e w'=>SplP w (splitL L) e w':=by
 have hmf:∀ (fn:Fn) (first cap:Array Value) (w:World),(Instr.makeFunc fn first cap).run Tryz.prog w= .ok (.func fn first cap) w:=fun _ _ _ _=>rfl
 obtain⟨t0,hb0,l0,f0⟩:=beg_facts L w
 have hg:7<w.heap.size+1+1:=by
  obtain⟨ev,h1,_⟩:=hr
  have:=World.block_lt_of_cell? w ⟨7,0,none⟩ h1
  have:7<w.heap.size:=this
  omega
 have HLn:Hid (Calls Tryz.prog 174 #[.pointer (some ⟨w.heap.size+1+1+1,0,none⟩)] (begW L w) fun e w'=>StP (w.heap.size+1+1) (w.heap.size+1+1+1) L (begW L w) (linesF L (L.length+1) ⟨0,[],[0],0⟩) e w'):=
  lines_any t0 hL ⟨Nat.zero_le _,⟨by simp,rfl⟩,by decide,by decide,by decide⟩ hg (hr.up hb0)
 have HB0:Hid (Below w.heap.size w (begW L w)∧(begW L w).heap[w.heap.size]? =some (.cells #[.slice none 0 0] 155 (0,0))∧(begW L w).heap[w.heap.size+1]? =some (.cells #[.int .i64 0,.int .i64 0] 110 (0,0))):=⟨hb0,l0,f0⟩
 have HSp:Hid (splitL L=match linesF L (L.length+1) ⟨0,[],[0],0⟩with| .error x=>.error x| .ok q=>.ok q.toks):=rfl
 clear t0 hb0 l0 f0 hg hr
 cases hli:linesF L (L.length+1) ⟨0,[],[0],0⟩with
 |error x=>
  obtain⟨k,z⟩:=x
  rw[hli]at HLn HSp
  clear hli
  have HRV:Hid (splitL L= .error (k,z)):=HSp.out
  go_enter_defers Tryz.func138,Tryz.ntmps138
  go_wp2_with fail
  refine HLn.out.mono ?_
  rintro e w1 ⟨h1,-,hb1⟩
  obtain rfl:=h1 k z rfl
  have l1:=(hb1.block w.heap.size (by omega)).trans HB0.out.2.1
  have f1:=(hb1.block (w.heap.size+1) (by omega)).trans HB0.out.2.2
  have HB1:Hid (Below w.heap.size w w1):=HB0.out.1.trans (hb1.mono (by omega))
  have q0:w1.cell? ⟨w.heap.size,0,none⟩=some (.slice none 0 0):=by rw[Lib.cell_of_heap l1];rfl
  have q1:w1.cell? ⟨w.heap.size+1,0,none⟩=some (.int .i64 0):=by rw[Lib.cell_of_heap f1];rfl
  have q2:w1.cell? ⟨w.heap.size+1,1,none⟩=some (.int .i64 0):=by rw[Lib.cell_of_heap f1];rfl
  have r0:w1.frozen? ⟨w.heap.size,0,none⟩=false:=Lib.frozen_of_heap l1 0
  have r1:w1.frozen? ⟨w.heap.size+1,0,none⟩=false:=Lib.frozen_of_heap f1 0
  have r2:w1.frozen? ⟨w.heap.size+1,1,none⟩=false:=Lib.frozen_of_heap f1 1
  clear h1 hb1 l1 f1
  go_wp2
  refine leaves_cons (f:=173) (args:=#[.pointer (some ⟨w.heap.size,0,none⟩),.pointer (some ⟨w.heap.size+1,0,none⟩)]) (by simp) (by simp[go_sem]) ?_
  refine(catch_pan w.heap.size w.heap.size (w.heap.size+1) _ _ _ k z [] _ q0 q1 q2 r0 r1 r2 (by omega) (Nat.le_refl _) (Nat.le_succ _)).mono ?_
  rintro e u' w2 ⟨rfl,rfl,s0,s1,s2,hb2⟩
  simp[Leaves,settle,results,Tryz.results138,go_sem,s0,s1,s2]
  refine⟨fun k' z' hz=>?_,fun l hl=>?_,HB1.out.trans hb2⟩
  ·rw[HRV.out]at hz;cases hz;rfl
  ·rw[HRV.out]at hl;cases hl
 |ok q=>
  rw[hli]at HLn HSp
  clear hli
  have HRV:Hid (splitL L= .ok q.toks):=HSp.out
  go_enter_defers Tryz.func138,Tryz.ntmps138
  go_wp2_with fail
  refine HLn.out.mono ?_
  rintro e w1 ⟨-,h2,hb1⟩
  obtain⟨rfl,tv,iv,hts⟩:=h2 q rfl
  have l1:=(hb1.block w.heap.size (by omega)).trans HB0.out.2.1
  have f1:=(hb1.block (w.heap.size+1) (by omega)).trans HB0.out.2.2
  have HB1:Hid (Below w.heap.size w w1):=HB0.out.1.trans (hb1.mono (by omega))
  have q0:w1.cell? ⟨w.heap.size,0,none⟩=some (.slice none 0 0):=by rw[Lib.cell_of_heap l1];rfl
  have q1:w1.cell? ⟨w.heap.size+1,0,none⟩=some (.int .i64 0):=by rw[Lib.cell_of_heap f1];rfl
  have q2:w1.cell? ⟨w.heap.size+1,1,none⟩=some (.int .i64 0):=by rw[Lib.cell_of_heap f1];rfl
  have r0:w1.frozen? ⟨w.heap.size,0,none⟩=false:=Lib.frozen_of_heap l1 0
  have r1:w1.frozen? ⟨w.heap.size+1,0,none⟩=false:=Lib.frozen_of_heap f1 0
  have r2:w1.frozen? ⟨w.heap.size+1,1,none⟩=false:=Lib.frozen_of_heap f1 1
  have c2:=hts.c2
  obtain⟨ao,cap,htv⟩:=row_shape hts.ot
  subst htv
  have HT:Hid (TS (w.heap.size+1+1) (w.heap.size+1+1+1) L (.slice ao q.toks.length cap) iv w1 q):=hts
  clear h2 hb1 l1 f1 hts
  have s0:(((w1.setCell ⟨w.heap.size,0,none⟩ (.slice ao q.toks.length cap)).setCell ⟨w.heap.size+1,0,none⟩ (.int .i64 0)).setCell ⟨w.heap.size+1,1,none⟩ (.int .i64 0)).cell? ⟨w.heap.size,0,none⟩=some (.slice ao q.toks.length cap):=by simp[go_sem,q0]
  have s1:(((w1.setCell ⟨w.heap.size,0,none⟩ (.slice ao q.toks.length cap)).setCell ⟨w.heap.size+1,0,none⟩ (.int .i64 0)).setCell ⟨w.heap.size+1,1,none⟩ (.int .i64 0)).cell? ⟨w.heap.size+1,0,none⟩=some (.int .i64 0):=by simp[go_sem,q1]
  have s2:(((w1.setCell ⟨w.heap.size,0,none⟩ (.slice ao q.toks.length cap)).setCell ⟨w.heap.size+1,0,none⟩ (.int .i64 0)).setCell ⟨w.heap.size+1,1,none⟩ (.int .i64 0)).cell? ⟨w.heap.size+1,1,none⟩=some (.int .i64 0):=by simp[go_sem,q2]
  have HS:Hid ((((w1.setCell ⟨w.heap.size,0,none⟩ (.slice ao q.toks.length cap)).setCell ⟨w.heap.size+1,0,none⟩ (.int .i64 0)).setCell ⟨w.heap.size+1,1,none⟩ (.int .i64 0)).cell? ⟨w.heap.size,0,none⟩=some (.slice ao q.toks.length cap)∧(((w1.setCell ⟨w.heap.size,0,none⟩ (.slice ao q.toks.length cap)).setCell ⟨w.heap.size+1,0,none⟩ (.int .i64 0)).setCell ⟨w.heap.size+1,1,none⟩ (.int .i64 0)).cell? ⟨w.heap.size+1,0,none⟩=some (.int .i64 0)∧(((w1.setCell ⟨w.heap.size,0,none⟩ (.slice ao q.toks.length cap)).setCell ⟨w.heap.size+1,0,none⟩ (.int .i64 0)).setCell ⟨w.heap.size+1,1,none⟩ (.int .i64 0)).cell? ⟨w.heap.size+1,1,none⟩=some (.int .i64 0)):=⟨s0,s1,s2⟩
  have HO:Hid ((((w1.setCell ⟨w.heap.size,0,none⟩ (.slice ao q.toks.length cap)).setCell ⟨w.heap.size+1,0,none⟩ (.int .i64 0)).setCell ⟨w.heap.size+1,1,none⟩ (.int .i64 0)).ownsRow (w.heap.size+1+1) 255 4 (.slice ao q.toks.length cap) q.toks.length (tcs q.toks)):=own_heap HT.out.ot fun g hg=>by
   have:=(HT.out.ot.lt g hg).1
   exact(Below.heap_setCell _ ⟨w.heap.size+1,1,none⟩ _ g (by show ¬g=w.heap.size+1;omega)).trans ((Below.heap_setCell _ ⟨w.heap.size+1,0,none⟩ _ g (by show ¬g=w.heap.size+1;omega)).trans (Below.heap_setCell _ ⟨w.heap.size,0,none⟩ _ g (by show ¬g=w.heap.size;omega)))
  have HB2:Hid (Below w.heap.size w (((w1.setCell ⟨w.heap.size,0,none⟩ (.slice ao q.toks.length cap)).setCell ⟨w.heap.size+1,0,none⟩ (.int .i64 0)).setCell ⟨w.heap.size+1,1,none⟩ (.int .i64 0))):=((HB1.out.setCell (p:=⟨w.heap.size,0,none⟩) (Nat.le_refl _) _).setCell (p:=⟨w.heap.size+1,0,none⟩) (Nat.le_succ _) _).setCell (p:=⟨w.heap.size+1,1,none⟩) (Nat.le_succ _) _
  clear s0 s1 s2
  go_wp2
  generalize((w1.setCell ⟨w.heap.size,0,none⟩ (.slice ao q.toks.length cap)).setCell ⟨w.heap.size+1,0,none⟩ (.int .i64 0)).setCell ⟨w.heap.size+1,1,none⟩ (.int .i64 0)=w2 at *
  refine leaves_cons (f:=173) (args:=#[.pointer (some ⟨w.heap.size,0,none⟩),.pointer (some ⟨w.heap.size+1,0,none⟩)]) (by simp) (by simp[go_sem]) ?_
  refine(catch_idle ⟨w.heap.size,0,none⟩ ⟨w.heap.size+1,0,none⟩ _).mono ?_
  rintro e u' w3 ⟨rfl,rfl,hb3⟩
  have k0:=(hb3.cell (World.block_lt_of_cell? w2 _ HS.out.1)).trans HS.out.1
  have k1:=(hb3.cell (World.block_lt_of_cell? w2 _ HS.out.2.1)).trans HS.out.2.1
  have k2:=(hb3.cell (World.block_lt_of_cell? w2 _ HS.out.2.2)).trans HS.out.2.2
  have hle:w.heap.size≤w2.heap.size:=Nat.le_of_lt (World.block_lt_of_cell? w2 _ HS.out.1)
  simp[Leaves,settle,results,Tryz.results138,go_sem,k0,k1,k2]
  refine⟨fun k' z' hz=>?_,fun l hl=>?_,HB2.out.trans (hb3.mono hle)⟩
  ·rw[HRV.out]at hz;cases hz
  ·rw[HRV.out]at hl
   cases hl
   exact⟨_,rfl,row_mono (own_heap HO.out fun g hg=>hb3.block g (HO.out.lt g hg).2) (by omega)⟩
def laysI_ren:Go.Shelf.Ren:=⟨fun|171=>117|243=>157|246=>190|283=>225|284=>226|285=>227|286=>228|129=>155|317=>259|318=>260|319=>261|320=>262|337=>291|338=>292|n=>n,fun|3=>3|9=>9|2=>2|4=>4|171=>264|0=>0|53=>208|37=>28|5=>5|173=>266|212=>281|51=>206|20=>20|213=>282|46=>169|232=>299|233=>300|n=>n,fun|17=>1|18=>4|19=>5|n=>n⟩
theorem laysI:Go.Proofs.LaysM.n171 Tryz.prog laysI_ren:={
 mixed:=by kernel_rfl
 f129:=Tryz.func155.trans (congrArg some (by kernel_rfl))
 f171:=Tryz.func117.trans (congrArg some (by kernel_rfl))
 f243:=Tryz.func157.trans (congrArg some (by kernel_rfl))
 f246:=Tryz.func190.trans (congrArg some (by kernel_rfl))
 f283:=Tryz.func225.trans (congrArg some (by kernel_rfl))
 f284:=Tryz.func226.trans (congrArg some (by kernel_rfl))
 f285:=Tryz.func227.trans (congrArg some (by kernel_rfl))
 f286:=Tryz.func228.trans (congrArg some (by kernel_rfl))
 f317:=Tryz.func259.trans (congrArg some (by kernel_rfl))
 f318:=Tryz.func260.trans (congrArg some (by kernel_rfl))
 f319:=Tryz.func261.trans (congrArg some (by kernel_rfl))
 f320:=Tryz.func262.trans (congrArg some (by kernel_rfl))
 f337:=Tryz.func291.trans (congrArg some (by kernel_rfl))
 f338:=Tryz.func292.trans (congrArg some (by kernel_rfl))
 t0:=Tryz.underlying0
 a0:=Tryz.isAgg0
 z0:=Tryz.sizeOf0
 v0:=Tryz.zeroValue0
 t2:=Tryz.underlying2
 a2:=Tryz.isAgg2
 z2:=Tryz.sizeOf2
 v2:=Tryz.zeroValue2
 t3:=Tryz.underlying3
 a3:=Tryz.isAgg3
 z3:=Tryz.sizeOf3
 v3:=Tryz.zeroValue3
 t4:=Tryz.underlying4
 a4:=Tryz.isAgg4
 z4:=Tryz.sizeOf4
 v4:=Tryz.zeroValue4
 t5:=Tryz.underlying5
 a5:=Tryz.isAgg5
 z5:=Tryz.sizeOf5
 v5:=Tryz.zeroValue5
 t9:=Tryz.underlying9
 a9:=Tryz.isAgg9
 z9:=Tryz.sizeOf9
 v9:=Tryz.zeroValue9
 t20:=Tryz.underlying20
 a20:=Tryz.isAgg20
 z20:=Tryz.sizeOf20
 v20:=Tryz.zeroValue20
 t37:=Tryz.underlying28
 a37:=Tryz.isAgg28
 z37:=Tryz.sizeOf28
 v37:=Tryz.zeroValue28
 t46:=Tryz.underlying169
 a46:=Tryz.isAgg169
 z46:=Tryz.sizeOf169
 v46:=Tryz.zeroValue169
 t51:=Tryz.underlying206
 a51:=Tryz.isAgg206
 z51:=Tryz.sizeOf206
 v51:=Tryz.zeroValue206
 t53:=Tryz.underlying208
 a53:=Tryz.isAgg208
 z53:=Tryz.sizeOf208
 v53:=Tryz.zeroValue208
 t171:=Tryz.underlying264
 a171:=Tryz.isAgg264
 z171:=Tryz.sizeOf264
 v171:=Tryz.zeroValue264
 t173:=Tryz.underlying266
 a173:=Tryz.isAgg266
 z173:=Tryz.sizeOf266
 v173:=Tryz.zeroValue266
 t212:=Tryz.underlying281
 a212:=Tryz.isAgg281
 z212:=Tryz.sizeOf281
 v212:=Tryz.zeroValue281
 t213:=Tryz.underlying282
 a213:=Tryz.isAgg282
 z213:=Tryz.sizeOf282
 t232:=Tryz.underlying299
 a232:=Tryz.isAgg299
 z232:=Tryz.sizeOf299
 v232:=Tryz.zeroValue299
 t233:=Tryz.underlying300
 a233:=Tryz.isAgg300
 z233:=Tryz.sizeOf300
 v233:=Tryz.zeroValue300
 g17:=by kernel_rfl
 g18:=by kernel_rfl
 g19:=by kernel_rfl
 i0:=by kernel_rfl
 i2:=by kernel_rfl
 i3:=by kernel_rfl
 i4:=by kernel_rfl
 i5:=by kernel_rfl
 i9:=by kernel_rfl
 i20:=by kernel_rfl
 i37:=by kernel_rfl
 i46:=by kernel_rfl
 i51:=by kernel_rfl
 i53:=by kernel_rfl
 i171:=by kernel_rfl
 i173:=by kernel_rfl
 i212:=by kernel_rfl
 i232:=by kernel_rfl
 i233:=by kernel_rfl
 m17:=by kernel_rfl
 m18:=by kernel_rfl
 m19:=by kernel_rfl}
theorem skp_fuel (o:Nat):∀ (f f':Nat) (r:List UInt8),r.length≤f→r.length≤f'→skp o f r=skp o f' r:=by
 intro f
 induction f with
 |zero=>
  intro f' r h h'
  have h0:r=[]:=List.length_eq_zero_iff.1 (by omega)
  subst h0
  cases f' with
  |zero=>rfl
  |succ f'=>rfl
 |succ f ih=>
  intro f' r h h'
  cases f' with
  |zero=>
   have h0:r=[]:=List.length_eq_zero_iff.1 (by omega)
   subst h0
   rfl
  |succ f'=>
   show(bif decide (((r.drop (rch (isBl o) r)).getD 0 0).toNat=35)then _ else _)=(bif decide (((r.drop (rch (isBl o) r)).getD 0 0).toNat=35)then _ else _)
   cases hc:decide (((r.drop (rch (isBl o) r)).getD 0 0).toNat=35)with
   |false=>rfl
   |true=>
    simp only[cond_true]
    have hc':((r.drop (rch (isBl o) r)).getD 0 0).toNat=35:=by simpa using hc
    have hlen:0<(r.drop (rch (isBl o) r)).length:=by
     rcases Nat.eq_zero_or_pos (r.drop (rch (isBl o) r)).length with e|e
     ·rw[List.length_eq_zero_iff.1 e]at hc';simp at hc'
     ·exact e
    have h1:0<rch isNl (r.drop (rch (isBl o) r)):=by
     refine rch_pos hlen ?_
     unfold isNl
     rw[hc'];decide
    rw[List.length_drop]at hlen
    rw[ih f' (r.drop (rch (isBl o) r+rch isNl (r.drop (rch (isBl o) r)))) (by rw[List.length_drop];omega) (by rw[List.length_drop];omega)]
end Go.Proofs.YthfgpkdbclogpaaGreatDoor
namespace Go.Proofs.YthfgpkdbclogpaaGreatDoor
structure Ex where
 kind:Nat
 num:Nat
 text:List UInt8
 kids:List Ex
 names:List (List UInt8)
structure Sm where
 kind:Nat
 text:List UInt8
 names:List (List UInt8)
 ex:Ex
 body:List Sm
 els:List Sm
structure Ps where
 toks:List Tk
 fin:Nat
 blk:Nat
 inD:Bool
 deep:Nat
abbrev Px (α:Type):=Option (Except Ft (α×Ps))
def Ps.nx (p:Ps):Tk:=match p.toks with
 |[]=>⟨0,[],0,p.fin⟩
 |t::_=>t
def Ps.adv (p:Ps):Ps:={p with toks:=p.toks.drop 1}
def Ps.inn (p:Ps):Ps:={p with deep:=p.deep+1}
def Ps.out (p:Ps):Ps:={p with deep:=p.deep-1}
def bnd {α β:Type}(m:Px α)(f:α→Ps→Px β):Px β:=match m with
 |none=>none
 |some (.error x)=>some (.error x)
 |some (.ok (a,q))=>f a q
def gu {α:Type}(p:Ps)(k:Nat):Px α:=some (.error (k,p.nx.pos))
def ok {α:Type}(a:α)(p:Ps):Px α:=some (.ok (a,p))
theorem bnd_some {α β:Type}{m:Px α}{f:α→Ps→Px β}{z:Except Ft (β×Ps)}(h:bnd m f=some z):(∃ x,m=some (.error x)∧z= .error x)∨∃ a q,m=some (.ok (a,q))∧f a q=some z:=by
 match m,h with
 |some (.error x),h=>exact .inl ⟨x,rfl,by simpa[bnd]using h.symm⟩
 |some (.ok (a,q)),h=>exact .inr ⟨a,q,rfl,h⟩
def isS (t:Tk)(l:List (List UInt8)):Bool:=(t.kind==4||t.kind==5)&&l.contains t.text
def Ps.sees (p:Ps)(l:List (List UInt8)):Bool:=isS p.nx l
def guIf (b:Bool)(k:Nat)(p:Ps):Px Unit:=bif b then gu p k else ok () p
def tkS (x:List UInt8)(p:Ps):Px Unit:=bif p.sees [x]then ok () p.adv else gu p 1
def tkK (k:Nat)(p:Ps):Px Tk:=bif p.nx.kind==k then ok p.nx p.adv else gu p 1
def sAtom (p:Ps):Bool:=p.nx.kind==1||p.nx.kind==2||p.nx.kind==3||p.sees [[84,114,117,101],[70,97,108,115,101],[78,111,110,101],[40],[91],[123]]
def rfD (l:List (List UInt8))(p:Ps):Px Unit:=guIf ((sAtom p||p.sees l)&&p.deep==30) 2 p
def sSet (p:Ps):Bool:=match p.toks with
 |t::u::_=>t.kind==1&&isS u [[61]]
 |_=>false
def tkN (l:List (List UInt8))(p:Ps):Px (List UInt8):=bif p.nx.kind==1&&l.contains p.nx.text then gu p 6 else bnd (tkK 1 p) fun t q=>ok t.text q
def iff {α:Type}(b:Bool)(m:Px α):Px α:=bif b then m else none
def inner (m:Ps→Px Ex)(p:Ps):Px Ex:=iff (decide (p.deep<1000)) (bnd (m p.inn) fun e q=>iff (decide (1≤q.deep)) (ok e q.out))
def less (q p:Ps):Bool:=decide (q.toks.length<p.toks.length)
theorem iff_some {α:Type}{b:Bool}{m:Px α}{z:Except Ft (α×Ps)}(h:iff b m=some z):b=true∧m=some z:=by
 cases b with
 |true=>exact⟨rfl,h⟩
 |false=>cases h
def lsL {σ:Type}(c:List UInt8)(each:σ→Ps→Px σ):Nat→Bool→σ→Ps→Px σ
 |0,_,_,_=>none
 |f+1,first,s,p=>bif p.sees [c]then ok s p.adv else bnd (bif first then ok () p else tkS [44] p) fun _ q=>bnd (each s q) fun s q=>iff (less q p) (lsL c each f false s q)
def lst {σ:Type}(c:List UInt8)(each:σ→Ps→Px σ)(s:σ)(p:Ps):Px σ:=lsL c each (p.toks.length+1) true s p
def jnL (part:Ps→Px Ex)(l:List (List UInt8)):Nat→Ex→Ps→Px Ex
 |0,_,_=>none
 |f+1,e,p=>bif p.sees l then bnd (part p.adv) fun x q=>iff (less q p) (jnL part l f ⟨14,0,p.nx.text,[e,x],[]⟩ q)else ok e p
def jn (part:Ps→Px Ex)(l:List (List UInt8))(p:Ps):Px Ex:=bnd (part p) fun e q=>jnL part l (q.toks.length+1) e q
section
variable (E:Ps→Px Ex)
def Ex.kid (s:Ex)(e:Ex):Ex:={s with kids:=s.kids++[e]}
def kdE (s:Ex)(p:Ps):Px Ex:=bnd (E p) fun e q=>ok (s.kid e) q
def caE (s:Ex)(p:Ps):Px Ex:=iff (decide (s.kids.length<1000000)&&decide (s.names.length<1000000)) (
 bif sSet p then bnd (tkN s.names p) fun x q=>bnd (tkS [61] q) fun _ q=>kdE E {s with names:=s.names++[x]} q
 else bnd (guIf (decide (0<s.names.length)) 1 p) fun _ q=>kdE E s q)
def eaR (s:Ex)(p:Ps):Px Ex:=bnd (guIf (!p.sees [[93]]) 1 p) fun _ q=>ok s q
def eaF (s:Ex)(p:Ps):Px Ex:=bif p.sees [[105,102]]then bnd (kdE E s p.adv) fun s q=>eaR s q else eaR s p
def eaE (s:Ex)(p:Ps):Px Ex:=bnd (tkK 1 p) fun t q=>bnd (tkS [105,110] q) fun _ q=>bnd (kdE E {s with kind:=9,text:=t.text} q) fun s q=>eaF E s q
def liE (s:Ex)(p:Ps):Px Ex:=iff (decide (s.kids.length<1000000)) (bnd (kdE E s p) fun r q=>bif decide (r.kids.length=1)&&q.sees [[102,111,114]]then eaE E r q.adv else ok r q)
def diE (s:Ex)(p:Ps):Px Ex:=iff (decide (s.kids.length<1000000)) (bnd (kdE E s p) fun s q=>bnd (tkS [58] q) fun _ q=>kdE E s q)
def sgA (p:Ps):Px Ex:=
 bif p.sees [[84,114,117,101]]then ok ⟨2,0,[],[],[]⟩ p.adv
 else bif p.sees [[70,97,108,115,101]]then ok ⟨3,0,[],[],[]⟩ p.adv
 else bif p.sees [[78,111,110,101]]then ok ⟨1,0,[],[],[]⟩ p.adv
 else bif p.sees [[91]]then lst [93] (liE E) ⟨7,0,[],[],[]⟩ p.adv
 else bif p.sees [[123]]then lst [125] (diE E) ⟨8,0,[],[],[]⟩ p.adv
 else bnd (tkS [40] p) fun _ q=>bnd (E q) fun e q=>bnd (tkS [41] q) fun _ q=>ok e q
def atm (p:Ps):Px Ex:=
 bif p.nx.kind==1 then ok ⟨6,0,p.nx.text,[],[]⟩ p.adv
 else bif p.nx.kind==2 then ok ⟨4,p.nx.num,[],[],[]⟩ p.adv
 else bif p.nx.kind==3 then ok ⟨5,0,p.nx.text,[],[]⟩ p.adv
 else sgA E p
def psL:Nat→Ex→Ps→Px Ex
 |0,_,_=>none
 |f+1,e,p=>bif p.sees [[40]]then bnd (lst [41] (caE E) ⟨10,0,[],[e],[]⟩ p.adv) fun x q=>iff (less q p) (psL f x q)
  else bif p.sees [[91]]then bnd (E p.adv) fun x q=>bnd (tkS [93] q) fun _ q=>iff (less q p) (psL f ⟨11,0,[],[e,x],[]⟩ q)
  else ok e p
def pst (p:Ps):Px Ex:=bnd (atm E p) fun e q=>psL E (q.toks.length+1) e q
def unL:Nat→Ps→Px Ex
 |0,_=>none
 |f+1,p=>bif p.sees [[45]]then bnd (rfD [[45]] p.adv) fun _ q=>bnd (inner (unL f) q) fun k q=>ok ⟨13,0,[],[k],[]⟩ q else pst E p
def una (p:Ps):Px Ex:=unL E (p.toks.length+1) p
def sum (p:Ps):Px Ex:=jn (jn (una E) [[42],[47,47],[37]]) [[43],[45]] p
def cmp (p:Ps):Px Ex:=bnd (sum E p) fun e q=>bif q.sees [[61,61],[33,61],[60],[60,61],[105,110]]then bnd (sum E q.adv) fun x r=>ok ⟨14,0,q.nx.text,[e,x],[]⟩ r else ok e q
def ngL:Nat→Ps→Px Ex
 |0,_=>none
 |f+1,p=>bif p.sees [[110,111,116]]then bnd (rfD [[110,111,116],[45]] p.adv) fun _ q=>bnd (inner (ngL f) q) fun k q=>ok ⟨12,0,[],[k],[]⟩ q else cmp E p
def neg (p:Ps):Px Ex:=ngL E (p.toks.length+1) p
def orE (p:Ps):Px Ex:=jn (jn (neg E) [[97,110,100]]) [[111,114]] p
end
def exF:Nat→Ps→Px Ex
 |0,_=>none
 |n+1,p=>bnd (rfD [[110,111,116],[45]] p) fun _ q=>inner (orE (exF n)) q
def givS (E:Ps→Px Ex)(p:Ps):Px Sm:=bnd (guIf (!p.inD) 4 p) fun _ p=>bnd (tkS [114,101,116,117,114,110] p) fun _ p=>
 bif p.nx.kind==6 then ok ⟨2,[],[],⟨1,0,[],[],[]⟩,[],[]⟩ p else bnd (E p) fun e p=>ok ⟨2,[],[],e,[],[]⟩ p
def setS (E:Ps→Px Ex)(p:Ps):Px Sm:=bnd (tkK 1 p) fun t p=>bnd (tkS [61] p) fun _ p=>bnd (E p) fun e p=>ok ⟨3,t.text,[],e,[],[]⟩ p
end Go.Proofs.YthfgpkdbclogpaaGreatDoor
namespace Go.Proofs.YthfgpkdbclogpaaGreatDoor
open Go.RowKit Go.Shelf
def laysCl_ren:Ren:=⟨fun|316=>37|n=>n,fun|9=>9|3=>3|4=>4|37=>28|0=>0|127=>127|5=>5|n=>n,fun|n=>n⟩
theorem laysCl:Go.Proofs.LaysM.n316 Tryz.prog laysCl_ren:={
 mixed:=by kernel_rfl
 f316:=Tryz.func37.trans (congrArg some (by kernel_rfl))
 t0:=Tryz.underlying0
 a0:=Tryz.isAgg0
 z0:=Tryz.sizeOf0
 v0:=Tryz.zeroValue0
 t3:=Tryz.underlying3
 a3:=Tryz.isAgg3
 z3:=Tryz.sizeOf3
 v3:=Tryz.zeroValue3
 t4:=Tryz.underlying4
 a4:=Tryz.isAgg4
 z4:=Tryz.sizeOf4
 v4:=Tryz.zeroValue4
 t9:=Tryz.underlying9
 a9:=Tryz.isAgg9
 z9:=Tryz.sizeOf9
 v9:=Tryz.zeroValue9
 t37:=Tryz.underlying28
 a37:=Tryz.isAgg28
 z37:=Tryz.sizeOf28
 v37:=Tryz.zeroValue28
 t127:=Tryz.underlying127
 a127:=Tryz.isAgg127
 z127:=Tryz.sizeOf127
 v127:=Tryz.zeroValue127
 t5:=Tryz.underlying5
 a5:=Tryz.isAgg5
 z5:=Tryz.sizeOf5
 v5:=Tryz.zeroValue5
 i0:=by kernel_rfl
 i3:=by kernel_rfl
 i4:=by kernel_rfl
 i5:=by kernel_rfl
 i9:=by kernel_rfl
 i37:=by kernel_rfl
 i127:=by kernel_rfl}
theorem cloneLite (s:ByteArray)(w:World)(hlim:s.size≤281474976710656):
  Calls Tryz.prog 37 #[.string s] w fun e w'=>e= .returned (.string s)∧Below w.heap.size w w':=Any.stringslite_Clone laysCl s w hlim
theorem clone_any (s:ByteArray)(w:World)(hlim:s.size≤281474976710656):
  Calls Tryz.prog 21 #[.string s] w fun e w'=>e= .returned (.string s)∧Below w.heap.size w w':=by
 go_enter Tryz.func21,Tryz.ntmps21
 go_wp2_with (go_at_call 37;refine(cloneLite s _ hlim).mono ?_;rintro e w' ⟨rfl,hb⟩)
 go_ret
 exact⟨rfl,hb⟩
def splitA (L:List UInt8):Except Ft (List Tk):=if L.length≤6000 then splitL L else .error (2,0)
theorem Split_any (L:List UInt8)(w:World)(hr:ErrR w):
  Calls Tryz.prog 109 #[.string (mkB L)] w fun e w'=>SplP w (splitA L) e w':=by
 have hsz:=mk_size L
 by_cases hL:L.length≤6000
 ·have HA:Hid (splitA L=splitL L):=if_pos hL
  have hn:¬(6000:Int)<((mkB L).size:Int):=by omega
  have HCl:Hid (∀ W,Calls Tryz.prog 21 #[.string (mkB L)] W fun e w'=>e= .returned (.string (mkB L))∧Below W.heap.size W w'):=fun W=>clone_any (mkB L) W (by omega)
  have HSp:Hid (∀ W,Below w.heap.size w W→Calls Tryz.prog 138 #[.string (mkB L)] W fun e w'=>SplP W (splitL L) e w'):=fun W hW=>split_any L W hL (hr.up hW)
  have HR:Hid (ErrR w):=hr
  clear hr hL hsz
  have hb0:Below w.heap.size w (w.alloc (.cells #[.int .i64 0,.int .i64 0] 110)):=(Below.refl _ w).alloc (Nat.le_refl _) _
  have l0:=heap_alloc_new w (.cells #[.int .i64 0,.int .i64 0] 110)
  have hz0:(w.alloc (.cells #[.int .i64 0,.int .i64 0] 110)).heap.size=w.heap.size+1:=World.size_alloc _ _
  have H0:Hid (Below w.heap.size w (w.alloc (.cells #[.int .i64 0,.int .i64 0] 110))∧(w.alloc (.cells #[.int .i64 0,.int .i64 0] 110)).heap[w.heap.size]? =some (.cells #[.int .i64 0,.int .i64 0] 110 (0,0))∧(w.alloc (.cells #[.int .i64 0,.int .i64 0] 110)).heap.size=w.heap.size+1):=⟨hb0,l0,hz0⟩
  clear hb0 l0 hz0
  go_enter Tryz.func109,Tryz.ntmps109
  go_wp2_with fail
  generalize w.alloc (.cells #[.int .i64 0,.int .i64 0] 110)=W0 at *
  refine(HCl.out W0).mono ?_
  rintro e W1 ⟨rfl,hb1⟩
  have hlt1:w.heap.size<W1.heap.size:=by have:=hb1.size;have:=H0.out.2.2;omega
  have H1:Hid (Below w.heap.size w W1∧W1.heap[w.heap.size]? =some (.cells #[.int .i64 0,.int .i64 0] 110 (0,0))∧w.heap.size<W1.heap.size):=⟨H0.out.1.trans (hb1.mono (by have:=H0.out.2.2;omega)),(hb1.block _ (by have:=H0.out.2.2;omega)).trans H0.out.2.1,hlt1⟩
  clear hb1 H0 hlt1
  go_wp2_with fail
  refine(HSp.out W1 H1.out.1).mono ?_
  rintro e W2 ⟨h1,h2,hb2⟩
  have l2:=(hb2.block _ H1.out.2.2).trans H1.out.2.1
  have q0:W2.cell? ⟨w.heap.size,0,none⟩=some (.int .i64 0):=by rw[Lib.cell_of_heap l2];rfl
  have q1:W2.cell? ⟨w.heap.size,1,none⟩=some (.int .i64 0):=by rw[Lib.cell_of_heap l2];rfl
  have r0:W2.frozen? ⟨w.heap.size,0,none⟩=false:=Lib.frozen_of_heap l2 0
  have r1:W2.frozen? ⟨w.heap.size,1,none⟩=false:=Lib.frozen_of_heap l2 1
  have HB2:Hid (Below w.heap.size w W2):=H1.out.1.trans (hb2.mono (Nat.le_of_lt H1.out.2.2))
  have HW:Hid (∀ a b:Value,Below w.heap.size w ((W2.setCell ⟨w.heap.size,0,none⟩ a).setCell ⟨w.heap.size,1,none⟩ b)):=fun a b=>(HB2.out.setCell (p:=⟨w.heap.size,0,none⟩) (Nat.le_refl _) _).setCell (p:=⟨w.heap.size,1,none⟩) (Nat.le_refl _) _
  clear hb2 l2
  cases hsp:splitL L with
  |error x=>
   obtain⟨k,z⟩:=x
   rw[hsp]at HA
   obtain rfl:=h1 k z hsp
   clear h1 h2 hsp
   go_wp2
   refine bodyPost_ret (v:= .tuple #[.slice none 0 0,.agg #[.int .i64 (k:Int),.int .i64 (z:Int)]]) (by simp[results,Tryz.results109,go_sem,q0,q1]) rfl ?_
   refine⟨fun k' z' hz=>?_,fun l hl=>?_,HW.out _ _⟩
   ·rw[HA.out]at hz;cases hz;rfl
   ·rw[HA.out]at hl;cases hl
  |ok l=>
   rw[hsp]at HA
   obtain⟨tv,rfl,ho⟩:=h2 l hsp
   have HO:Hid (∀ a b:Value,((W2.setCell ⟨w.heap.size,0,none⟩ a).setCell ⟨w.heap.size,1,none⟩ b).ownsRow w.heap.size 255 4 tv l.length (tcs l)):=fun a b=>row_mono (own_heap ho fun g hg=>by
    have:=(ho.lt g hg).1
    have:=H1.out.2.2
    exact(Below.heap_setCell _ ⟨w.heap.size,1,none⟩ _ g (by show ¬g=w.heap.size;omega)).trans (Below.heap_setCell _ ⟨w.heap.size,0,none⟩ _ g (by show ¬g=w.heap.size;omega))) (Nat.le_of_lt H1.out.2.2)
   clear h1 h2 hsp ho
   go_wp2
   refine bodyPost_ret (v:= .tuple #[tv,.agg #[.int .i64 0,.int .i64 0]]) (by simp[results,Tryz.results109,go_sem,q0,q1]) rfl ?_
   refine⟨fun k' z' hz=>?_,fun l hl=>?_,HW.out _ _⟩
   ·rw[HA.out]at hz;cases hz
   ·rw[HA.out]at hl;cases hl
    exact⟨_,rfl,HO.out _ _⟩
 ·have HA:Hid (splitA L= .error (2,0)):=if_neg hL
  have hn:(6000:Int)<((mkB L).size:Int):=by omega
  clear hr hL hsz
  go_enter Tryz.func109,Tryz.ntmps109
  go_wp2
  refine bodyPost_ret (v:= .tuple #[.slice none 0 0,.agg #[.int .i64 2,.int .i64 0]]) (by simp[results,Tryz.results109,go_sem]) rfl ?_
  refine⟨fun k' z' hz=>?_,fun l hl=>?_,?_⟩
  ·rw[HA.out]at hz;cases hz;rfl
  ·rw[HA.out]at hl;cases hl
  ·exact(Below.refl _ w).alloc (Nat.le_refl _) _
end Go.Proofs.YthfgpkdbclogpaaGreatDoor
namespace Go.Proofs.YthfgpkdbclogpaaGreatDoor
def isNmL (x:List UInt8):Bool:=match splitA x with
 | .ok (t::_)=>t.kind==1&&t.text==x
 |_=>false
def ldL:Nat→List (List UInt8)→Ps→Px (List (List UInt8))
 |0,_,_=>none
 |f+1,l,p=>bif decide (0<l.length)&&p.sees [[41]]then ok l p
  else iff (decide (l.length<1000000)) (bnd (tkS [44] p) fun _ q=>bnd (guIf (!isNmL q.nx.text) 1 q) fun _ q=>bnd (tkK 3 q) fun t q=>iff (less q p) (ldL f (l++[t.text]) q))
def loadS (p:Ps):Px Sm:=bnd (guIf (decide (0<p.blk)) 4 p) fun _ p=>bnd (tkS [108,111,97,100] p) fun _ p=>bnd (tkS [40] p) fun _ p=>bnd (tkK 3 p) fun t p=>
 bnd (ldL (p.toks.length+1) [] p) fun l p=>bnd (tkS [41] p) fun _ p=>ok ⟨4,t.text,l,⟨0,0,[],[],[]⟩,[],[]⟩ p
def smlF (E:Ps→Px Ex)(p:Ps):Px Sm:=
 bif p.sees [[112,97,115,115]]then ok ⟨1,[],[],⟨0,0,[],[],[]⟩,[],[]⟩ p.adv
 else bif p.sees [[114,101,116,117,114,110]]then givS E p
 else bif p.sees [[108,111,97,100]]then loadS p
 else bif sSet p then setS E p else bnd (E p) fun e q=>ok ⟨5,[],[],e,[],[]⟩ q
def Ps.bin (p:Ps):Ps:={p with blk:=p.blk+1}
def Ps.bout (p:Ps):Ps:={p with blk:=p.blk-1}
def Ps.din (p:Ps)(b:Bool):Ps:={p with inD:=b}
def blL (St:Ps→Px Sm):Nat→List Sm→Ps→Px (List Sm)
 |0,_,_=>none
 |f+1,l,p=>bif p.nx.kind==8 then ok l p else iff (decide (l.length<1000000)) (bnd (St p) fun s q=>iff (less q p) (blL St f (l++[s]) q))
def blF (St:Ps→Px Sm)(p:Ps):Px (List Sm):=bnd (tkS [58] p) fun _ p=>bnd (tkK 6 p) fun _ p=>bnd (tkK 7 p) fun _ p=>
 iff (decide (p.blk<1000)) (bnd (blL St (p.toks.length+1) [] p.bin) fun l q=>iff (decide (1≤q.blk)) (bnd (tkK 8 q.bout) fun _ q=>ok l q))
section
variable (E:Ps→Px Ex) (B:Ps→Px (List Sm))
def condS (p:Ps):Px Sm:=bnd (tkS [105,102] p) fun _ p=>bnd (E p) fun e p=>bnd (B p) fun b p=>
 bif p.sees [[101,108,115,101]]then bnd (B p.adv) fun c q=>ok ⟨7,[],[],e,b,c⟩ q else ok ⟨7,[],[],e,b,[]⟩ p
def loopS (p:Ps):Px Sm:=bnd (tkS [102,111,114] p) fun _ p=>bnd (tkK 1 p) fun t p=>bnd (tkS [105,110] p) fun _ p=>bnd (E p) fun e p=>bnd (B p) fun b p=>ok ⟨8,t.text,[],e,b,[]⟩ p
def nmE (l:List (List UInt8))(p:Ps):Px (List (List UInt8)):=iff (decide (l.length<1000000)) (bnd (tkN l p) fun x q=>ok (l++[x]) q)
def defS (p:Ps):Px Sm:=bnd (guIf (decide (0<p.blk)) 4 p) fun _ p=>bnd (tkS [100,101,102] p) fun _ p=>bnd (tkK 1 p) fun t p=>bnd (tkS [40] p) fun _ p=>
 bnd (lst [41] nmE [] p) fun l p=>bnd (B (p.din true)) fun b p=>ok ⟨6,t.text,l,⟨0,0,[],[],[]⟩,b,[]⟩ (p.din false)
def stmF (p:Ps):Px Sm:=
 bif p.sees [[105,102]]then condS E B p
 else bif p.sees [[102,111,114]]then loopS E B p
 else bif p.sees [[100,101,102]]then defS B p
 else bnd (smlF E p) fun s q=>bnd (tkK 6 q) fun _ q=>ok s q
end
def stD (E:Ps→Px Ex):Nat→Ps→Px Sm
 |0,_=>none
 |n+1,p=>stmF E (blF (stD E n)) p
def srcL (St:Ps→Px Sm):Nat→List Sm→Ps→Px (List Sm)
 |0,_,_=>none
 |f+1,l,p=>bif decide (p.toks.length=0)then ok l p else iff (decide (l.length<1000000)) (bnd (St p) fun s q=>iff (less q p) (srcL St f (l++[s]) q))
def srcF (E:Ps→Px Ex)(p:Ps):Px (List Sm):=srcL (stD E 40) (p.toks.length+1) [] p
end Go.Proofs.YthfgpkdbclogpaaGreatDoor
