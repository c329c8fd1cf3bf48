/- 45. -/
import Derived.Test.YthfgpkdbclogpaaGreatDoorTx44
set_option maxHeartbeats 40000000
set_option maxRecDepth 100000
namespace Go.Proofs.YthfgpkdbclogpaaGreatDoor
open Go.RowKit Go.Maps Go.WideMaps
structure OneF (g:Nat)(path text:ByteArray)(w:World):Prop where
 c0:w.cell? ⟨g,0,none⟩=some (.string path)
 c1:w.cell? ⟨g,1,none⟩=some (.string text)
 c2:w.cell? ⟨g,2,none⟩=some (.bool false)
theorem OneF.up {g:Nat}{path text:ByteArray}{w w':World}(h:OneF g path text w)(hb:Below w.heap.size w w'):OneF g path text w':=
 ⟨(hb.cell (World.block_lt_of_cell? w _ h.c0)).trans h.c0,(hb.cell (World.block_lt_of_cell? w _ h.c1)).trans h.c1,(hb.cell (World.block_lt_of_cell? w _ h.c2)).trans h.c2⟩
abbrev flC (path text:ByteArray):Array Value:=#[.string path,.string text,.bool false]
theorem fileE_ok {path text:ByteArray}(w:World)(hl:text.size≤100000)(HP:∀ W,Below w.heap.size w W→Calls Tryz.prog 32 #[.string path] W fun e w'=>e= .returned (.bool true)∧Below W.heap.size W w'):
  Calls Tryz.prog 16 #[.agg (flC path text)] w fun e w'=>e= .returned (.int .i64 0)∧Below w.heap.size w w':=by
 have hb0:Below w.heap.size w (w.alloc (.cells (flC path text) 35)):=(Below.refl _ w).alloc (Nat.le_refl _) _
 have HPP:=HP _ hb0
 have hbx:=heap_alloc_new w (.cells (flC path text) 35)
 have HF:Hid (Below w.heap.size w (w.alloc (.cells (flC path text) 35))∧(w.alloc (.cells (flC path text) 35)).heap[w.heap.size]? =some (.cells (flC path text) 35 (0,0))):=⟨hb0,hbx⟩
 have hs0:(w.alloc (.cells (flC path text) 35)).heap.size=w.heap.size+1:=World.size_alloc _ _
 have HI:∀ W,Calls Tryz.prog 33 #[.string text] W fun e w'=>e= .returned (.bool false)∧w'=W:=fun W=>by
  go_enter Tryz.func33,Tryz.ntmps33
  go_wp2
  go_ret
  exact⟨by simp;omega,rfl⟩
 clear hb0 hbx HP hl
 go_enter Tryz.func16,Tryz.ntmps16
 go_wp2_with fail
 refine HPP.mono ?_
 rintro e w2 ⟨rfl,hb⟩
 have h2:=(hb.block _ (by omega)).trans HF.out.2
 have d1:w2.cell? ⟨w.heap.size,1,none⟩=some (.string text):=by rw[Lib.cell_of_heap h2];rfl
 have HZ:Hid (Below w.heap.size w w2):=HF.out.1.trans (hb.mono (by omega))
 clear hb h2 HF
 go_wp2_with fail
 refine(HI _).mono ?_
 rintro e w' ⟨rfl,rfl⟩
 go_wp2
 go_ret
 exact⟨rfl,HZ.out⟩
theorem sorted1 (g cap:Nat)(fv:Value)(w:World):Calls Tryz.prog 18 #[.slice (some ⟨g,0,none⟩) 1 cap,fv] w fun e w'=>e= .returned (.bool true)∧w'=w:=by
 go_enter Tryz.func18,Tryz.ntmps18
 go_wp2_with fail
 refine wp_loop_rounds 1 ?_
 simp only[Code.rounds]
 go_wp2
 go_ret
 exact⟨rfl,rfl⟩
theorem mkMap_n {t k e:TypeId}(ht:Tryz.prog.underlying t=some (.map k e))(n:Int)(hn:n=1)(w:World):(Instr.makeMap t (some (.int .i64 n))).run Tryz.prog w= .ok (.map (some w.heap.size)) (w.alloc (.map #[] 0)):=by
 subst hn
 simp[Instr.makeMap,run_underlying ht,asInt,asIntOf]
theorem byPath1 (g cap:Nat){path text:ByteArray}(w:World)(hl:path.size≤100000)(h:OneF g path text w):Calls Tryz.prog 17 #[.slice (some ⟨g,0,none⟩) 1 cap] w fun e w'=>∃ M,e= .returned (.map (some M))∧(∀ W,W.heap[M]? =w'.heap[M]?→∀ ty,(Builtin.len_ #[55] ty #[.map (some M)]).run Tryz.prog W= .ok (.int .i64 1) W)∧M<w'.heap.size∧Below w.heap.size w w':=by
 have hmm:=mkMap_n Tryz.underlying55 1 rfl
 have h1:=h.up (w':=w.alloc (.map #[] 0)) ((Below.refl _ w).alloc (Nat.le_refl _) _)
 obtain⟨c0,c1,c2⟩:=h1
 obtain⟨W2,e2⟩:∃ W2,W2=(w.alloc (.map #[] 0)).alloc (.cells (flC path text) 35):=⟨_,rfl⟩
 have s1:(w.alloc (.map #[] 0)).heap.size=w.heap.size+1:=World.size_alloc _ _
 have mv:MV W2 w.heap.size 0 []:=by rw[e2];exact omapV (MV.made w) (heap_al _ _ _ (by omega))
 obtain⟨w4,hu,mv4,hm⟩:=mv.put Tryz.underlying55 (by decide) (s:=path) (by unfold maxLen;omega) (.agg (flC path text))
 have hb2:Below w.heap.size w W2:=by rw[e2];exact((Below.refl _ w).alloc (Nat.le_refl _) _).alloc (by omega) _
 have HZ:Hid ((∀ W,W.heap[w.heap.size]? =w4.heap[w.heap.size]?→∀ ty,(Builtin.len_ #[55] ty #[.map (some w.heap.size)]).run Tryz.prog W= .ok (.int .i64 1) W)∧w.heap.size<w4.heap.size∧Below w.heap.size w w4):=by
  have hg:=hm.grown
  refine⟨fun W hW ty=>?_,mv4.lt,hb2.trans ⟨hg.os,hg.tape,hg.output,hg.size,fun j hj=>hg.block j (by have:=hb2.size;omega) (fun e=>by have:=Option.some.inj e;omega)⟩⟩
  have:=World.ownsMap.len (omapV mv4 hW) Tryz.underlying55 ty
  rw[this]
  rfl
 clear h mv mv4 hm hb2
 rw[e2]at hu
 go_enter Tryz.func17,Tryz.ntmps17
 go_wp2_with fail
 refine wp_loop_rounds 2 ?_
 simp only[Code.rounds]
 go_wp2
 go_ret
 exact⟨_,rfl,HZ.out.1,HZ.out.2.1,HZ.out.2.2⟩
theorem goes1 (b:Nat){path text:ByteArray}(w:World)(hl:path.size≤100000)(hno:∀ (i:Nat) (hi:i<path.size),path[i]≠47):Calls Tryz.prog 36 #[.agg (flC path text),.pointer (some ⟨b,0,none⟩)] w fun e w'=>e= .returned (.bool false)∧Below w.heap.size w w':=by
 have hbx:=heap_alloc_new w (.cells (flC path text) 35)
 have d0:(w.alloc (.cells (flC path text) 35)).cell? ⟨w.heap.size,0,none⟩=some (.string path):=by rw[Lib.cell_of_heap hbx];rfl
 have HZ:Hid (Below w.heap.size w (w.alloc (.cells (flC path text) 35))):=(Below.refl _ w).alloc (Nat.le_refl _) _
 have HN:Hid (∀ (i:Nat) (hi:i<path.size),path[i]≠47):=hno
 clear hbx hno
 go_enter Tryz.func36,Tryz.ntmps36
 go_wp2
 go_loop [10] (fun i=>∃ k:Nat,k≤path.size∧i= .int .i64 (k:Int)) (fun i=>path.size-(intOf i).toNat)
 case atStart=>exact⟨0,Nat.zero_le _,rfl⟩
 case round=>
  obtain⟨k,hk,rfl⟩:=hrel
  by_cases hl2:k<path.size
  ·have hli:(k:Int)<(path.size:Int):=by omega
   have hc:=HN.out k hl2
   have hc2:¬((path[k].toNat:Int)=47):=fun e=>hc (UInt8.toNat_inj.1 (by show path[k].toNat=47;omega))
   have hc3:((path[k].toNat:Int)==47)=false:=beq_eq_false_iff_ne.2 hc2
   go_wp2
   exact⟨⟨k+1,by omega,by simp⟩,by simp only[intOf];omega⟩
  ·have hli:¬(k:Int)<(path.size:Int):=by omega
   go_wp2
   go_ret
   exact⟨rfl,HZ.out⟩
theorem index1 (g cap b:Nat){path text:ByteArray}(w:World)(h:OneF g path text w)(hl:path.size≤100000)(hno:∀ (i:Nat) (hi:i<path.size),path[i]≠47):Calls Tryz.prog 87 #[.slice (some ⟨g,0,none⟩) 1 cap,.func (.func 36) #[] #[.pointer (some ⟨b,0,none⟩)]] w fun e w'=>e= .returned (.int .i64 (-1))∧Below w.heap.size w w':=by
 obtain⟨c0,c1,c2⟩:=h
 have HG:=goes1 b (text:=text) w hl hno
 have HE:∀ args W,(callFunc 36 args).run Tryz.prog W= .ok (.enter 36 args) W:=enters_of Tryz.func36 (by kernel_rfl) rfl
 go_enter Tryz.func87,Tryz.ntmps87
 go_wp2_with fail
 refine wp_loop_rounds 2 ?_
 simp only[Code.rounds]
 go_wp2_with fail
 refine HG.mono ?_
 rintro e w' ⟨rfl,hb⟩
 have HZ:Hid (Below w.heap.size w w'):=hb
 clear hb
 go_wp2
 go_ret
 exact⟨rfl,HZ.out⟩
theorem through1 (g cap M:Nat){path text:ByteArray}(w:World)(h:OneF g path text w)(hl:path.size≤100000)(hno:∀ (i:Nat) (hi:i<path.size),path[i]≠47):Calls Tryz.prog 20 #[.slice (some ⟨g,0,none⟩) 1 cap,.map (some M)] w fun e w'=>e= .returned (.bool false)∧Below w.heap.size w w':=by
 have hmf:∀ (fn:Fn) (first cap:Array Value) (w:World),(Instr.makeFunc fn first cap).run Tryz.prog w= .ok (.func fn first cap) w:=fun _ _ _ _=>rfl
 have hb1:Below w.heap.size w (w.alloc (.cells #[.map (some M)] 55)):=(Below.refl _ w).alloc (Nat.le_refl _) _
 have HI:=index1 g cap w.heap.size _ (h.up hb1) hl hno
 have HC:Calls Tryz.prog 35 #[.slice (some ⟨g,0,none⟩) 1 cap,.func (.func 36) #[] #[.pointer (some ⟨w.heap.size,0,none⟩)]] (w.alloc (.cells #[.map (some M)] 55)) fun e w'=>e= .returned (.bool false)∧Below (w.alloc (.cells #[.map (some M)] 55)).heap.size (w.alloc (.cells #[.map (some M)] 55)) w':=by
  generalize w.alloc (.cells #[.map (some M)] 55)=W at HI ⊢
  clear h hb1
  go_enter Tryz.func35,Tryz.ntmps35
  go_wp2_with fail
  refine HI.mono ?_
  rintro e w' ⟨rfl,hb⟩
  have HZ:Hid (Below W.heap.size W w'):=hb
  clear hb
  go_wp2
  go_ret
  exact⟨rfl,HZ.out⟩
 have HB:Hid (Below w.heap.size w (w.alloc (.cells #[.map (some M)] 55))):=hb1
 clear h HI hb1
 go_enter Tryz.func20,Tryz.ntmps20
 go_wp2_with fail
 refine HC.mono ?_
 rintro e w' ⟨rfl,hb⟩
 have HZ:Hid (Below w.heap.size w w'):=HB.out.trans (hb.mono HB.out.size)
 clear hb
 go_wp2
 go_ret
 exact⟨rfl,HZ.out⟩
theorem check1 (g cap:Nat){path text:ByteArray}(w:World)(h:OneF g path text w)(hl:path.size≤100000)(ht:text.size≤100000)(hno:∀ (i:Nat) (hi:i<path.size),path[i]≠47)(HP:∀ W,Below w.heap.size w W→Calls Tryz.prog 32 #[.string path] W fun e w'=>e= .returned (.bool true)∧Below W.heap.size W w'):
  Calls Tryz.prog 10 #[.slice (some ⟨g,0,none⟩) 1 cap] w fun e w'=>e= .returned (.int .i64 0)∧Below w.heap.size w w':=by
 have hb0:Below w.heap.size w (w.alloc (.cells (flC path text) 35)):=(Below.refl _ w).alloc (Nat.le_refl _) _
 have HF:=fileE_ok (path:=path) (text:=text) (w.alloc (.cells (flC path text) 35)) ht (fun W hW=>HP W (hb0.trans (hW.mono hb0.size)))
 have HB:Hid (Below w.heap.size w (w.alloc (.cells (flC path text) 35))):=hb0
 have HO:Hid (OneF g path text w):=h
 have c0:=h.c0
 have c1:=h.c1
 have c2:=h.c2
 clear h hb0
 go_enter Tryz.func10,Tryz.ntmps10
 go_wp2_with fail
 refine wp_loop_rounds 2 ?_
 simp only[Code.rounds]
 go_wp2_with fail
 refine HF.mono ?_
 rintro e w2 ⟨rfl,hb2⟩
 have hb:=HB.out.trans (hb2.mono HB.out.size)
 have HO2:Hid (OneF g path text w2):=HO.out.up hb
 have HBy:=byPath1 g cap w2 hl HO2.out
 have HZ2:Hid (Below w.heap.size w w2):=hb
 clear hb hb2 c0 c1 c2
 go_wp2_with fail
 refine HBy.mono ?_
 rintro e w3 ⟨M,rfl,hlen,hM,hb3⟩
 have HO3:Hid (OneF g path text w3):=HO2.out.up hb3
 have HSo:=sorted1 g cap (.func (.func 19) #[] #[]) w3
 have hl3:=fun ty=>hlen w3 rfl ty
 have HTh:=through1 g cap M w3 HO3.out hl hno
 have HZ3:Hid (Below w.heap.size w w3):=HZ2.out.trans (hb3.mono HZ2.out.size)
 clear hlen hb3
 go_wp2_with fail
 refine HSo.mono ?_
 rintro e w' ⟨rfl,rfl⟩
 go_wp2_with fail
 refine HTh.mono ?_
 rintro e w4 ⟨rfl,hb4⟩
 have HZ4:Hid (Below w.heap.size w w4):=HZ3.out.trans (hb4.mono HZ3.out.size)
 clear hb4
 go_wp2
 go_ret
 exact⟨rfl,HZ4.out⟩
end Go.Proofs.YthfgpkdbclogpaaGreatDoor
namespace Go.Proofs.YthfgpkdbclogpaaGreatDoor
open Go.RowKit Go.Maps Go.Shelf
structure FnI (lo hi:Nat)(W:World)(r Mn k:Nat)(E:List (List UInt8×Value))(n':Int)(tv:Nat→Nat→Value)(tcs:List (Nat×Value))(tb tc:Nat)(w':World):Prop where
 os:w'.os=W.os
 tape:w'.tape=W.tape
 output:w'.output=W.output
 size:W.heap.size≤w'.heap.size
 keep:∀ g,g<W.heap.size→(g<lo∨hi≤g)→w'.heap[g]? =W.heap[g]?
 r3:w'.cell? ⟨r,3,none⟩=some (.int .i64 n')
 r4:w'.cell? ⟨r,4,none⟩=some (tv tb tc)
 lr:lo≤r∧r<hi
 mv:MV w' Mn k E
 tg:∀ p∈tcs,w'.cell? ⟨tb,p.1,none⟩=some p.2
 lt:tcs≠[]→W.heap.size≤tb
theorem RnI.up {B:Nat}{w0 W1 W:World}{r:Nat}{path text:ByteArray}{fuel:Int}(h:RnI B w0 W1 r path text fuel)(hB:B≤W1.heap.size)(hb:Below W1.heap.size W1 W):RnI B w0 W r path text fuel:=by
 obtain⟨M0,sb,Mb,Ms,q,h1,h2,h3,⟨k,E,p,h4,h5,h6⟩,h7,h8,h9⟩:=h.ex
 exact⟨⟨M0,sb,Mb,Ms,q,(hb.block _ (Array.getElem?_eq_some_iff.1 h1).1).trans h1,omapV h2 (hb.block _ h2.lt),(hb.block _ (Array.getElem?_eq_some_iff.1 h3).1).trans h3,⟨k,E,p,omapV h4 (hb.block _ h4.lt),h5,h6.up hb⟩,omapV h7 (hb.block _ h7.lt),(hb.block _ (Array.getElem?_eq_some_iff.1 h8).1).trans h8,h9⟩,h.bel.trans (hb.mono hB)⟩
theorem wr64 {n:Int}(h1:-9223372036854775808≤n)(h2:n≤9223372036854775807):IntKind.i64.wrap n=n:=by
 simp[IntKind.wrap,IntKind.bits,IntKind.signed]
 omega
theorem run1_ok {r b0 b11 b12:Nat}{path:ByteArray}{V:World}{Q:Nat→World→Prop}(c0:V.cell? ⟨b0,0,none⟩=some (.string path))(c1:V.cell? ⟨b11,0,none⟩=some (ptB r))
  (HS:Calls Tryz.prog 14 #[ptB r,.string path] V fun e w'=>∃ Mn,e= .returned (.map (some Mn))∧w'.heap[b12]? =some (.cells #[.map none] 46 (0,0))∧Q Mn w'):
  Calls Tryz.prog 13 #[ptB b11,ptB b0,ptB b12] V fun e w'=>e= .returned (.tuple #[])∧∃ Mn w3,Q Mn w3∧w'=w3.setCell ⟨b12,0,none⟩ (.map (some Mn)):=by
 go_enter Tryz.func13,Tryz.ntmps13
 go_wp2_with fail
 refine HS.mono ?_
 rintro e w3 ⟨Mn,rfl,h3,hq⟩
 have d0:w3.cell? ⟨b12,0,none⟩=some (.map none):=by rw[Lib.cell_of_heap h3];rfl
 have d1:w3.frozen? ⟨b12,0,none⟩=false:=Lib.frozen_of_heap h3 0
 have HZ:Hid (Q Mn w3):=hq
 clear hq h3
 go_wp2
 go_end0
 exact⟨rfl,Mn,w3,HZ.out,rfl⟩
theorem run1_no {r b0 b11 b12:Nat}{path:ByteArray}{V:World}{P:World→Prop}{jj:Int}(c0:V.cell? ⟨b0,0,none⟩=some (.string path))(c1:V.cell? ⟨b11,0,none⟩=some (ptB r))
  (HS:Calls Tryz.prog 14 #[ptB r,.string path] V fun e w'=>e=PE jj∧P w'):
  Calls Tryz.prog 13 #[ptB b11,ptB b0,ptB b12] V fun e w'=>e=PE jj∧P w':=by
 go_enter Tryz.func13,Tryz.ntmps13
 go_wp2_with fail
 refine HS.mono ?_
 rintro e w3 ⟨rfl,hq⟩
 exact⟨rfl,rfl,hq⟩
def SoO (w:World)(path text:ByteArray)(fuel:Int)(n':Int)(E:List (List UInt8×Value))(tv:Nat→Nat→Value)(tcs:List (Nat×Value)):Prop:=∀ (w1 W1 W:World) (r:Nat),Below w.heap.size w w1→RnI w1.heap.size w1 W1 r path text fuel→w1.heap.size≤W1.heap.size→Below W1.heap.size W1 W→
 Calls Tryz.prog 14 #[ptB r,.string path] W fun e w'=>∃ Mn k tb tc,e= .returned (.map (some Mn))∧FnI w1.heap.size W1.heap.size W r Mn k E n' tv tcs tb tc w'
structure Kq (lo hi:Nat)(W w':World):Prop where
 os:w'.os=W.os
 tape:w'.tape=W.tape
 output:w'.output=W.output
 size:W.heap.size≤w'.heap.size
 blk:∀ g,g<W.heap.size→(g<lo∨hi≤g)→w'.heap[g]? =W.heap[g]?
theorem Kq.under {w w1 W w':World}{hi:Nat}(k:Kq w1.heap.size hi W w')(h:Below w.heap.size w W)(hs:w.heap.size≤w1.heap.size):Below w.heap.size w w':=
 ⟨k.os.trans h.os,k.tape.trans h.tape,k.output.trans h.output,Nat.le_trans h.size k.size,fun g hg=>(k.blk g (Nat.lt_of_lt_of_le hg h.size) (.inl (Nat.lt_of_lt_of_le hg hs))).trans (h.block g hg)⟩
def SoN (w:World)(path text:ByteArray)(fuel:Int)(jj:Int):Prop:=∀ (w1 W1 W:World) (r:Nat),Below w.heap.size w w1→RnI w1.heap.size w1 W1 r path text fuel→w1.heap.size≤W1.heap.size→Below W1.heap.size W1 W→
 Calls Tryz.prog 14 #[ptB r,.string path] W fun e w'=>e=PE jj∧Kq w1.heap.size W1.heap.size W w'
theorem run_no {g cap:Nat}{path text:ByteArray}{fuel jj:Int}(w:World)(h:OneF g path text w)(hl:path.size≤100000)(ht:text.size≤100000)(hno:∀ (i:Nat) (hi:i<path.size),path[i]≠47)(hf1:0≤fuel)(hf2:fuel≤100000)(hj:jj≠0)
  (HP:∀ W,Below w.heap.size w W→Calls Tryz.prog 32 #[.string path] W fun e w'=>e= .returned (.bool true)∧Below W.heap.size W w') (HS:SoN w path text fuel jj):
  Calls Tryz.prog 8 #[.slice (some ⟨g,0,none⟩) 1 cap,.string path,.int .i64 fuel] w fun e w'=>e= .returned (.tuple #[.slice none 0 0,.slice none 0 0,.int .i64 0,.int .i64 jj])∧Below w.heap.size w w':=by
 have hmf:∀ (fn:Fn) (first cap:Array Value) (w:World),(Instr.makeFunc fn first cap).run Tryz.prog w= .ok (.func fn first cap) w:=fun _ _ _ _=>rfl
 have hb0:Below w.heap.size w (w.alloc (.cells #[.string path] 9)):=(Below.refl _ w).alloc (Nat.le_refl _) _
 have HC:=check1 g cap (w.alloc (.cells #[.string path] 9)) (h.up hb0) hl ht hno (fun W hW=>HP W (hb0.trans (hW.mono hb0.size)))
 have HB:Hid (Below w.heap.size w (w.alloc (.cells #[.string path] 9))∧(w.alloc (.cells #[.string path] 9)).heap[w.heap.size]? =some (.cells #[.string path] 9 (0,0))):=⟨hb0,heap_alloc_new w _⟩
 have HO:Hid (OneF g path text w):=h
 have HSS:Hid (SoN w path text fuel jj):=HS
 have hs0:(w.alloc (.cells #[.string path] 9)).heap.size=w.heap.size+1:=World.size_alloc _ _
 have hf3:decide (fuel<0)=false:=by rw[decide_eq_false_iff_not];omega
 have hf4:decide ((100000:Int)<fuel)=false:=by rw[decide_eq_false_iff_not];omega
 have hjb:(jj==(0:Int))=false:=beq_eq_false_iff_ne.2 hj
 clear h hb0 HS HP
 go_enter Tryz.func8,Tryz.ntmps8
 go_wp2_with fail
 refine HC.mono ?_
 rintro e w1 ⟨rfl,hb1⟩
 have hbw:Below w.heap.size w w1:=HB.out.1.trans (hb1.mono HB.out.1.size)
 have hx1:=(hb1.block _ (by omega)).trans HB.out.2
 obtain⟨o0,o1,o2⟩:=HO.out.up hbw
 have HN:=newR_one g cap path text false fuel w1 hl o0 o1 o2
 have HW1:Hid (Below w.heap.size w w1∧w1.heap[w.heap.size]? =some (.cells #[.string path] 9 (0,0))∧w.heap.size<w1.heap.size):=⟨hbw,hx1,by have:=hb1.size;omega⟩
 clear hb1 hbw hx1 o0 o1 o2
 go_wp2_with fail
 refine HN.mono ?_
 rintro e W1 ⟨r,rfl,hR⟩
 have hsz1:=hR.bel.size
 obtain⟨W,eW⟩:∃ W,W=(W1.alloc (.cells #[ptB r] 43)).alloc (.cells #[.map none] 46):=⟨_,rfl⟩
 have s1:(W1.alloc (.cells #[ptB r] 43)).heap.size=W1.heap.size+1:=World.size_alloc _ _
 have s2:W.heap.size=W1.heap.size+1+1:=by rw[eW,World.size_alloc,s1]
 have n1:W.heap[W1.heap.size]? =some (.cells #[ptB r] 43 (0,0)):=by rw[eW];exact(heap_al _ _ _ (by omega)).trans (heap_alloc_new W1 _)
 have hbW:Below W1.heap.size W1 W:=by rw[eW];exact((Below.refl _ W1).alloc (Nat.le_refl _) _).alloc (by omega) _
 have hbE:Below W.heap.size W (W.alloc eC):=(Below.refl _ W).alloc (Nat.le_refl _) _
 have hbX:Below W1.heap.size W1 (W.alloc eC):=hbW.trans (hbE.mono (by omega))
 have c0:(W.alloc eC).cell? ⟨w.heap.size,0,none⟩=some (.string path):=by
  rw[Lib.cell_of_heap ((hbX.block _ (by have:=HW1.out.2.2;omega)).trans ((hR.bel.block _ HW1.out.2.2).trans HW1.out.2.1))];rfl
 have c1:(W.alloc eC).cell? ⟨W1.heap.size,0,none⟩=some (ptB r):=by
  rw[Lib.cell_of_heap ((hbE.block _ (by omega)).trans n1)];rfl
 have HE:∀ args W,(callFunc 13 args).run Tryz.prog W= .ok (.enter 13 args) W:=enters_of Tryz.func13 (by kernel_rfl) rfl
 have hsE:(W.alloc eC).heap.size=W.heap.size+1:=World.size_alloc _ _
 have hsA:=HW1.out.1.size
 have hbA:Below w.heap.size w (W.alloc eC):=HW1.out.1.trans ((hR.bel.trans (hbX.mono hsz1)).mono hsA)
 have HT:=trouble_one (w:=W) (k:=jj) (Q:=fun w'=>Below w.heap.size w w') HE ((run1_no (b12:=W1.heap.size+1) c0 c1 (HSS.out w1 W1 (W.alloc eC) r HW1.out.1 hR hsz1 hbX)).mono fun e w' q=>⟨q.1,(q.2.blk W.heap.size (by omega) (.inr (by omega))).trans (heap_alloc_new W _),q.2.under hbA hsA⟩)
 clear hR n1 hbW hbE hbX c0 c1 HW1 HSS HO HB
 have hle:w.heap.size≤W.heap.size:=by omega
 clear hsA hbA
 rw[eW]at HT hle
 go_wp2_with fail
 refine HT.mono ?_
 rintro e w3 ⟨rfl,w4,hq,e3⟩
 have HZ:Hid (Below w.heap.size w w3):=by
  rw[e3]
  exact hq.setCell hle _
 clear hq e3 hle HT
 go_wp2
 refine bodyPost_ret (v:= .tuple #[.slice none 0 0,.slice none 0 0,.int .i64 0,.int .i64 jj]) (by simp[results,Tryz.results8,go_sem]) rfl ⟨rfl,HZ.out⟩
def SRn (b r Mn:Nat)(n':Int)(tw:Value)(V:World):Prop:=V.cell? ⟨b,0,none⟩=some (ptB r)∧V.cell? ⟨b+1,0,none⟩=some (.map (some Mn))∧V.cell? ⟨r,3,none⟩=some (.int .i64 n')∧V.cell? ⟨r,4,none⟩=some tw
set_option linter.unusedSimpArgs false in
theorem run_ok {g cap:Nat}{path text:ByteArray}{fuel n':Int}{E:List (List UInt8×Value)}{tv:Nat→Nat→Value}{tcs:List (Nat×Value)}{ks:List (List UInt8)}{txt:List UInt8→ByteArray}(w:World)(h:OneF g path text w)(hl:path.size≤100000)(ht:text.size≤100000)(hno:∀ (i:Nat) (hi:i<path.size),path[i]≠47)(hf1:0≤fuel)(hf2:fuel≤100000)
  (HP:∀ W,Below w.heap.size w W→Calls Tryz.prog 32 #[.string path] W fun e w'=>e= .returned (.bool true)∧Below W.heap.size W w') (HS:SoO w path text fuel n' E tv tcs) (hT:TabE w) (hn1:0≤n') (hn2:n'≤fuel)
  (hp:∀ ss:List (List UInt8),ss.Perm (strKeys (dE E))→ss.Perm ks) (hs:ks.Pairwise (· < ·)) (hn:0<ks.length) (hnk:ks.length≤1000) (hsz:Maps.size (dE E)≤1000) (hk:∀ key∈ks,key.length≤1000∧∃ v,lkE E key=some v∧WrI v (txt key)):
  Calls Tryz.prog 8 #[.slice (some ⟨g,0,none⟩) 1 cap,.string path,.int .i64 fuel] w fun e w'=>∃ tb tc gb gc,e= .returned (.tuple #[tv tb tc,.slice (some ⟨gb,0,none⟩) ks.length gc,.int .i64 (fuel-n'),.int .i64 0])∧(∀ p∈tcs,w'.cell? ⟨tb,p.1,none⟩=some p.2)∧(∀ j,j<ks.length*2→w'.cell? ⟨gb,j,none⟩=(rowG txt ks)[j]?)∧Below w.heap.size w w':=by
 have hmf:∀ (fn:Fn) (first cap:Array Value) (w:World),(Instr.makeFunc fn first cap).run Tryz.prog w= .ok (.func fn first cap) w:=fun _ _ _ _=>rfl
 have hb0:Below w.heap.size w (w.alloc (.cells #[.string path] 9)):=(Below.refl _ w).alloc (Nat.le_refl _) _
 have HC:=check1 g cap (w.alloc (.cells #[.string path] 9)) (h.up hb0) hl ht hno (fun W hW=>HP W (hb0.trans (hW.mono hb0.size)))
 have HB:Hid (Below w.heap.size w (w.alloc (.cells #[.string path] 9))∧(w.alloc (.cells #[.string path] 9)).heap[w.heap.size]? =some (.cells #[.string path] 9 (0,0))):=⟨hb0,heap_alloc_new w _⟩
 have HO:Hid (OneF g path text w):=h
 have HSS:Hid (SoO w path text fuel n' E tv tcs):=HS
 have HGl:Hid (∀ W Mn k,MV W Mn k E→TabE W→Calls Tryz.prog 15 #[.map (some Mn)] W fun e w'=>∃ g cap,e= .returned (.slice (some ⟨g,0,none⟩) ks.length cap)∧W.heap.size≤g∧(∀ j,j<ks.length*2→w'.cell? ⟨g,j,none⟩=(rowG txt ks)[j]?)∧Below W.heap.size W w'):=fun W Mn k mv hTW=>globals_go W mv hTW hp hs hn hnk hsz hk
 have HTb:Hid (TabE w):=hT
 have hwr:IntKind.i64.wrap (fuel-n')=fuel-n':=wr64 (by omega) (by omega)
 have hs0:(w.alloc (.cells #[.string path] 9)).heap.size=w.heap.size+1:=World.size_alloc _ _
 have hf3:decide (fuel<0)=false:=by rw[decide_eq_false_iff_not];omega
 have hf4:decide ((100000:Int)<fuel)=false:=by rw[decide_eq_false_iff_not];omega
 clear h hb0 HS HP hp hs hk hT hsz
 go_enter Tryz.func8,Tryz.ntmps8
 go_wp2_with fail
 refine HC.mono ?_
 rintro e w1 ⟨rfl,hb1⟩
 have hbw:Below w.heap.size w w1:=HB.out.1.trans (hb1.mono HB.out.1.size)
 have hx1:=(hb1.block _ (by omega)).trans HB.out.2
 obtain⟨o0,o1,o2⟩:=HO.out.up hbw
 have HN:=newR_one g cap path text false fuel w1 hl o0 o1 o2
 have HW1:Hid (Below w.heap.size w w1∧w1.heap[w.heap.size]? =some (.cells #[.string path] 9 (0,0))∧w.heap.size<w1.heap.size):=⟨hbw,hx1,by have:=hb1.size;omega⟩
 clear hb1 hbw hx1 o0 o1 o2
 go_wp2_with fail
 refine HN.mono ?_
 rintro e W1 ⟨r,rfl,hR⟩
 have hsz1:=hR.bel.size
 obtain⟨W,eW⟩:∃ W,W=(W1.alloc (.cells #[ptB r] 43)).alloc (.cells #[.map none] 46):=⟨_,rfl⟩
 have s1:(W1.alloc (.cells #[ptB r] 43)).heap.size=W1.heap.size+1:=World.size_alloc _ _
 have s2:W.heap.size=W1.heap.size+1+1:=by rw[eW,World.size_alloc,s1]
 have n1:W.heap[W1.heap.size]? =some (.cells #[ptB r] 43 (0,0)):=by rw[eW];exact(heap_al _ _ _ (by omega)).trans (heap_alloc_new W1 _)
 have n2:W.heap[W1.heap.size+1]? =some (.cells #[.map none] 46 (0,0)):=by rw[eW,←s1];exact heap_alloc_new _ _
 have hbW:Below W1.heap.size W1 W:=by rw[eW];exact((Below.refl _ W1).alloc (Nat.le_refl _) _).alloc (by omega) _
 have hbE:Below W.heap.size W (W.alloc eC):=(Below.refl _ W).alloc (Nat.le_refl _) _
 have hbX:Below W1.heap.size W1 (W.alloc eC):=hbW.trans (hbE.mono (by omega))
 have c0:(W.alloc eC).cell? ⟨w.heap.size,0,none⟩=some (.string path):=by
  rw[Lib.cell_of_heap ((hbX.block _ (by have:=HW1.out.2.2;omega)).trans ((hR.bel.block _ HW1.out.2.2).trans HW1.out.2.1))];rfl
 have c1:(W.alloc eC).cell? ⟨W1.heap.size,0,none⟩=some (ptB r):=by
  rw[Lib.cell_of_heap ((hbE.block _ (by omega)).trans n1)];rfl
 have HE:∀ args W,(callFunc 13 args).run Tryz.prog W= .ok (.enter 13 args) W:=enters_of Tryz.func13 (by kernel_rfl) rfl
 have hsE:(W.alloc eC).heap.size=W.heap.size+1:=World.size_alloc _ _
 have HT:=trouble_no (w:=W) (Q:=fun w'=>∃ Mn k tb tc w3,FnI w1.heap.size W1.heap.size (W.alloc eC) r Mn k E n' tv tcs tb tc w3∧w'=w3.setCell ⟨W1.heap.size+1,0,none⟩ (.map (some Mn))) HE ((run1_ok (b12:=W1.heap.size+1) (Q:=fun Mn w'=>∃ k tb tc,FnI w1.heap.size W1.heap.size (W.alloc eC) r Mn k E n' tv tcs tb tc w') c0 c1 ((HSS.out w1 W1 (W.alloc eC) r HW1.out.1 hR hsz1 hbX).mono fun e w' q=>by
  obtain⟨Mn,k,tb,tc,q1,q2⟩:=q
  exact⟨Mn,q1,(q2.keep _ (by omega) (.inr (by omega))).trans ((hbE.block _ (by omega)).trans n2),k,tb,tc,q2⟩)).mono fun e w' q=>by
  obtain⟨q1,Mn,w3,⟨k,tb,tc,q2⟩,rfl⟩:=q
  exact⟨q1,(Below.heap_setCell _ ⟨W1.heap.size+1,0,none⟩ _ _ (by show W.heap.size≠W1.heap.size+1;omega)).trans ((q2.keep _ (by omega) (.inr (by omega))).trans (heap_alloc_new W _)),Mn,k,tb,tc,w3,q2,rfl⟩)
 have HBX:Hid (Below w.heap.size w (W.alloc eC)∧W.heap[W1.heap.size]? =some (.cells #[ptB r] 43 (0,0))∧W.heap[W1.heap.size+1]? =some (.cells #[.map none] 46 (0,0))∧Below W.heap.size W (W.alloc eC)∧w.heap.size<w1.heap.size):=⟨HW1.out.1.trans ((hR.bel.trans (hbX.mono (by omega))).mono HW1.out.1.size),n1,n2,hbE,HW1.out.2.2⟩
 clear hR n1 n2 hbW hbE hbX c0 c1 HW1 HSS HO HB
 rw[eW]at HT
 go_wp2_with fail
 refine HT.mono ?_
 rintro e w5 ⟨rfl,w4,⟨Mn,k,tb,tc,w3,hF,rfl⟩,rfl⟩
 rw[←eW]at hF ⊢
 obtain⟨V,eV⟩:∃ V,V=(w3.setCell ⟨W1.heap.size+1,0,none⟩ (.map (some Mn))).setCell ⟨W.heap.size,0,none⟩ (.int .i64 0):=⟨_,rfl⟩
 have hsz3:=hF.size
 have oV:∀ g,g≠W1.heap.size+1→g≠W.heap.size→V.heap[g]? =w3.heap[g]? :=fun g h1 h2=>by rw[eV,Below.heap_setCell _ ⟨W.heap.size,0,none⟩ _ g h2,Below.heap_setCell _ ⟨W1.heap.size+1,0,none⟩ _ g h1]
 have sV:V.heap.size=w3.heap.size:=by rw[eV,size_set,size_set]
 have k1:=(hF.keep W1.heap.size (by omega) (.inr (Nat.le_refl _))).trans ((HBX.out.2.2.2.1.block _ (by omega)).trans HBX.out.2.1)
 have k2:=(hF.keep (W1.heap.size+1) (by omega) (.inr (by omega))).trans ((HBX.out.2.2.2.1.block _ (by omega)).trans HBX.out.2.2.1)
 have d1:V.cell? ⟨W1.heap.size,0,none⟩=some (ptB r):=by rw[Lib.cell_of_heap ((oV _ (by omega) (by omega)).trans k1)];rfl
 have d2:V.cell? ⟨W1.heap.size+1,0,none⟩=some (.map (some Mn)):=by
  have hx:=heap_setCell_same w3 (W1.heap.size+1) 0 _ 46 (.map (some Mn)) k2
  rw[Lib.cell_of_heap (by rw[eV,Below.heap_setCell _ ⟨W.heap.size,0,none⟩ _ _ (by show W1.heap.size+1≠W.heap.size;omega)];exact hx)]
  rfl
 have hlr:=hF.lr
 have hrV:=oV r (by omega) (by omega)
 have d3:V.cell? ⟨r,3,none⟩=some (.int .i64 n'):=(World.cell?_of_block hrV).trans hF.r3
 have d4:V.cell? ⟨r,4,none⟩=some (tv tb tc):=(World.cell?_of_block hrV).trans hF.r4
 have hMl:=hF.mv.lt
 have hBV:Below w.heap.size w V:=by
  have b1:Below w.heap.size w w3:=⟨hF.os.trans HBX.out.1.os,hF.tape.trans HBX.out.1.tape,hF.output.trans HBX.out.1.output,Nat.le_trans HBX.out.1.size hF.size,fun g hg=>(hF.keep g (by have:=HBX.out.1.size;omega) (.inl (by have:=HBX.out.2.2.2.2;omega))).trans (HBX.out.1.block g hg)⟩
  have:=HBX.out.2.2.2.2
  rw[eV]
  exact(b1.setCell (p:=⟨W1.heap.size+1,0,none⟩) (by show w.heap.size≤W1.heap.size+1;omega) _).setCell (p:=⟨W.heap.size,0,none⟩) (by show w.heap.size≤W.heap.size;omega) _
 have mvV:MV V Mn k E:=by
  have hM1:Mn≠W1.heap.size+1:=fun e=>by
   obtain⟨es,clock,hb,_⟩:=hF.mv
   rw[e,k2]at hb
   cases hb
  have kE:=(hF.keep W.heap.size (by omega) (.inr (by omega))).trans (heap_alloc_new W eC)
  have hM2:Mn≠W.heap.size:=fun e=>by
   obtain⟨es,clock,hb,_⟩:=hF.mv
   rw[e,kE]at hb
   cases hb
  exact omapV hF.mv (oV Mn hM1 hM2)
 have HG:=HGl.out V.drew Mn k (omapV mvV rfl) ((HTb.out.below hBV HTb.out.lt).of_block rfl)
 have HTg:Hid (∀ V',Below V.heap.size V V'→∀ p∈tcs,V'.cell? ⟨tb,p.1,none⟩=some p.2):=fun V' hV' p hp=>by
  have h1:=hF.lt (fun e=>by rw[e]at hp;cases hp)
  have h2:=hF.tg p hp
  have h3:V.cell? ⟨tb,p.1,none⟩=some p.2:=(World.cell?_of_block (oV tb (by omega) (by omega))).trans h2
  exact(hV'.cell (World.block_lt_of_cell? V _ h3)).trans h3
 have HVV:Hid (Below w.heap.size w V):=hBV
 rw[←eV]
 clear hF oV k1 k2 hrV hBV mvV HT HBX eW eV
 go_wp2_with fail
 have HSR:Hid (SRn W1.heap.size r Mn n' (tv tb tc) V.drew):=⟨d1,d2,d3,d4⟩
 refine wp_region_held_drew (S:=SRn W1.heap.size r Mn n' (tv tb tc)) (by kernel_rfl) HSR.out (fun hHeld=>?_)
 refine wpAnyH_take (i:=0) (v:=ptB r) rfl (by kernel_rfl) (by kernel_rfl) (by kernel_rfl) (fun _ _ _ h=>h) (Or.inl ⟨by rfl,?_⟩) (by assumption) ?_
 ·intro V' hSV
  obtain⟨l0,l1,l2,l3⟩:=hSV
  go_simp
  try with_reducible rfl
 try simp only[Act.put,List.setIfInBounds_toArray,List.set_cons_zero,List.set_cons_succ]
 refine wpAnyH_take (i:=1) (v:=ptB r) rfl (by kernel_rfl) (by kernel_rfl) (by kernel_rfl) (fun _ _ _ h=>h) (Or.inl ⟨by rfl,?_⟩) (by assumption) ?_
 ·intro V' hSV
  obtain⟨l0,l1,l2,l3⟩:=hSV
  go_simp
  try with_reducible rfl
 try simp only[Act.put,List.setIfInBounds_toArray,List.set_cons_zero,List.set_cons_succ]
 refine wpAnyH_take (i:=2) (v:= .pointer (some ⟨r,4,none⟩)) rfl (by kernel_rfl) (by kernel_rfl) (by kernel_rfl) (fun _ _ _ h=>h) (Or.inl ⟨by rfl,?_⟩) (by assumption) ?_
 ·intro V' hSV
  obtain⟨l0,l1,l2,l3⟩:=hSV
  go_simp
  try with_reducible rfl
 try simp only[Act.put,List.setIfInBounds_toArray,List.set_cons_zero,List.set_cons_succ]
 refine wpAnyH_take (i:=3) (v:=tv tb tc) rfl (by kernel_rfl) (by kernel_rfl) (by kernel_rfl) (fun _ _ _ h=>h) (Or.inl ⟨by rfl,?_⟩) (by assumption) ?_
 ·intro V' hSV
  obtain⟨l0,l1,l2,l3⟩:=hSV
  go_simp
  try with_reducible rfl
 try simp only[Act.put,List.setIfInBounds_toArray,List.set_cons_zero,List.set_cons_succ]
 refine wpAnyH_take (i:=4) (v:= .map (some Mn)) rfl (by kernel_rfl) (by kernel_rfl) (by kernel_rfl) (fun _ _ _ h=>h) (Or.inl ⟨by rfl,?_⟩) (by assumption) ?_
 ·intro V' hSV
  obtain⟨l0,l1,l2,l3⟩:=hSV
  go_simp
  try with_reducible rfl
 try simp only[Act.put,List.setIfInBounds_toArray,List.set_cons_zero,List.set_cons_succ]
 refine wpAnyH_take (i:=6) (v:= .int .i64 fuel) rfl (by kernel_rfl) (by kernel_rfl) (by kernel_rfl) (fun _ _ _ h=>h) (Or.inl ⟨by rfl,?_⟩) (by assumption) ?_
 ·intro V' hSV
  obtain⟨l0,l1,l2,l3⟩:=hSV
  go_simp
  try with_reducible rfl
 try simp only[Act.put,List.setIfInBounds_toArray,List.set_cons_zero,List.set_cons_succ]
 refine wpAnyH_take (i:=7) (v:=ptB r) rfl (by kernel_rfl) (by kernel_rfl) (by kernel_rfl) (fun _ _ _ h=>h) (Or.inl ⟨by rfl,?_⟩) (by assumption) ?_
 ·intro V' hSV
  obtain⟨l0,l1,l2,l3⟩:=hSV
  go_simp
  try with_reducible rfl
 try simp only[Act.put,List.setIfInBounds_toArray,List.set_cons_zero,List.set_cons_succ]
 refine wpAnyH_take (i:=8) (v:=ptB r) rfl (by kernel_rfl) (by kernel_rfl) (by kernel_rfl) (fun _ _ _ h=>h) (Or.inl ⟨by rfl,?_⟩) (by assumption) ?_
 ·intro V' hSV
  obtain⟨l0,l1,l2,l3⟩:=hSV
  go_simp
  try with_reducible rfl
 try simp only[Act.put,List.setIfInBounds_toArray,List.set_cons_zero,List.set_cons_succ]
 refine wpAnyH_take (i:=9) (v:= .pointer (some ⟨r,3,none⟩)) rfl (by kernel_rfl) (by kernel_rfl) (by kernel_rfl) (fun _ _ _ h=>h) (Or.inl ⟨by rfl,?_⟩) (by assumption) ?_
 ·intro V' hSV
  obtain⟨l0,l1,l2,l3⟩:=hSV
  go_simp
  try with_reducible rfl
 try simp only[Act.put,List.setIfInBounds_toArray,List.set_cons_zero,List.set_cons_succ]
 refine wpAnyH_take (i:=10) (v:= .int .i64 n') rfl (by kernel_rfl) (by kernel_rfl) (by kernel_rfl) (fun _ _ _ h=>h) (Or.inl ⟨by rfl,?_⟩) (by assumption) ?_
 ·intro V' hSV
  obtain⟨l0,l1,l2,l3⟩:=hSV
  go_simp
  try with_reducible rfl
 try simp only[Act.put,List.setIfInBounds_toArray,List.set_cons_zero,List.set_cons_succ]
 refine wpAnyH_take (i:=11) (v:= .int .i64 (fuel-n')) rfl (by kernel_rfl) (by kernel_rfl) (by kernel_rfl) (fun _ _ _ h=>h) (Or.inl ⟨by rfl,?_⟩) (by assumption) ?_
 ·intro V' hSV
  obtain⟨l0,l1,l2,l3⟩:=hSV
  go_simp
  try with_reducible rfl
 try simp only[Act.put,List.setIfInBounds_toArray,List.set_cons_zero,List.set_cons_succ]
 refine wpAnyH_ready (rs:=[5]) (by kernel_rfl) (by simp) (AllReadyH.cons rfl (fun K hK=>?_) AllReadyH.nil)
 go_simp
 refine HG.mono ?_
 rintro e V6 ⟨gb,gc,rfl,hgb,hrow,hb6⟩
 have hb7:Below V.heap.size V V6:=⟨hb6.os,hb6.tape,hb6.output,hb6.size,hb6.block⟩
 have hS6:SRn W1.heap.size r Mn n' (tv tb tc) V6:=⟨(hb7.cell (World.block_lt_of_cell? V _ d1)).trans d1,(hb7.cell (World.block_lt_of_cell? V _ d2)).trans d2,(hb7.cell (World.block_lt_of_cell? V _ d3)).trans d3,(hb7.cell (World.block_lt_of_cell? V _ d4)).trans d4⟩
 have HZ:Hid ((∀ p∈tcs,V6.cell? ⟨tb,p.1,none⟩=some p.2)∧(∀ j,j<ks.length*2→V6.cell? ⟨gb,j,none⟩=(rowG txt ks)[j]?)∧Below w.heap.size w V6):=⟨HTg.out V6 hb7,hrow,HVV.out.trans (hb7.mono HVV.out.size)⟩
 refine hK.out _ _ hS6 (fun hHeld=>?_)
 clear hK K hrow hb6 hb7 hS6
 try simp only[Act.put,List.setIfInBounds_toArray,List.set_cons_zero,List.set_cons_succ]
 refine wpAnyH_take (i:=12) (v:=tv tb tc) rfl (by kernel_rfl) (by kernel_rfl) (by kernel_rfl) (fun _ _ _ h=>h) (Or.inl ⟨by rfl,?_⟩) (by assumption) ?_
 ·intro V' hSV
  obtain⟨l0,l1,l2,l3⟩:=hSV
  go_simp
  try with_reducible rfl
 try simp only[Act.put,List.setIfInBounds_toArray,List.set_cons_zero,List.set_cons_succ]
 refine wpAnyH_take (i:=13) (v:= .slice (some ⟨gb,0,none⟩) ks.length gc) rfl (by kernel_rfl) (by kernel_rfl) (by kernel_rfl) (fun _ _ _ h=>h) (Or.inl ⟨by rfl,?_⟩) (by assumption) ?_
 ·intro V' hSV
  obtain⟨l0,l1,l2,l3⟩:=hSV
  go_simp
  try with_reducible rfl
 try simp only[Act.put,List.setIfInBounds_toArray,List.set_cons_zero,List.set_cons_succ]
 refine wpAnyH_take (i:=14) (v:= .int .i64 (fuel-n')) rfl (by kernel_rfl) (by kernel_rfl) (by kernel_rfl) (fun _ _ _ h=>h) (Or.inl ⟨by rfl,?_⟩) (by assumption) ?_
 ·intro V' hSV
  obtain⟨l0,l1,l2,l3⟩:=hSV
  go_simp
  try with_reducible rfl
 try simp only[Act.put,List.getElem_toArray,List.getElem_cons_succ,List.getElem_cons_zero,List.setIfInBounds_toArray,List.set_cons_zero,List.set_cons_succ]
 refine wpAnyH_take (i:=15) (v:= .int .i64 0) rfl (by kernel_rfl) (by kernel_rfl) (by kernel_rfl) (fun _ _ _ h=>h) (Or.inl ⟨by rfl,?_⟩) (by assumption) ?_
 ·intro V' hSV
  obtain⟨l0,l1,l2,l3⟩:=hSV
  go_simp
  try with_reducible rfl
 try simp only[Act.put,List.getElem_toArray,List.getElem_cons_succ,List.getElem_cons_zero,List.setIfInBounds_toArray,List.set_cons_zero,List.set_cons_succ]
 refine wpAnyH_done (by kernel_rfl) ?_ _
 try simp only[Act.put,List.getElem_toArray,List.getElem_cons_succ,List.getElem_cons_zero,List.setIfInBounds_toArray,List.set_cons_zero,List.set_cons_succ]
 go_wp2
 refine bodyPost_ret (v:= .tuple #[tv tb tc,.slice (some ⟨gb,0,none⟩) ks.length gc,.int .i64 (fuel-n'),.int .i64 0]) (by simp[results,Tryz.results8,go_sem]) rfl ?_
 exact⟨tb,tc,gb,gc,rfl,HZ.out.1,HZ.out.2.1,HZ.out.2.2⟩
end Go.Proofs.YthfgpkdbclogpaaGreatDoor
