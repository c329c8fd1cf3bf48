/- 17. -/
import Derived.Deep.AppendLies
import Derived.Test.YthfgpkdbclogpaaGreatDoorTx16
set_option maxHeartbeats 40000000
set_option maxRecDepth 100000
namespace Go.Proofs.YthfgpkdbclogpaaGreatDoor
open Go.RowKit Go.Shelf
abbrev kName:ByteArray:=⟨#[110,97,109,101]⟩
abbrev bT:ByteArray:=⟨#[116]⟩
attribute [local go_sem] ta_tx
theorem has1 (g cap:Nat)(s:ByteArray)(w:World)(h:w.cell? ⟨g,0,none⟩=some (.string s)):Calls Tryz.prog 97 #[.slice (some ⟨g,0,none⟩) 1 cap,.string s] w fun e w'=>e= .returned (.bool true)∧w'=w:=by
 have HI:Calls Tryz.prog 132 #[.slice (some ⟨g,0,none⟩) 1 cap,.string s] w fun e w'=>e= .returned (.int .i64 0)∧w'=w:=by
  go_enter Tryz.func132,Tryz.ntmps132
  go_wp2_with fail
  refine wp_loop_rounds 1 ?_
  simp only[Code.rounds]
  go_wp2
  go_ret
  exact⟨rfl,rfl⟩
 go_enter Tryz.func97,Tryz.ntmps97
 go_wp2_with fail
 refine HI.mono ?_
 rintro e w' ⟨rfl,rfl⟩
 go_wp2
 go_ret
 exact⟨rfl,rfl⟩
theorem noT (fv:Value)(w:World):Calls Tryz.prog 98 #[.slice none 0 0,fv] w fun e w'=>e= .returned (.bool false)∧w'=w:=by
 have HI:Calls Tryz.prog 133 #[.slice none 0 0,fv] w fun e w'=>e= .returned (.int .i64 (-1))∧w'=w:=by
  go_enter Tryz.func133,Tryz.ntmps133
  go_wp2_with fail
  refine wp_loop_rounds 1 ?_
  simp only[Code.rounds]
  go_wp2
  go_ret
  exact⟨rfl,rfl⟩
 go_enter Tryz.func98,Tryz.ntmps98
 go_wp2_with fail
 refine HI.mono ?_
 rintro e w' ⟨rfl,rfl⟩
 go_wp2
 go_ret
 exact⟨rfl,rfl⟩
theorem asText_any (s:ByteArray)(w:World):Calls Tryz.prog 51 #[txV s] w fun e w'=>e= .returned (.string s)∧w'=w:=by
 have HG:=gup_any false 8 w
 go_enter Tryz.func51,Tryz.ntmps51
 go_wp2_with fail
 refine HG.mono ?_
 rintro e w' ⟨rfl,rfl⟩
 go_wp2
 go_ret
 exact⟨rfl,rfl⟩
structure HnI (gv gn:Nat)(w:World):Prop where
 v:w.cell? ⟨gv,0,none⟩=some (txV bT)
 n:w.cell? ⟨gn,0,none⟩=some (.string kName)
theorem HnI.up {gv gn:Nat}{w w':World}(h:HnI gv gn w)(hb:Below w.heap.size w w'):HnI gv gn w':=⟨(hb.cell (World.block_lt_of_cell? w _ h.v)).trans h.v,(hb.cell (World.block_lt_of_cell? w _ h.n)).trans h.n⟩
abbrev hnV (gv cv gn cn:Nat):Value:= .agg #[.slice (some ⟨gv,0,none⟩) 1 cv,.slice (some ⟨gn,0,none⟩) 1 cn]
abbrev tgC:Array Value:=#[.string bT,.slice none 0 0,.slice none 0 0,.slice none 0 0,.slice none 0 0]
theorem szTg:(Tryz.prog.info? 39).map (·.size)=some 5:=by kernel_rfl
abbrev tg0:Array Value:=#[.string ⟨#[]⟩,.slice none 0 0,.slice none 0 0,.slice none 0 0,.slice none 0 0]
theorem newT1 (gv cv gn cn:Nat)(w:World)(h:HnI gv gn w):Calls Tryz.prog 96 #[hnV gv cv gn cn] w fun e w'=>e= .returned (.agg tgC)∧Below w.heap.size w w':=by
 have hA:=fun W=>asText_any bT W
 obtain⟨W3,e3⟩:∃ W3,W3=((w.alloc (.cells #[.slice (some ⟨gv,0,none⟩) 1 cv,.slice (some ⟨gn,0,none⟩) 1 cn] 129)).alloc (.cells tg0 39)).alloc (.cells tg0 39):=⟨_,rfl⟩
 have s1:(w.alloc (.cells #[.slice (some ⟨gv,0,none⟩) 1 cv,.slice (some ⟨gn,0,none⟩) 1 cn] 129)).heap.size=w.heap.size+1:=World.size_alloc _ _
 have s2:((w.alloc (.cells #[.slice (some ⟨gv,0,none⟩) 1 cv,.slice (some ⟨gn,0,none⟩) 1 cn] 129)).alloc (.cells tg0 39)).heap.size=w.heap.size+1+1:=by rw[World.size_alloc,s1]
 have b1:W3.heap[w.heap.size]? =some (.cells #[.slice (some ⟨gv,0,none⟩) 1 cv,.slice (some ⟨gn,0,none⟩) 1 cn] 129 (0,0)):=by rw[e3];exact(heap_al _ _ _ (by omega)).trans ((heap_al _ _ _ (by omega)).trans (heap_alloc_new w _))
 have b2:W3.heap[w.heap.size+1]? =some (.cells tg0 39 (0,0)):=by rw[e3,←s1];exact(heap_al _ _ _ (by omega)).trans (heap_alloc_new _ _)
 have b3:W3.heap[w.heap.size+1+1]? =some (.cells tg0 39 (0,0)):=by rw[e3,←s2];exact heap_alloc_new _ _
 have hb:Below w.heap.size w W3:=by rw[e3];exact(((Below.refl _ w).alloc (Nat.le_refl _) _).alloc (by omega) _).alloc (by omega) _
 obtain⟨c0,c1⟩:=h.up hb
 have p0:W3.cell? ⟨w.heap.size,0,none⟩=some (.slice (some ⟨gv,0,none⟩) 1 cv):=by rw[Lib.cell_of_heap b1];rfl
 have p1:W3.cell? ⟨w.heap.size,1,none⟩=some (.slice (some ⟨gn,0,none⟩) 1 cn):=by rw[Lib.cell_of_heap b1];rfl
 have q0:W3.cell? ⟨w.heap.size+1+1,0,none⟩=some (.string ⟨#[]⟩):=by rw[Lib.cell_of_heap b3];rfl
 have q1:W3.cell? ⟨w.heap.size+1+1,1,none⟩=some (.slice none 0 0):=by rw[Lib.cell_of_heap b3];rfl
 have q2:W3.cell? ⟨w.heap.size+1+1,2,none⟩=some (.slice none 0 0):=by rw[Lib.cell_of_heap b3];rfl
 have q3:W3.cell? ⟨w.heap.size+1+1,3,none⟩=some (.slice none 0 0):=by rw[Lib.cell_of_heap b3];rfl
 have q4:W3.cell? ⟨w.heap.size+1+1,4,none⟩=some (.slice none 0 0):=by rw[Lib.cell_of_heap b3];rfl
 have r0:W3.cell? ⟨w.heap.size+1,0,none⟩=some (.string ⟨#[]⟩):=by rw[Lib.cell_of_heap b2];rfl
 have r1:W3.cell? ⟨w.heap.size+1,1,none⟩=some (.slice none 0 0):=by rw[Lib.cell_of_heap b2];rfl
 have r2:W3.cell? ⟨w.heap.size+1,2,none⟩=some (.slice none 0 0):=by rw[Lib.cell_of_heap b2];rfl
 have r3:W3.cell? ⟨w.heap.size+1,3,none⟩=some (.slice none 0 0):=by rw[Lib.cell_of_heap b2];rfl
 have r4:W3.cell? ⟨w.heap.size+1,4,none⟩=some (.slice none 0 0):=by rw[Lib.cell_of_heap b2];rfl
 have f0:∀ i,W3.frozen? ⟨w.heap.size+1+1,i,none⟩=false:=fun i=>Lib.frozen_of_heap b3 i
 have g0:∀ i,W3.frozen? ⟨w.heap.size+1,i,none⟩=false:=fun i=>Lib.frozen_of_heap b2 i
 have HB:Hid (Below w.heap.size w W3∧W3.heap[w.heap.size+1]? =some (.cells tg0 39 (0,0))):=⟨hb,b2⟩
 clear hb b1 b2 b3 h s1 s2
 go_enter Tryz.func96,Tryz.ntmps96
 go_wp2_with fail
 rw[←e3]
 clear e3
 refine wp_loop_rounds 2 ?_
 simp only[Code.rounds]
 go_wp2_with fail
 refine(hA _).mono ?_
 rintro e w' ⟨rfl,rfl⟩
 have hx:(w'.setCell ⟨w.heap.size+1+1,0,none⟩ (.string bT)).heap[w.heap.size+1]? =some (.cells tg0 39 (0,0)):=(Below.heap_setCell _ ⟨w.heap.size+1+1,0,none⟩ _ _ (by show w.heap.size+1≠w.heap.size+1+1;omega)).trans HB.out.2
 have hl0:=(stN hx (c:=[.string bT,.slice none 0 0,.slice none 0 0,.slice none 0 0,.slice none 0 0]) rfl szTg (by simp[Value.oneCell']) Tryz.underlying39 rfl).2
 rw[sets5]at hl0
 have HL:Hid _:=hl0
 clear hl0 hx
 go_wp2
 refine bodyPost_ret (v:= .agg tgC) (res_one Tryz.results96 _ _ rfl HL.out) rfl ⟨rfl,?_⟩
 exact(((((HB.out.1.setCell (p:=⟨w.heap.size+1+1,0,none⟩) (by show w.heap.size≤w.heap.size+1+1;omega) _).setCell (p:=⟨w.heap.size+1,0,none⟩) (Nat.le_succ _) _).setCell (p:=⟨w.heap.size+1,1,none⟩) (Nat.le_succ _) _).setCell (p:=⟨w.heap.size+1,2,none⟩) (Nat.le_succ _) _).setCell (p:=⟨w.heap.size+1,3,none⟩) (Nat.le_succ _) _).setCell (p:=⟨w.heap.size+1,4,none⟩) (Nat.le_succ _) _
theorem infTg:(Tryz.prog.info? 39).map (fun i=>(i.zero,i.size,i.bytes))=some (some (.agg tg0),5,112):=by kernel_rfl
theorem nameT:nameOk bT=true:=by decide +kernel
def SRu (b:Nat)(V:World):Prop:=V.cell? ⟨b,0,none⟩=some (.string bT)∧V.cell? ⟨b,1,none⟩=some (.slice none 0 0)∧V.cell? ⟨b,2,none⟩=some (.slice none 0 0)∧V.cell? ⟨b,3,none⟩=some (.slice none 0 0)∧V.cell? ⟨b,4,none⟩=some (.slice none 0 0)
theorem SRu.up {b:Nat}{X Y:World}(h:SRu b X)(hk:Y.heap[b]? =X.heap[b]?):SRu b Y:=
 ⟨(World.cell?_of_block hk).trans h.1,(World.cell?_of_block hk).trans h.2.1,(World.cell?_of_block hk).trans h.2.2.1,(World.cell?_of_block hk).trans h.2.2.2.1,(World.cell?_of_block hk).trans h.2.2.2.2⟩
set_option linter.unusedSimpArgs false in
theorem rule1 (r gv cv gn cn:Nat){a b c:Value}{n:Int}(w:World)(h:HnI gv gn w)(hr:w.heap[r]? =some (.cells #[a,b,c,.int .i64 n,.slice none 0 0] 52 (0,0))):
  Calls Tryz.prog 58 #[ptB r,hnV gv cv gn cn] w fun e w'=>e= .returned (txV bT)∧KP r w w'∧∃ tb tc,w.heap.size≤tb∧w'.heap[r]? =some (.cells #[a,b,c,.int .i64 n,.slice (some ⟨tb,0,none⟩) 1 tc] 52 (0,0))∧w'.cell? ⟨tb,0,none⟩=some (.string bT):=by
 obtain⟨i0,hi,hz0,hz1,hz2⟩:=info_p infTg
 have hmf:∀ (fn:Fn) (first cap:Array Value) (w:World),(Instr.makeFunc fn first cap).run Tryz.prog w= .ok (.func fn first cap) w:=fun _ _ _ _=>rfl
 have HG:=fun k W=>gup_any false k W
 have hlr:=(Array.getElem?_eq_some_iff.1 hr).1
 obtain⟨W1,e1⟩:∃ W1,W1=w.alloc (.cells #[.slice (some ⟨gv,0,none⟩) 1 cv,.slice (some ⟨gn,0,none⟩) 1 cn] 129):=⟨_,rfl⟩
 have hb1:Below w.heap.size w W1:=by rw[e1];exact(Below.refl _ w).alloc (Nat.le_refl _) _
 have x1:W1.heap[w.heap.size]? =some (.cells #[.slice (some ⟨gv,0,none⟩) 1 cv,.slice (some ⟨gn,0,none⟩) 1 cn] 129 (0,0)):=by rw[e1];exact heap_alloc_new w _
 have p0:W1.cell? ⟨w.heap.size,0,none⟩=some (.slice (some ⟨gv,0,none⟩) 1 cv):=by rw[Lib.cell_of_heap x1];rfl
 have p1:W1.cell? ⟨w.heap.size,1,none⟩=some (.slice (some ⟨gn,0,none⟩) 1 cn):=by rw[Lib.cell_of_heap x1];rfl
 have HNT:=newT1 gv cv gn cn W1 (h.up hb1)
 have HF:Hid (Below w.heap.size w W1∧W1.heap[w.heap.size]? =some (.cells #[.slice (some ⟨gv,0,none⟩) 1 cv,.slice (some ⟨gn,0,none⟩) 1 cn] 129 (0,0))∧HnI gv gn W1∧W1.heap[r]? =some (.cells #[a,b,c,.int .i64 n,.slice none 0 0] 52 (0,0))):=⟨hb1,x1,h.up hb1,(hb1.block _ hlr).trans hr⟩
 clear hb1 x1 h hr
 rw[e1]at HNT
 go_enter Tryz.func58,Tryz.ntmps58
 go_wp2_with fail
 refine(HG 8 _).mono ?_
 rintro e w' ⟨rfl,rfl⟩
 go_wp2_with fail
 refine HNT.mono ?_
 rintro e W2 ⟨rfl,hb2⟩
 rw[←e1]at hb2
 have hs1:W1.heap.size=w.heap.size+1:=by rw[e1];exact World.size_alloc _ _
 have hs2:=hb2.size
 obtain⟨W3,e3⟩:∃ W3,W3=W2.alloc (.cells tgC 39):=⟨_,rfl⟩
 have hb3:Below W2.heap.size W2 W3:=by rw[e3];exact(Below.refl _ W2).alloc (Nat.le_refl _) _
 have hb13:Below W1.heap.size W1 W3:=hb2.trans (hb3.mono hs2)
 have x3:W3.heap[W2.heap.size]? =some (.cells tgC 39 (0,0)):=by rw[e3];exact heap_alloc_new W2 _
 have y3:=(hb13.block _ (Array.getElem?_eq_some_iff.1 HF.out.2.1).1).trans HF.out.2.1
 have r3:=(hb13.block _ (Array.getElem?_eq_some_iff.1 HF.out.2.2.2).1).trans HF.out.2.2.2
 have hn3:=HF.out.2.2.1.up hb13
 have z0:W3.cell? ⟨W2.heap.size,0,none⟩=some (.string bT):=by rw[Lib.cell_of_heap x3];rfl
 have z1:W3.cell? ⟨w.heap.size,1,none⟩=some (.slice (some ⟨gn,0,none⟩) 1 cn):=by rw[Lib.cell_of_heap y3];rfl
 have z4:W3.cell? ⟨r,4,none⟩=some (.slice none 0 0):=by rw[Lib.cell_of_heap r3];rfl
 have HC:=has1 gn cn kName W3 hn3.n
 have HIs:=IsName_any bT W3 (by decide)
 rw[nameT]at HIs
 have HNo:=fun fv=>noT fv W3
 have HW3:Hid (W3.heap[W2.heap.size]? =some (.cells tgC 39 (0,0))∧W3.heap[r]? =some (.cells #[a,b,c,.int .i64 n,.slice none 0 0] 52 (0,0))∧Below w.heap.size w W3):=⟨x3,r3,HF.out.1.trans (hb13.mono HF.out.1.size)⟩
 have hrl:r≠W2.heap.size:=by omega
 clear hb2 hb3 hb13 x3 y3 r3 hn3 HF HNT e1
 have hs3:W3.heap.size=W2.heap.size+1:=by rw[e3];exact World.size_alloc _ _
 rw[e3]at z0 z1 z4 HC HIs HNo
 go_wp2_with fail
 refine HC.mono ?_
 rintro e w' ⟨rfl,rfl⟩
 rw[←e3]at *
 go_wp2_with fail
 refine(HG 2 _).mono ?_
 rintro e w' ⟨rfl,rfl⟩
 go_wp2_with fail
 refine HIs.mono ?_
 rintro e w' ⟨rfl,rfl⟩
 go_wp2_with fail
 refine(HG 1 _).mono ?_
 rintro e w' ⟨rfl,rfl⟩
 go_wp2_with fail
 refine(HNo _).mono ?_
 rintro e w' ⟨rfl,rfl⟩
 go_wp2_with fail
 refine(HG 6 _).mono ?_
 rintro e w' ⟨rfl,rfl⟩
 go_wp2_with fail
 refine(HG 2 _).mono ?_
 rintro e V ⟨rfl,hV⟩
 subst hV
 have hS0:SRu W2.heap.size V.drew:=by
  refine⟨z0,?_,?_,?_,?_⟩
  all_goals
   rw[Lib.cell_of_heap (w:=V.drew) HW3.out.1]
   rfl
 obtain⟨V5,e5⟩:∃ V5,V5=(V.alloc (.cells #[.string bT,.slice none 0 0,.slice none 0 0,.slice none 0 0,.slice none 0 0] 39)).drew:=⟨_,rfl⟩
 have hb5:Below V.heap.size V V5:=by rw[e5];exact((Below.refl _ V).alloc (Nat.le_refl _) _).drew
 have r5:=(hb5.block _ (Array.getElem?_eq_some_iff.1 HW3.out.2.1).1).trans HW3.out.2.1
 have hS5:SRu W2.heap.size V5:=hS0.up (hb5.block _ (by omega))
 have z5:V5.cell? ⟨r,4,none⟩=some (.slice none 0 0):=by rw[Lib.cell_of_heap r5];rfl
 have HNw:Hid (∀ (j:Nat) (u:Value),([.string bT,.slice none 0 0,.slice none 0 0,.slice none 0 0,.slice none 0 0]:List Value)[j]? =some u→V5.cell? ((⟨W2.heap.size+1,0,none⟩:Addr).add j)=some u):=fun j u hu=>by rw[e5,←hs3];exact World.news_of_block (w:=(V.alloc (.cells #[.string bT,.slice none 0 0,.slice none 0 0,.slice none 0 0,.slice none 0 0] 39)).drew) (heap_alloc_new V _) j u hu
 have HSS:Hid (SRu W2.heap.size V.drew):=hS0
 have hs5:V5.heap.size=W2.heap.size+1+1:=by rw[e5,←hs3];exact World.size_alloc _ _
 have HV5:Hid (Below w.heap.size w V5∧SRu W2.heap.size V5∧V5.heap[r]? =some (.cells #[a,b,c,.int .i64 n,.slice none 0 0] 52 (0,0))∧V5.heap.size=W2.heap.size+1+1):=⟨HW3.out.2.2.trans (hb5.mono HW3.out.2.2.size),hS5,r5,hs5⟩
 clear hb5 hS5 r5 hS0 hs5
 go_wp2_with fail
 refine wp_region_held_drew (S:=SRu W2.heap.size) (by kernel_rfl) HSS.out (fun hHeld=>?_)
 refine wpAnyH_take (i:=0) (v:=ptB r) rfl (by kernel_rfl) (by kernel_rfl) (by kernel_rfl) (fun _ _ _ h=>h) (Or.inl ⟨by rfl,?_⟩) (by assumption) ?_
 ·intro V' hSV
  obtain⟨l0,l1,l2,l3,l4⟩:=hSV
  go_simp
  try with_reducible rfl
 try simp only[Act.put,List.setIfInBounds_toArray,List.set_cons_zero,List.set_cons_succ]
 refine wpAnyH_take (i:=1) (v:=ptB r) rfl (by kernel_rfl) (by kernel_rfl) (by kernel_rfl) (fun _ _ _ h=>h) (Or.inl ⟨by rfl,?_⟩) (by assumption) ?_
 ·intro V' hSV
  obtain⟨l0,l1,l2,l3,l4⟩:=hSV
  go_simp
  try with_reducible rfl
 try simp only[Act.put,List.setIfInBounds_toArray,List.set_cons_zero,List.set_cons_succ]
 refine wpAnyH_take (i:=2) (v:=ptB r) rfl (by kernel_rfl) (by kernel_rfl) (by kernel_rfl) (fun _ _ _ h=>h) (Or.inl ⟨by rfl,?_⟩) (by assumption) ?_
 ·intro V' hSV
  obtain⟨l0,l1,l2,l3,l4⟩:=hSV
  go_simp
  try with_reducible rfl
 try simp only[Act.put,List.setIfInBounds_toArray,List.set_cons_zero,List.set_cons_succ]
 refine wpAnyH_take (i:=3) (v:= .pointer (some ⟨r,4,none⟩)) rfl (by kernel_rfl) (by kernel_rfl) (by kernel_rfl) (fun _ _ _ h=>h) (Or.inl ⟨by rfl,?_⟩) (by assumption) ?_
 ·intro V' hSV
  obtain⟨l0,l1,l2,l3,l4⟩:=hSV
  go_simp
  try with_reducible rfl
 try simp only[Act.put,List.setIfInBounds_toArray,List.set_cons_zero,List.set_cons_succ]
 refine wpAnyH_take (i:=5) (v:= .agg tgC) rfl (by kernel_rfl) (by kernel_rfl) (by kernel_rfl) (fun _ _ _ h=>h) (Or.inl ⟨by rfl,?_⟩) (by assumption) ?_
 ·intro V' hSV
  obtain⟨l0,l1,l2,l3,l4⟩:=hSV
  go_simp
  try with_reducible rfl
 try simp only[Act.put,List.setIfInBounds_toArray,List.set_cons_zero,List.set_cons_succ]
 refine wpAnyH_ready (rs:=[4,6]) (by kernel_rfl) (by simp) (AllReadyH.cons rfl (fun K hK=>?_) (AllReadyH.cons rfl (fun K hK=>?_) AllReadyH.nil))
 ·go_simp
  refine hK.out _ _ HSS.out (fun hHeld=>?_)
  clear hK K
  try simp only[Act.put,List.setIfInBounds_toArray,List.set_cons_zero,List.set_cons_succ]
  refine wpAnyH_ready (rs:=[6]) (by kernel_rfl) (by simp) (AllReadyH.cons rfl (fun K hK=>?_) AllReadyH.nil)
  go_simp
  rw[←e5]
  refine hK.out _ _ HV5.out.2.1 (fun hHeld=>?_)
  clear hK K
  try simp only[Act.put,List.setIfInBounds_toArray,List.set_cons_zero,List.set_cons_succ]
  refine wpAnyH_ready (rs:=[7]) (by kernel_rfl) (by simp) (AllReadyH.cons rfl (fun K hK=>?_) AllReadyH.nil)
  refine step_append_lies (w:=V5) (by rfl) (Operand.tmp 44) (Operand.tmp 46) 30 (by rfl) V5.heap.size 39 i0 (.agg tg0) 5 112 Tryz.underlying30 hi hz0 hz1 hz2 rfl (by decide) (.slice none 0 0) 0 [] (by rfl) (World.ownsRow_nil _ _ _ _) ⟨W2.heap.size+1,0,none⟩ 1 1 ([.string bT,.slice none 0 0,.slice none 0 0,.slice none 0 0,.slice none 0 0]:List Value) (by rfl) rfl HNw.out (by simp[Value.oneCell']) (by decide) (by unfold maxLen;omega) (by omega) (Nat.le_refl _) V5.heap.size rfl ?_
  intro tb tc V6 hown hgr hat hlt
  have o6:∀ g,g<V5.heap.size→V6.heap[g]? =V5.heap[g]? :=fun g hg=>hgr.block g hg (fun e=>by cases e)
  have hS6:SRu W2.heap.size V6:=HV5.out.2.1.up (o6 _ (by have:=HV5.out.2.2.2;omega))
  have hr6:=(o6 _ (Array.getElem?_eq_some_iff.1 HV5.out.2.2.1).1).trans HV5.out.2.2.1
  have z6:V6.cell? ⟨r,4,none⟩=some (.slice none 0 0):=by rw[Lib.cell_of_heap hr6];rfl
  have y6:V6.frozen? ⟨r,4,none⟩=false:=Lib.frozen_of_heap hr6 4
  have htb:V5.heap.size≤tb:=(hown.lt tb rfl).1
  have ht6:V6.cell? ⟨tb,0,none⟩=some (.string bT):=hown.cells rfl 0 _ rfl
  obtain⟨V7,e7⟩:∃ V7,V7=V6.setCell ⟨r,4,none⟩ (.slice (some ⟨tb,0,none⟩) 1 tc):=⟨_,rfl⟩
  have hrs:=HV5.out.2.2.2
  have o7:∀ g,g≠r→V7.heap[g]? =V6.heap[g]? :=fun g hg=>by rw[e7];exact Below.heap_setCell _ ⟨r,4,none⟩ _ g hg
  have hS7:SRu W2.heap.size V7:=hS6.up (o7 _ (fun e=>hrl e.symm))
  have HZ:Hid (KP r w V7∧∃ tb tc,w.heap.size≤tb∧V7.heap[r]? =some (.cells #[a,b,c,.int .i64 n,.slice (some ⟨tb,0,none⟩) 1 tc] 52 (0,0))∧V7.cell? ⟨tb,0,none⟩=some (.string bT)):=by
   have hsw:=HV5.out.1.size
   refine⟨⟨?_,?_,?_,?_,fun g hg hne=>?_⟩,tb,tc,by omega,?_,?_⟩
   ·rw[e7];exact hgr.os.trans HV5.out.1.os
   ·rw[e7];exact hgr.tape.trans HV5.out.1.tape
   ·rw[e7];exact hgr.output.trans HV5.out.1.output
   ·rw[e7,size_set];have:=hgr.size;omega
   ·rw[o7 g hne,o6 g (by omega)];exact HV5.out.1.block g hg
   ·rw[e7,heap_setCell_same V6 r 4 _ 52 _ hr6];rfl
   ·exact(World.cell?_of_block (o7 tb (by omega))).trans ht6
  refine hK.out _ _ hS6 (fun hHeld=>?_)
  clear hK K hown hgr hat o6 hr6 ht6 o7
  try simp only[Act.put,List.getElem_toArray,List.getElem_cons_succ,List.getElem_cons_zero,List.setIfInBounds_toArray,List.set_cons_zero,List.set_cons_succ]
  refine wpAnyH_take (i:=8) (v:=ptB r) rfl (by kernel_rfl) (by kernel_rfl) (by kernel_rfl) (fun _ _ _ h=>h) (Or.inl ⟨by rfl,?_⟩) (by assumption) ?_
  ·intro V' hSV
   go_simp
   try with_reducible rfl
  try simp only[Act.put,List.getElem_toArray,List.getElem_cons_succ,List.getElem_cons_zero,List.setIfInBounds_toArray,List.set_cons_zero,List.set_cons_succ]
  refine wpAnyH_take (i:=9) (v:= .pointer (some ⟨r,4,none⟩)) rfl (by kernel_rfl) (by kernel_rfl) (by kernel_rfl) (fun _ _ _ h=>h) (Or.inl ⟨by rfl,?_⟩) (by assumption) ?_
  ·intro V' hSV
   go_simp
   try with_reducible rfl
  try simp only[Act.put,List.getElem_toArray,List.getElem_cons_succ,List.getElem_cons_zero,List.setIfInBounds_toArray,List.set_cons_zero,List.set_cons_succ]
  refine wpAnyH_ready (rs:=[10]) (by kernel_rfl) (by simp) (AllReadyH.cons rfl (fun K hK=>?_) AllReadyH.nil)
  go_simp
  rw[←e7]
  refine hK.out _ _ hS7 (fun hHeld=>?_)
  clear hK K
  have z7:V7.cell? ⟨W2.heap.size,0,none⟩=some (.string bT):=hS7.1
  refine wpAnyH_done (by kernel_rfl) ?_ _
  try simp only[Act.put,List.getElem_toArray,List.getElem_cons_succ,List.getElem_cons_zero,List.setIfInBounds_toArray,List.set_cons_zero,List.set_cons_succ]
  clear e7 z6 y6 hS6
  go_wp2
  go_ret
  exact⟨rfl,HZ.out⟩
 ·go_simp
  rw[←e5]
  clear e5
  refine hK.out _ _ HV5.out.2.1 (fun hHeld=>?_)
  clear hK K
  try simp only[Act.put,List.setIfInBounds_toArray,List.set_cons_zero,List.set_cons_succ]
  refine wpAnyH_ready (rs:=[4]) (by kernel_rfl) (by simp) (AllReadyH.cons rfl (fun K hK=>?_) AllReadyH.nil)
  go_simp
  refine hK.out _ _ HV5.out.2.1 (fun hHeld=>?_)
  clear hK K
  try simp only[Act.put,List.setIfInBounds_toArray,List.set_cons_zero,List.set_cons_succ]
  refine wpAnyH_ready (rs:=[7]) (by kernel_rfl) (by simp) (AllReadyH.cons rfl (fun K hK=>?_) AllReadyH.nil)
  refine step_append_lies (w:=V5) (by rfl) (Operand.tmp 44) (Operand.tmp 46) 30 (by rfl) V5.heap.size 39 i0 (.agg tg0) 5 112 Tryz.underlying30 hi hz0 hz1 hz2 rfl (by decide) (.slice none 0 0) 0 [] (by rfl) (World.ownsRow_nil _ _ _ _) ⟨W2.heap.size+1,0,none⟩ 1 1 ([.string bT,.slice none 0 0,.slice none 0 0,.slice none 0 0,.slice none 0 0]:List Value) (by rfl) rfl HNw.out (by simp[Value.oneCell']) (by decide) (by unfold maxLen;omega) (by omega) (Nat.le_refl _) V5.heap.size rfl ?_
  intro tb tc V6 hown hgr hat hlt
  have o6:∀ g,g<V5.heap.size→V6.heap[g]? =V5.heap[g]? :=fun g hg=>hgr.block g hg (fun e=>by cases e)
  have hS6:SRu W2.heap.size V6:=HV5.out.2.1.up (o6 _ (by have:=HV5.out.2.2.2;omega))
  have hr6:=(o6 _ (Array.getElem?_eq_some_iff.1 HV5.out.2.2.1).1).trans HV5.out.2.2.1
  have z6:V6.cell? ⟨r,4,none⟩=some (.slice none 0 0):=by rw[Lib.cell_of_heap hr6];rfl
  have y6:V6.frozen? ⟨r,4,none⟩=false:=Lib.frozen_of_heap hr6 4
  have htb:V5.heap.size≤tb:=(hown.lt tb rfl).1
  have ht6:V6.cell? ⟨tb,0,none⟩=some (.string bT):=hown.cells rfl 0 _ rfl
  obtain⟨V7,e7⟩:∃ V7,V7=V6.setCell ⟨r,4,none⟩ (.slice (some ⟨tb,0,none⟩) 1 tc):=⟨_,rfl⟩
  have hrs:=HV5.out.2.2.2
  have o7:∀ g,g≠r→V7.heap[g]? =V6.heap[g]? :=fun g hg=>by rw[e7];exact Below.heap_setCell _ ⟨r,4,none⟩ _ g hg
  have hS7:SRu W2.heap.size V7:=hS6.up (o7 _ (fun e=>hrl e.symm))
  have HZ:Hid (KP r w V7∧∃ tb tc,w.heap.size≤tb∧V7.heap[r]? =some (.cells #[a,b,c,.int .i64 n,.slice (some ⟨tb,0,none⟩) 1 tc] 52 (0,0))∧V7.cell? ⟨tb,0,none⟩=some (.string bT)):=by
   have hsw:=HV5.out.1.size
   refine⟨⟨?_,?_,?_,?_,fun g hg hne=>?_⟩,tb,tc,by omega,?_,?_⟩
   ·rw[e7];exact hgr.os.trans HV5.out.1.os
   ·rw[e7];exact hgr.tape.trans HV5.out.1.tape
   ·rw[e7];exact hgr.output.trans HV5.out.1.output
   ·rw[e7,size_set];have:=hgr.size;omega
   ·rw[o7 g hne,o6 g (by omega)];exact HV5.out.1.block g hg
   ·rw[e7,heap_setCell_same V6 r 4 _ 52 _ hr6];rfl
   ·exact(World.cell?_of_block (o7 tb (by omega))).trans ht6
  refine hK.out _ _ hS6 (fun hHeld=>?_)
  clear hK K hown hgr hat o6 hr6 ht6 o7
  try simp only[Act.put,List.getElem_toArray,List.getElem_cons_succ,List.getElem_cons_zero,List.setIfInBounds_toArray,List.set_cons_zero,List.set_cons_succ]
  refine wpAnyH_take (i:=8) (v:=ptB r) rfl (by kernel_rfl) (by kernel_rfl) (by kernel_rfl) (fun _ _ _ h=>h) (Or.inl ⟨by rfl,?_⟩) (by assumption) ?_
  ·intro V' hSV
   go_simp
   try with_reducible rfl
  try simp only[Act.put,List.getElem_toArray,List.getElem_cons_succ,List.getElem_cons_zero,List.setIfInBounds_toArray,List.set_cons_zero,List.set_cons_succ]
  refine wpAnyH_take (i:=9) (v:= .pointer (some ⟨r,4,none⟩)) rfl (by kernel_rfl) (by kernel_rfl) (by kernel_rfl) (fun _ _ _ h=>h) (Or.inl ⟨by rfl,?_⟩) (by assumption) ?_
  ·intro V' hSV
   go_simp
   try with_reducible rfl
  try simp only[Act.put,List.getElem_toArray,List.getElem_cons_succ,List.getElem_cons_zero,List.setIfInBounds_toArray,List.set_cons_zero,List.set_cons_succ]
  refine wpAnyH_ready (rs:=[10]) (by kernel_rfl) (by simp) (AllReadyH.cons rfl (fun K hK=>?_) AllReadyH.nil)
  go_simp
  rw[←e7]
  refine hK.out _ _ hS7 (fun hHeld=>?_)
  clear hK K
  have z7:V7.cell? ⟨W2.heap.size,0,none⟩=some (.string bT):=hS7.1
  refine wpAnyH_done (by kernel_rfl) ?_ _
  try simp only[Act.put,List.getElem_toArray,List.getElem_cons_succ,List.getElem_cons_zero,List.setIfInBounds_toArray,List.set_cons_zero,List.set_cons_succ]
  clear e7 z6 y6 hS6
  go_wp2
  go_ret
  exact⟨rfl,HZ.out⟩
end Go.Proofs.YthfgpkdbclogpaaGreatDoor
namespace Go.Proofs.YthfgpkdbclogpaaGreatDoor
open Go.RowKit Go.Shelf
def RuQ (a b c:Value)(n:Int)(r:Nat)(B:Nat)(w':World):Prop:=∃ tb tc,B≤tb∧w'.heap[r]? =some (.cells #[a,b,c,.int .i64 n,.slice (some ⟨tb,0,none⟩) 1 tc] 52 (0,0))∧w'.cell? ⟨tb,0,none⟩=some (.string bT)
def SCo (p b r gv cv gn cn:Nat)(V:World):Prop:=V.cell? ⟨p,0,none⟩=some (fnR r)∧V.cell? ⟨b,0,none⟩=some (.slice (some ⟨gv,0,none⟩) 1 cv)∧V.cell? ⟨b,1,none⟩=some (.slice (some ⟨gn,0,none⟩) 1 cn)
set_option linter.unusedSimpArgs false in
theorem comes1 (r p gv cv gn cn:Nat){a b c:Value}{n:Int}(w:World)(h:HnI gv gn w)(hr:w.heap[r]? =some (.cells #[a,b,c,.int .i64 n,.slice none 0 0] 52 (0,0)))(hp:w.heap[p]? =some (.cells (fnC r) 102 (0,0)))(hpr:p≠r):
  Calls Tryz.prog 222 #[ptB r,ptB p,hnV gv cv gn cn] w fun e w'=>e= .returned (txV bT)∧KP r w w'∧RuQ a b c n r w.heap.size w':=by
 have hlr:=(Array.getElem?_eq_some_iff.1 hr).1
 have hlp:=(Array.getElem?_eq_some_iff.1 hp).1
 obtain⟨W1,e1⟩:∃ W1,W1=w.alloc (.cells #[.slice (some ⟨gv,0,none⟩) 1 cv,.slice (some ⟨gn,0,none⟩) 1 cn] 129):=⟨_,rfl⟩
 have hb1:Below w.heap.size w W1:=by rw[e1];exact(Below.refl _ w).alloc (Nat.le_refl _) _
 have x1:W1.heap[w.heap.size]? =some (.cells #[.slice (some ⟨gv,0,none⟩) 1 cv,.slice (some ⟨gn,0,none⟩) 1 cn] 129 (0,0)):=by rw[e1];exact heap_alloc_new w _
 have y1:=(hb1.block _ hlp).trans hp
 have p0:W1.cell? ⟨p,0,none⟩=some (fnR r):=by rw[Lib.cell_of_heap y1];rfl
 have hS:SCo p w.heap.size r gv cv gn cn W1.drew:=by
  refine⟨p0,?_,?_⟩
  all_goals
   rw[Lib.cell_of_heap (w:=W1.drew) x1]
   rfl
 have HR:=rule1 r gv cv gn cn W1.drew ((h.up hb1).up (w':=W1.drew) (Below.refl _ W1).drew) ((hb1.block _ hlr).trans hr)
 have hs1:W1.heap.size=w.heap.size+1:=by rw[e1];exact World.size_alloc _ _
 have HF:Hid (SCo p w.heap.size r gv cv gn cn W1.drew∧Below w.heap.size w W1.drew):=⟨hS,hb1.drew⟩
 have HE:∀ args W,(callFunc 58 args).run Tryz.prog W= .ok (.enter 58 args) W:=enters_of Tryz.func58 (by kernel_rfl) rfl
 have hne:∀ W,(binOp .neq 99 (fnR r) .nilFunc).run Tryz.prog W= .ok (.bool true) W:=fun W=>by kernel_rfl
 clear hS hb1 x1 y1 h hr hp
 rw[e1]at p0
 go_enter Tryz.func222,Tryz.ntmps222
 go_wp2_with fail
 rw[←e1]
 clear e1
 refine wp_region_held_drew (S:=SCo p w.heap.size r gv cv gn cn) (by kernel_rfl) HF.out.1 (fun hHeld=>?_)
 refine wpAnyH_take (i:=0) (v:=ptB p) rfl (by kernel_rfl) (by kernel_rfl) (by kernel_rfl) (fun _ _ _ h=>h) (Or.inl ⟨by rfl,?_⟩) (by assumption) ?_
 ·intro V' hSV
  obtain⟨l0,l1,l2⟩:=hSV
  go_simp
  try with_reducible rfl
 try simp only[Act.put,List.getElem_toArray,List.getElem_cons_succ,List.getElem_cons_zero,List.setIfInBounds_toArray,List.set_cons_zero,List.set_cons_succ]
 refine wpAnyH_take (i:=1) (v:=ptB p) rfl (by kernel_rfl) (by kernel_rfl) (by kernel_rfl) (fun _ _ _ h=>h) (Or.inl ⟨by rfl,?_⟩) (by assumption) ?_
 ·intro V' hSV
  obtain⟨l0,l1,l2⟩:=hSV
  go_simp
  try with_reducible rfl
 try simp only[Act.put,List.getElem_toArray,List.getElem_cons_succ,List.getElem_cons_zero,List.setIfInBounds_toArray,List.set_cons_zero,List.set_cons_succ]
 refine wpAnyH_take (i:=2) (v:=ptB p) rfl (by kernel_rfl) (by kernel_rfl) (by kernel_rfl) (fun _ _ _ h=>h) (Or.inl ⟨by rfl,?_⟩) (by assumption) ?_
 ·intro V' hSV
  obtain⟨l0,l1,l2⟩:=hSV
  go_simp
  try with_reducible rfl
 try simp only[Act.put,List.getElem_toArray,List.getElem_cons_succ,List.getElem_cons_zero,List.setIfInBounds_toArray,List.set_cons_zero,List.set_cons_succ]
 refine wpAnyH_take (i:=3) (v:=fnR r) rfl (by kernel_rfl) (by kernel_rfl) (by kernel_rfl) (fun _ _ _ h=>h) (Or.inl ⟨by rfl,?_⟩) (by assumption) ?_
 ·intro V' hSV
  obtain⟨l0,l1,l2⟩:=hSV
  go_simp
  try with_reducible rfl
 try simp only[Act.put,List.getElem_toArray,List.getElem_cons_succ,List.getElem_cons_zero,List.setIfInBounds_toArray,List.set_cons_zero,List.set_cons_succ]
 refine wpAnyH_take (i:=4) (v:=hnV gv cv gn cn) rfl (by kernel_rfl) (by kernel_rfl) (by kernel_rfl) (fun _ _ _ h=>h) (Or.inl ⟨by rfl,?_⟩) (by assumption) ?_
 ·intro V' hSV
  obtain⟨l0,l1,l2⟩:=hSV
  go_simp
  try with_reducible rfl
 try simp only[Act.put,List.getElem_toArray,List.getElem_cons_succ,List.getElem_cons_zero,List.setIfInBounds_toArray,List.set_cons_zero,List.set_cons_succ]
 refine wpAnyH_ready (rs:=[5]) (by kernel_rfl) (by simp) (AllReadyH.cons rfl (fun K hK=>?_) AllReadyH.nil)
 go_simp
 refine HR.mono ?_
 rintro e V ⟨rfl,hk,tb,tc,q1,q2,q3⟩
 have hSV:SCo p w.heap.size r gv cv gn cn V:=by
  obtain⟨l0,l1,l2⟩:=HF.out.1
  have k1:=hk.blk p (World.block_lt_of_cell? _ _ l0) hpr
  have k2:=hk.blk w.heap.size (World.block_lt_of_cell? _ _ l1) (by omega)
  exact⟨(World.cell?_of_block k1).trans l0,(World.cell?_of_block k2).trans l1,(World.cell?_of_block k2).trans l2⟩
 have HZ:Hid (KP r w V∧RuQ a b c n r w.heap.size V):=⟨(KP.of_below HF.out.2).trans hk,tb,tc,by have:W1.heap.size≤tb:=q1;omega,q2,q3⟩
 refine hK.out _ _ hSV (fun hHeld=>?_)
 clear hK K hk q1 q2 q3
 try simp only[Act.put,List.getElem_toArray,List.getElem_cons_succ,List.getElem_cons_zero,List.setIfInBounds_toArray,List.set_cons_zero,List.set_cons_succ]
 refine wpAnyH_take (i:=6) (v:=txV bT) rfl (by kernel_rfl) (by kernel_rfl) (by kernel_rfl) (fun _ _ _ h=>h) (Or.inl ⟨by rfl,?_⟩) (by assumption) ?_
 ·intro V' hSV
  go_simp
  try with_reducible rfl
 try simp only[Act.put,List.getElem_toArray,List.getElem_cons_succ,List.getElem_cons_zero,List.setIfInBounds_toArray,List.set_cons_zero,List.set_cons_succ]
 refine wpAnyH_done (by kernel_rfl) ?_ _
 try simp only[Act.put,List.getElem_toArray,List.getElem_cons_succ,List.getElem_cons_zero,List.setIfInBounds_toArray,List.set_cons_zero,List.set_cons_succ]
 go_wp2
 go_ret
 exact⟨rfl,HZ.out⟩
end Go.Proofs.YthfgpkdbclogpaaGreatDoor
