/- 1. -/
import Derived.Test.YtcaeeackccgclaaGreatDoorChecked
import Derived.Below
import Derived.ProofKit
import Derived.Lib.Builder
import Derived.Lib.AppendStr
import Derived.Lib.UnsafeStr
import Derived.Lib.Strings
import Derived.Lib.Slices
import Derived.Lib.Walk
import Derived.Lib.OthersKept
import Derived.Laws.Externs
import Derived.WalkKit
import Derived.WalkSpells
import Derived.WalkLawsBesides
import Derived.Deep.RegionWith
import Derived.BigRegion
import Derived.WalkSmall
import Derived.Lib.SmallJoins
import Derived.Deep.QuietTactic
import Derived.BigQuiet
set_option maxHeartbeats 40000000
set_option maxRecDepth 100000
namespace Go.Proofs.YtcaeeackccgclaaGreatDoor
open Go.RowKit
theorem szB:(Tryz.prog.info? 43).map (·.size)=some 2:=by kernel_rfl
theorem infB:(Tryz.prog.info? 5).map (fun i=>(i.zero,i.size,i.bytes))=some (some (.int .u8 0),1,1):=by kernel_rfl
theorem celB:Tryz.prog.cellsOf 5=1:=by kernel_rfl
theorem info_parts {i:Option TypeInfo}{z:Value}{s b:Nat}(h:i.map (fun i=>(i.zero,i.size,i.bytes))=some (some z,s,b)):∃ i0,i=some i0∧i0.zero=some z∧i0.size=s∧i0.bytes=b:=by
 cases i with
 |none=>cases h
 |some i0=>
  simp at h
  exact⟨i0,rfl,h.1,h.2.1,h.2.2⟩
def Kp (B b:Nat)(w w':World):Prop:=Below B w w'∧Lib.OthersKept 5 (some b) w w'
theorem Kp.bel {B b:Nat}{w w':World}(h:Kp B b w w'):Below B w w':=h.1
theorem Kp.size {B b:Nat}{w w':World}(h:Kp B b w w'):w.heap.size≤w'.heap.size:=h.1.size
theorem Kp.refl (B b:Nat)(w:World):Kp B b w w:=⟨Below.refl _ _,Lib.OthersKept.refl _ _ _⟩
theorem Kp.trans {B b:Nat}{a c d:World}(h:Kp B b a c)(k:Kp B b c d):Kp B b a d:=⟨h.1.trans k.1,h.2.trans k.2⟩
theorem own_kind {w:World}{B:Nat}{e:TypeId}{v:Value}{n:Nat}{xs:List Value}(h:w.ownsRow B e 1 v n xs):∀ g,v.ownBlock=some g→∃ c fz,w.heap[g]? =some (.cells c e fz):=by
 intro g hg
 rcases h.2 with⟨hv,_⟩|⟨g',cap,cur,hv,_,hh,_⟩
 ·rw[hv]at hg;cases hg
 ·rw[hv]at hg
  obtain rfl:g'=g:=by simpa[Value.ownBlock]using hg
  exact⟨_,_,hh⟩
theorem cc_used (b:Nat)(w:World)(h0:w.cell? ⟨b,0,none⟩=some (.pointer (some ⟨b,0,none⟩))):
  Calls Tryz.prog 34 #[.pointer (some ⟨b,0,none⟩)] w fun e w'=>e= .returned (.tuple #[])∧w'=w:=by
 obtain⟨j,hj,_⟩:=Option.map_eq_some_iff.1 szB
 go_enter Tryz.func34,Tryz.ntmps34
 go_wp2
 rw[Lib.run_neq_ptr_same w _ Tryz.underlying41 hj]
 go_wp2
 go_end0
 exact⟨rfl,rfl⟩
theorem lieL:liesAt Tryz.prog Tryz.prog.depth 43 (2/Tryz.prog.cellsOf 43) 0 43 1=true:=by kernel_rfl
abbrev BdAt (B b:Nat)(p:Value)(bs:List Value)(w:World):Prop:=Lib.BuilderAt 43 5 B b p bs w
abbrev BdIs (B b:Nat)(bs:List Value)(w:World):Prop:=Lib.IsBuilder 43 5 B b bs w
theorem ccL_fresh (b:Nat)(w:World)(h0:w.cell? ⟨b,0,none⟩=some (.pointer none))(hsh:w.shape? b=some (43,2))(hfz:w.frozen? ⟨b,0,none⟩=false):
  Calls Tryz.prog 34 #[.pointer (some ⟨b,0,none⟩)] w fun e w'=>e= .returned (.tuple #[])∧w'=w.setCell ⟨b,0,none⟩ (.pointer (some ⟨b,0,none⟩)):=by
 obtain⟨j,hj,hjs⟩:=Option.map_eq_some_iff.1 szB
 go_enter Tryz.func34,Tryz.ntmps34
 go_wp2
 rw[Lib.run_to_unsafe w ⟨b,0,none⟩ Tryz.underlying41 Tryz.underlying86 hj (by rw[hjs];decide) hsh (Nat.zero_lt_succ 1)]
 simp only[Result.andThen]
 rw[Oper.upon_value]
 go_wp2
 rw[run_callFunc_extern Tryz.func50 (by kernel_rfl) (by kernel_rfl) (by kernel_rfl) (e:=Extern.AbiNoEscape.same) (by kernel_rfl)]
 rw[Lib.run_noEscape]
 simp only[Result.andThen]
 rw[Oper.upon_value]
 go_wp2
 rw[Lib.run_from_unsafe w ⟨b,0,none⟩ Tryz.underlying86 Tryz.underlying41 hj hsh lieL]
 simp only[Result.andThen]
 rw[Oper.upon_value]
 go_wp2
 go_end0
 exact⟨rfl,rfl⟩
theorem ccL_any (B b:Nat)(bs:List Value)(w:World)(h:BdIs B b bs w):
  Calls Tryz.prog 34 #[.pointer (some ⟨b,0,none⟩)] w fun e w'=>e= .returned (.tuple #[])∧(BdAt B b (.pointer (some ⟨b,0,none⟩)) bs w'∧Kp B b w w'):=by
 rcases h with h|h
 ·refine(ccL_fresh b w h.cell0 h.shape h.frozen0).mono ?_
  rintro e w' ⟨rfl,rfl⟩
  exact⟨rfl,h.used _,(Below.refl B w).setCell (p:=⟨b,0,none⟩) h.1 _,(Lib.OthersKept.refl _ _ _).setCell ⟨b,0,none⟩ rfl _⟩
 ·refine(cc_used b w h.cell0).mono ?_
  rintro e w' ⟨rfl,rfl⟩
  exact⟨rfl,h,Kp.refl _ _ _⟩
theorem wbL_any (B b:Nat)(bs:List Value)(c:Int)(w:World)(h:BdIs B b bs w)(hlen:bs.length+1≤140737488355328)(hBw:B≤w.heap.size):
  Calls Tryz.prog 29 #[.pointer (some ⟨b,0,none⟩),.int .u8 c] w fun e w'=>e= .returned .nilIface∧(BdAt B b (.pointer (some ⟨b,0,none⟩)) (bs++[.int .u8 c]) w'∧Kp B b w w'):=by
 obtain⟨i0,hi,hz0,hz1,hz2⟩:=info_parts infB
 go_enter Tryz.func29,Tryz.ntmps29
 go_wp2_with (go_at_call 34;refine(ccL_any B b bs _ h).mono ?_)
 rintro e w1 ⟨rfl,h1,hb1,hk1⟩
 obtain⟨hB,v,hbk,hown,hne⟩:=h1
 have c0:w1.cell? ⟨b,0,none⟩=some (.pointer (some ⟨b,0,none⟩)):=by rw[Lib.cell_of_heap hbk];rfl
 have c1:w1.cell? ⟨b,1,none⟩=some v:=by rw[Lib.cell_of_heap hbk];rfl
 go_wp2_with (at_builtin;refine wpList_append_own _ rfl _ _ 34 rfl B 5 i0 (.int .u8 0) 1 1 Tryz.underlying34 hi hz0 hz1 hz2 rfl (by decide) _ _ _ rfl (hown.alloc _) ⟨w1.heap.size,0,none⟩ 1 1 [.int .u8 c] rfl rfl ?c1 ?c2 ?c3 ?c4 ?c5 ?_)
 case c1=>
  intro j u hj
  match j,hj with
  |0,hj=>simp at hj;subst hj;simp[Addr.add]
 case c2=>intro u hu;simp at hu;subst hu;rfl
 case c3=>unfold maxLen;omega
 case c4=>omega
 case c5=>have:=hb1.size;simp;omega
 intro v' w2 hown' hgrow _
 have hlt:b<w1.heap.size:=by
  rcases Nat.lt_or_ge b w1.heap.size with h'|h'
  ·exact h'
  ·simp[Array.getElem?_eq_none h']at hbk
 have hb2:w2.heap[b]? =some (.cells #[.pointer (some ⟨b,0,none⟩),v] 43 (0,0)):=by
  rw[hgrow.block b (by simp;omega) (fun e=>hne e.symm),Lib.alloc_old w1 _ b hlt]
  exact hbk
 have d0:w2.cell? ⟨b,0,none⟩=some (.pointer (some ⟨b,0,none⟩)):=by rw[Lib.cell_of_heap hb2];rfl
 have d1:w2.cell? ⟨b,1,none⟩=some v:=by rw[Lib.cell_of_heap hb2];rfl
 have f1:w2.frozen? ⟨b,1,none⟩=false:=Lib.frozen_of_heap hb2 1
 obtain⟨g,cap,rfl⟩:∃ g cap,v'= .slice (some ⟨g,0,none⟩) (bs.length+1) cap:=by
  rcases hown'.2 with⟨_,h0⟩|⟨g,cap,cur,hv,_⟩
  ·omega
  ·exact⟨g,cap,hv⟩
 go_wp2
 go_ret
 refine⟨rfl,?_,?_,((hk1.alloc _).grown hgrow (own_kind (hown.alloc _))).setCell ⟨b,1,none⟩ rfl _⟩
 ·exact Lib.BuilderAt.put (T:=43) (e:=5) hB hb2 (bs':=bs++[.int .u8 c]) (by simpa using hown') (by decide)
 ·exact((hb1.alloc (by have:=hb1.size;omega) _).grown hgrow (by have:=hb1.size;simp;omega) (fun k hk=>(hown.lt k hk).1)).setCell (p:=⟨b,1,none⟩) hB _
theorem wsL_any (B b:Nat)(bs:List Value)(s:ByteArray)(w:World)(h:BdIs B b bs w)(hlen:bs.length+s.size≤140737488355328)(hBw:B≤w.heap.size):
  Calls Tryz.prog 23 #[.pointer (some ⟨b,0,none⟩),.string s] w fun e w'=>e= .returned (.tuple #[.int .i64 s.size,.nilIface])∧(BdAt B b (.pointer (some ⟨b,0,none⟩)) (bs++Lib.strCells s) w'∧Kp B b w w'):=by
 obtain⟨i0,hi,hz0,hz1,hz2⟩:=info_parts infB
 go_enter Tryz.func23,Tryz.ntmps23
 go_wp2_with (go_at_call 34;refine(ccL_any B b bs _ h).mono ?_)
 rintro e w1 ⟨rfl,h1,hb1,hk1⟩
 obtain⟨hB,v,hbk,hown,hne⟩:=h1
 have c0:w1.cell? ⟨b,0,none⟩=some (.pointer (some ⟨b,0,none⟩)):=by rw[Lib.cell_of_heap hbk];rfl
 have c1:w1.cell? ⟨b,1,none⟩=some v:=by rw[Lib.cell_of_heap hbk];rfl
 go_wp2_with (at_builtin;refine Lib.wpList_append_own_string _ rfl _ _ 34 9 rfl B 5 i0 Tryz.underlying34 Tryz.underlying9 hi hz0 hz1 hz2 _ _ _ rfl hown s rfl ?c3 ?c4 ?c5 ?_)
 case c3=>unfold maxLen;omega
 case c4=>omega
 case c5=>have:=hb1.size;omega
 intro v' w2 hown' hgrow _
 have hlt:b<w1.heap.size:=by
  rcases Nat.lt_or_ge b w1.heap.size with h'|h'
  ·exact h'
  ·simp[Array.getElem?_eq_none h']at hbk
 have hb2:w2.heap[b]? =some (.cells #[.pointer (some ⟨b,0,none⟩),v] 43 (0,0)):=by
  rw[hgrow.block b hlt (fun e=>hne e.symm)]
  exact hbk
 have d0:w2.cell? ⟨b,0,none⟩=some (.pointer (some ⟨b,0,none⟩)):=by rw[Lib.cell_of_heap hb2];rfl
 have d1:w2.cell? ⟨b,1,none⟩=some v:=by rw[Lib.cell_of_heap hb2];rfl
 have f1:w2.frozen? ⟨b,1,none⟩=false:=Lib.frozen_of_heap hb2 1
 obtain⟨ao,n',cap,rfl⟩:∃ ao n' cap,v'= .slice ao n' cap:=by
  rcases hown'.2 with⟨hv,_⟩|⟨g,cap,cur,hv,_⟩
  ·exact⟨_,_,_,hv⟩
  ·exact⟨_,_,_,hv⟩
 go_wp2
 go_ret2
 refine⟨rfl,?_,?_,(hk1.grown hgrow (own_kind hown)).setCell ⟨b,1,none⟩ rfl _⟩
 ·exact Lib.BuilderAt.put (T:=43) (e:=5) hB hb2 (bs':=bs++Lib.strCells s) (by simpa[Lib.strCells_length]using hown') (by decide)
 ·exact(hb1.grown hgrow (by have:=hb1.size;omega) (fun k hk=>(hown.lt k hk).1)).setCell (p:=⟨b,1,none⟩) hB _
theorem stL_any (B b:Nat)(l:List UInt8)(w:World)(h:BdIs B b (Lib.byteCells l) w)(h0:l≠[]):
  Calls Tryz.prog 12 #[.pointer (some ⟨b,0,none⟩)] w fun e w'=>e= .returned (.string ⟨l.toArray⟩)∧Below B w w':=by
 obtain⟨p,hB,v,hbk,hown,hne⟩:∃ p,BdAt B b p (Lib.byteCells l) w:=by
  rcases h with h|h
  ·exact⟨_,h⟩
  ·exact⟨_,h⟩
 have hl0:l.length≠0:=by simpa using h0
 rw[Lib.byteCells_length]at hown
 obtain⟨g,cap,cur,rfl,hbg,hg,hnc,hcm,hcs,htake⟩:∃ g cap cur,v= .slice (some ⟨g,0,none⟩) l.length cap∧B≤g∧w.heap[g]? =some (.cells cur 5 (0,0))∧l.length≤cap∧cap≤maxLen∧cur.size=cap*1∧cur.toList.take (l.length*1)=Lib.byteCells l:=by
  rcases hown.2 with⟨_,hz⟩|⟨g,cap,cur,hv,r⟩
  ·exact absurd hz hl0
  ·exact⟨g,cap,cur,hv,r⟩
 have c1:w.cell? ⟨b,1,none⟩=some (.slice (some ⟨g,0,none⟩) l.length cap):=by rw[Lib.cell_of_heap hbk];rfl
 have hSD:(Builtin.unsafeSliceData_ #[34] 56 #[.slice (some ⟨g,0,none⟩) l.length cap]).run Tryz.prog w.drew= .ok (.pointer (some ⟨g,0,none⟩)) w.drew:=
  Lib.run_unsafeSliceData_row _ _ _ _ _ _ (by omega)
 have hUS:(Builtin.unsafeString_ #[56,3] 9 #[.pointer (some ⟨g,0,none⟩),.int .i64 l.length]).run Tryz.prog w.drew= .ok (.string ⟨l.toArray⟩) (w.drew.freeze ⟨g,0,none⟩ l.length):=by
  refine Lib.run_unsafeString_row w.drew 56 3 9 5 Tryz.underlying56 celB g cur.size (by have hg':w.drew.heap[g]? =some (.cells cur 5 (0,0)):=hg;simp[World.shape?,hg']) l h0 (by omega) (by unfold maxLen at hcm;omega) ?_
  intro j x hx
  have:=hown.cells (g:=g) rfl j (.int .u8 x.toNat) (by simp[Lib.byteCells,hx])
  exact this
 go_enter Tryz.func12,Tryz.ntmps12
 go_wp2
 go_region
 all_goals(go_wp2;go_ret;exact⟨rfl,Lib.below_freeze (Below.drew (Below.refl B w)) (p:=⟨g,0,none⟩) hbg _⟩)
theorem stL_zero (B b:Nat)(w:World)(h:BdIs B b [] w)(hBw:B≤w.heap.size):
  Calls Tryz.prog 12 #[.pointer (some ⟨b,0,none⟩)] w fun e w'=>e= .returned (.string ⟨#[]⟩)∧Below B w w':=by
 obtain⟨p,hB,v,hbk,hown,hne⟩:∃ p,BdAt B b p [] w:=by
  rcases h with h|h
  ·exact⟨_,h⟩
  ·exact⟨_,h⟩
 have hown':w.ownsRow B 5 1 v 0 []:=hown
 have c1:w.cell? ⟨b,1,none⟩=some v:=by rw[Lib.cell_of_heap hbk];rfl
 rcases hown'.2 with⟨rfl,_⟩|⟨g,cap,cur,rfl,hbg,hg,_,_,hcs,_⟩
 ·have hSD:(Builtin.unsafeSliceData_ #[34] 56 #[.slice none 0 0]).run Tryz.prog w.drew= .ok (.pointer none) w.drew:=Lib.run_unsafeSliceData_nil _ _ _ _ _
  have hUS:(Builtin.unsafeString_ #[56,3] 9 #[.pointer none,.int .i64 0]).run Tryz.prog w.drew= .ok (.string ⟨#[]⟩) w.drew:=Lib.run_unsafeString_none _ _ _ _ _
  clear hown hown' hbk hne
  go_enter Tryz.func12,Tryz.ntmps12
  go_wp2
  go_region
  all_goals(go_wp2;go_ret;exact⟨rfl,(Below.refl B w).drew⟩)
 ·by_cases hc0:cap=0
  ·subst hc0
   have hsh:w.drew.shape? g=some (5,cur.size):=by
    have hg':w.drew.heap[g]? =some (.cells cur 5 (0,0)):=hg
    simp[World.shape?,hg']
   have hSD:(Builtin.unsafeSliceData_ #[34] 56 #[.slice (some ⟨g,0,none⟩) 0 0]).run Tryz.prog w.drew= .ok (.pointer (some ⟨w.heap.size,0,none⟩)) (w.drew.alloc (.view ⟨g,0,none⟩ 5)):=Lib.run_unsafeSliceData_zero _ _ _ _ Tryz.underlying56 _ _ _ hsh
   have hUS:∀ W:World,(Builtin.unsafeString_ #[56,3] 9 #[.pointer (some ⟨w.heap.size,0,none⟩),.int .i64 0]).run Tryz.prog W= .ok (.string ⟨#[]⟩) W:=fun W=>Lib.run_unsafeString_none _ _ _ _ _
   have hc1:w.drew.cell? ⟨b,1,none⟩=some (.slice (some ⟨g,0,none⟩) 0 0):=c1
   have hbl:b<w.heap.size:=World.block_lt_of_cell? w ⟨b,1,none⟩ c1
   have hc2:(w.alloc (.view ⟨g,0,none⟩ 5)).drew.cell? ⟨b,1,none⟩=some (.slice (some ⟨g,0,none⟩) 0 0):=(World.cell?_alloc_lt w _ ⟨b,1,none⟩ hbl).trans c1
   clear hown hown' hbk hne
   go_enter Tryz.func12,Tryz.ntmps12
   go_wp2
   go_region
   all_goals(go_wp2;go_ret;exact⟨rfl,((Below.refl B w).alloc hBw _).drew⟩)
  ·have hSD:(Builtin.unsafeSliceData_ #[34] 56 #[.slice (some ⟨g,0,none⟩) 0 cap]).run Tryz.prog w.drew= .ok (.pointer (some ⟨g,0,none⟩)) w.drew:=Lib.run_unsafeSliceData_row _ _ _ _ _ _ hc0
   have hUS:(Builtin.unsafeString_ #[56,3] 9 #[.pointer (some ⟨g,0,none⟩),.int .i64 0]).run Tryz.prog w.drew= .ok (.string ⟨#[]⟩) w.drew:=Lib.run_unsafeString_none _ _ _ _ _
   clear hown hown' hbk hne
   go_enter Tryz.func12,Tryz.ntmps12
   go_wp2
   go_region
   all_goals(go_wp2;go_ret;exact⟨rfl,(Below.refl B w).drew⟩)
theorem lieW:liesAt Tryz.prog Tryz.prog.depth 45 (3/Tryz.prog.cellsOf 45) 0 43 1=true:=by kernel_rfl
def WrAt (B b:Nat)(n:Int)(p:Value)(bs:List Value)(w:World):Prop:=B≤b∧∃ v,w.heap[b]? =some (.cells #[p,v,.int .i64 n] 45 (0,0))∧w.ownsRow B 5 1 v bs.length bs∧v.ownBlock≠some b
def WrIs (B b:Nat)(n:Int)(bs:List Value)(w:World):Prop:=WrAt B b n (.pointer none) bs w∨WrAt B b n (.pointer (some ⟨b,0,none⟩)) bs w
theorem rowKeep {w w':World}{B n sz:Nat}{e:TypeId}{v:Value}{xs:List Value}(h:w.ownsRow B e sz v n xs)(hk:∀ g,v.ownBlock=some g→w'.heap[g]? =w.heap[g]?):w'.ownsRow B e sz v n xs:=by
 refine⟨h.1,?_⟩
 rcases h.2 with h2|⟨g,cap,cur,a,b,hg,r⟩
 ·exact .inl h2
 ·exact .inr ⟨g,cap,cur,a,b,(hk g (by rw[a];rfl)).trans hg,r⟩
theorem wr_put {B b:Nat}{n:Int}{p v v':Value}{bs':List Value}{w:World}(hB:B≤b)(hb:w.heap[b]? =some (.cells #[p,v,.int .i64 n] 45 (0,0)))(hown:w.ownsRow B 5 1 v' bs'.length bs'):WrAt B b n p bs' (w.setCell ⟨b,1,none⟩ v'):=by
 have hne:v'.ownBlock≠some b:=fun e=>by
  obtain⟨c,fz,hc⟩:=own_kind hown b e
  rw[hb]at hc
  injection hc with hc
  injection hc with _ hc
  exact absurd hc (by decide)
 refine⟨hB,v',by simp[World.setCell,Array.getElem?_modify,hb],rowKeep hown fun g hg=>?_,hne⟩
 exact Below.heap_setCell w ⟨b,1,none⟩ v' g (fun e=>hne (by rw[hg];first|rw[e]|rw[←e]))
theorem WrAt.used {B b:Nat}{n:Int}{p:Value}{bs:List Value}{w:World}(h:WrAt B b n p bs w):WrAt B b n (.pointer (some ⟨b,0,none⟩)) bs (w.setCell ⟨b,0,none⟩ (.pointer (some ⟨b,0,none⟩))):=by
 obtain⟨hB,v,hb,hown,hne⟩:=h
 refine⟨hB,v,by simp[World.setCell,Array.getElem?_modify,hb],rowKeep hown fun g hg=>?_,hne⟩
 exact Below.heap_setCell w ⟨b,0,none⟩ _ g (fun e=>hne (by rw[hg];first|rw[e]|rw[←e]))
theorem ccW_fresh (b:Nat)(w:World)(h0:w.cell? ⟨b,0,none⟩=some (.pointer none))(hsh:w.shape? b=some (45,3))(hfz:w.frozen? ⟨b,0,none⟩=false):
  Calls Tryz.prog 34 #[.pointer (some ⟨b,0,none⟩)] w fun e w'=>e= .returned (.tuple #[])∧w'=w.setCell ⟨b,0,none⟩ (.pointer (some ⟨b,0,none⟩)):=by
 obtain⟨j,hj,hjs⟩:=Option.map_eq_some_iff.1 szB
 go_enter Tryz.func34,Tryz.ntmps34
 go_wp2
 rw[Lib.run_to_unsafe w ⟨b,0,none⟩ Tryz.underlying41 Tryz.underlying86 hj (by rw[hjs];decide) hsh (Nat.zero_lt_succ 2)]
 simp only[Result.andThen]
 rw[Oper.upon_value]
 go_wp2
 rw[run_callFunc_extern Tryz.func50 (by kernel_rfl) (by kernel_rfl) (by kernel_rfl) (e:=Extern.AbiNoEscape.same) (by kernel_rfl)]
 rw[Lib.run_noEscape]
 simp only[Result.andThen]
 rw[Oper.upon_value]
 go_wp2
 rw[Lib.run_from_unsafe w ⟨b,0,none⟩ Tryz.underlying86 Tryz.underlying41 hj hsh lieW]
 simp only[Result.andThen]
 rw[Oper.upon_value]
 go_wp2
 go_end0
 exact⟨rfl,rfl⟩
theorem ccW_any (B b:Nat)(n:Int)(bs:List Value)(w:World)(h:WrIs B b n bs w):
  Calls Tryz.prog 34 #[.pointer (some ⟨b,0,none⟩)] w fun e w'=>e= .returned (.tuple #[])∧(WrAt B b n (.pointer (some ⟨b,0,none⟩)) bs w'∧Kp B b w w'):=by
 rcases h with h|h
 ·obtain⟨hB,v,hb,_,_⟩:=id h
  refine(ccW_fresh b w (by rw[Lib.cell_of_heap hb];rfl) (by simp[World.shape?,hb]) (Lib.frozen_of_heap hb 0)).mono ?_
  rintro e w' ⟨rfl,rfl⟩
  exact⟨rfl,h.used,(Below.refl B w).setCell (p:=⟨b,0,none⟩) h.1 _,(Lib.OthersKept.refl _ _ _).setCell ⟨b,0,none⟩ rfl _⟩
 ·obtain⟨hB,v,hb,_,_⟩:=id h
  refine(cc_used b w (by rw[Lib.cell_of_heap hb];rfl)).mono ?_
  rintro e w' ⟨rfl,rfl⟩
  exact⟨rfl,h,Kp.refl _ _ _⟩
theorem wbW_any (B b:Nat)(n:Int)(bs:List Value)(c:Int)(w:World)(h:WrIs B b n bs w)(hlen:bs.length+1≤140737488355328)(hBw:B≤w.heap.size):
  Calls Tryz.prog 29 #[.pointer (some ⟨b,0,none⟩),.int .u8 c] w fun e w'=>e= .returned .nilIface∧(WrAt B b n (.pointer (some ⟨b,0,none⟩)) (bs++[.int .u8 c]) w'∧Kp B b w w'):=by
 obtain⟨i0,hi,hz0,hz1,hz2⟩:=info_parts infB
 go_enter Tryz.func29,Tryz.ntmps29
 go_wp2_with (go_at_call 34;refine(ccW_any B b n bs _ h).mono ?_)
 rintro e w1 ⟨rfl,h1,hb1,hk1⟩
 obtain⟨hB,v,hbk,hown,hne⟩:=h1
 have c0:w1.cell? ⟨b,0,none⟩=some (.pointer (some ⟨b,0,none⟩)):=by rw[Lib.cell_of_heap hbk];rfl
 have c1:w1.cell? ⟨b,1,none⟩=some v:=by rw[Lib.cell_of_heap hbk];rfl
 go_wp2_with (at_builtin;refine wpList_append_own _ rfl _ _ 34 rfl B 5 i0 (.int .u8 0) 1 1 Tryz.underlying34 hi hz0 hz1 hz2 rfl (by decide) _ _ _ rfl (hown.alloc _) ⟨w1.heap.size,0,none⟩ 1 1 [.int .u8 c] rfl rfl ?c1 ?c2 ?c3 ?c4 ?c5 ?_)
 case c1=>
  intro j u hj
  match j,hj with
  |0,hj=>simp at hj;subst hj;simp[Addr.add]
 case c2=>intro u hu;simp at hu;subst hu;rfl
 case c3=>unfold maxLen;omega
 case c4=>omega
 case c5=>have:=hb1.size;simp;omega
 intro v' w2 hown' hgrow _
 have hlt:b<w1.heap.size:=by
  rcases Nat.lt_or_ge b w1.heap.size with h'|h'
  ·exact h'
  ·simp[Array.getElem?_eq_none h']at hbk
 have hb2:w2.heap[b]? =some (.cells #[.pointer (some ⟨b,0,none⟩),v,.int .i64 n] 45 (0,0)):=by
  rw[hgrow.block b (by simp;omega) (fun e=>hne e.symm),Lib.alloc_old w1 _ b hlt]
  exact hbk
 have d0:w2.cell? ⟨b,0,none⟩=some (.pointer (some ⟨b,0,none⟩)):=by rw[Lib.cell_of_heap hb2];rfl
 have d1:w2.cell? ⟨b,1,none⟩=some v:=by rw[Lib.cell_of_heap hb2];rfl
 have f1:w2.frozen? ⟨b,1,none⟩=false:=Lib.frozen_of_heap hb2 1
 obtain⟨g,cap,rfl⟩:∃ g cap,v'= .slice (some ⟨g,0,none⟩) (bs.length+1) cap:=by
  rcases hown'.2 with⟨_,h0⟩|⟨g,cap,cur,hv,_⟩
  ·omega
  ·exact⟨g,cap,hv⟩
 go_wp2
 go_ret
 refine⟨rfl,?_,?_,((hk1.alloc _).grown hgrow (own_kind (hown.alloc _))).setCell ⟨b,1,none⟩ rfl _⟩
 ·exact wr_put hB hb2 (bs':=bs++[.int .u8 c]) (by simpa using hown')
 ·exact((hb1.alloc (by have:=hb1.size;omega) _).grown hgrow (by have:=hb1.size;simp;omega) (fun k hk=>(hown.lt k hk).1)).setCell (p:=⟨b,1,none⟩) hB _
theorem wsW_any (B b:Nat)(n:Int)(bs:List Value)(s:ByteArray)(w:World)(h:WrIs B b n bs w)(hlen:bs.length+s.size≤140737488355328)(hBw:B≤w.heap.size):
  Calls Tryz.prog 23 #[.pointer (some ⟨b,0,none⟩),.string s] w fun e w'=>e= .returned (.tuple #[.int .i64 s.size,.nilIface])∧(WrAt B b n (.pointer (some ⟨b,0,none⟩)) (bs++Lib.strCells s) w'∧Kp B b w w'):=by
 obtain⟨i0,hi,hz0,hz1,hz2⟩:=info_parts infB
 go_enter Tryz.func23,Tryz.ntmps23
 go_wp2_with (go_at_call 34;refine(ccW_any B b n bs _ h).mono ?_)
 rintro e w1 ⟨rfl,h1,hb1,hk1⟩
 obtain⟨hB,v,hbk,hown,hne⟩:=h1
 have c0:w1.cell? ⟨b,0,none⟩=some (.pointer (some ⟨b,0,none⟩)):=by rw[Lib.cell_of_heap hbk];rfl
 have c1:w1.cell? ⟨b,1,none⟩=some v:=by rw[Lib.cell_of_heap hbk];rfl
 go_wp2_with (at_builtin;refine Lib.wpList_append_own_string _ rfl _ _ 34 9 rfl B 5 i0 Tryz.underlying34 Tryz.underlying9 hi hz0 hz1 hz2 _ _ _ rfl hown s rfl ?c3 ?c4 ?c5 ?_)
 case c3=>unfold maxLen;omega
 case c4=>omega
 case c5=>have:=hb1.size;omega
 intro v' w2 hown' hgrow _
 have hlt:b<w1.heap.size:=by
  rcases Nat.lt_or_ge b w1.heap.size with h'|h'
  ·exact h'
  ·simp[Array.getElem?_eq_none h']at hbk
 have hb2:w2.heap[b]? =some (.cells #[.pointer (some ⟨b,0,none⟩),v,.int .i64 n] 45 (0,0)):=by
  rw[hgrow.block b hlt (fun e=>hne e.symm)]
  exact hbk
 have d0:w2.cell? ⟨b,0,none⟩=some (.pointer (some ⟨b,0,none⟩)):=by rw[Lib.cell_of_heap hb2];rfl
 have d1:w2.cell? ⟨b,1,none⟩=some v:=by rw[Lib.cell_of_heap hb2];rfl
 have f1:w2.frozen? ⟨b,1,none⟩=false:=Lib.frozen_of_heap hb2 1
 obtain⟨ao,n',cap,rfl⟩:∃ ao n' cap,v'= .slice ao n' cap:=by
  rcases hown'.2 with⟨hv,_⟩|⟨g,cap,cur,hv,_⟩
  ·exact⟨_,_,_,hv⟩
  ·exact⟨_,_,_,hv⟩
 go_wp2
 go_ret2
 refine⟨rfl,?_,?_,(hk1.grown hgrow (own_kind hown)).setCell ⟨b,1,none⟩ rfl _⟩
 ·exact wr_put hB hb2 (bs':=bs++Lib.strCells s) (by simpa[Lib.strCells_length]using hown')
 ·exact(hb1.grown hgrow (by have:=hb1.size;omega) (fun k hk=>(hown.lt k hk).1)).setCell (p:=⟨b,1,none⟩) hB _
end Go.Proofs.YtcaeeackccgclaaGreatDoor
namespace Go.Proofs.YtcaeeackccgclaaGreatDoor
open Go.RowKit Go.Joins
def qt1 (c:UInt8):List UInt8:=if c.toNat=10 then[92,110]else if c.toNat=9 then[92,116]else if c.toNat=92∨c.toNat=34 then[92,c]else[c]
def qtL (l:List UInt8):List UInt8:=34::(l.flatMap qt1++[34])
theorem qt1_len (c:UInt8):(qt1 c).length≤2:=by
 unfold qt1
 split
 ·decide
 ·split
  ·decide
  ·split<;>simp
theorem qt_len (l:List UInt8):(l.flatMap qt1).length≤2*l.length:=by
 induction l with
 |nil=>simp
 |cons c l ih=>
  have:=qt1_len c
  simp only[List.flatMap_cons,List.length_append,List.length_cons]
  omega
theorem qt_take {s:ByteArray}{k:Nat}(hk:k<s.size):(s.data.toList.take (k+1)).flatMap qt1=(s.data.toList.take k).flatMap qt1++qt1 s[k]:=by
 have hl:k<s.data.toList.length:=by simpa using hk
 rw[List.take_succ_eq_append_getElem hl,List.flatMap_append]
 congr 1
 simp
 rfl
theorem WrIs.drew {B b:Nat}{n:Int}{bs:List Value}{w:World}(h:WrIs B b n bs w):WrIs B b n bs w.drew:=h
theorem Kp.drew {B b:Nat}{w w':World}(h:Kp B b w w'):Kp B b w w'.drew:=⟨h.1.drew,h.2⟩
theorem wtext_any (B b:Nat)(n:Int)(l0:List UInt8)(s:ByteArray)(w:World)(h:WrIs B b n (Lib.byteCells l0) w)(hlen:l0.length+2*s.size+2≤140737488355328)(hBw:B≤w.heap.size):
  Calls Tryz.prog 56 #[.pointer (some ⟨b,0,none⟩),.string s] w fun e w'=>e= .returned (.tuple #[])∧Hid (WrIs B b n (Lib.byteCells (l0++qtL s.data.toList)) w'∧Kp B b w w'):=by
 have HWb:Hid (∀ (l:List UInt8) (c:UInt8) (W:World),WrIs B b n (Lib.byteCells l) W→l.length+1≤140737488355328→Kp B b w W→Calls Tryz.prog 29 #[.pointer (some ⟨b,0,none⟩),.int .u8 (c.toNat:Int)] W fun e w'=>e= .returned .nilIface∧Hid (WrIs B b n (Lib.byteCells (l++[c])) w'∧Kp B b w w')):=fun l c W h1 h2 h3=>
  (wbW_any B b n _ c.toNat W h1 (by rw[Lib.byteCells_length];exact h2) (Nat.le_trans hBw h3.size)).mono fun e w' ⟨q1,q2,q3⟩=>⟨q1,.inr (by
   have e:Lib.byteCells (l++[c])=Lib.byteCells l++[.int .u8 (c.toNat:Int)]:=by simp[Lib.byteCells]
   rw[e]
   exact q2),h3.trans q3⟩
 have HWs:Hid (∀ (l:List UInt8) (t:List UInt8) (W:World),WrIs B b n (Lib.byteCells l) W→l.length+t.length≤140737488355328→Kp B b w W→Calls Tryz.prog 23 #[.pointer (some ⟨b,0,none⟩),.string ⟨t.toArray⟩] W fun e w'=>∃ m,e= .returned (.tuple #[.int .i64 m,.nilIface])∧Hid (WrIs B b n (Lib.byteCells (l++t)) w'∧Kp B b w w')):=fun l t W h1 h2 h3=>
  (wsW_any B b n _ ⟨t.toArray⟩ W h1 (by rw[Lib.byteCells_length];exact h2) (Nat.le_trans hBw h3.size)).mono fun e w' ⟨q1,q2,q3⟩=>⟨_,q1,.inr (by
   have e:Lib.byteCells (l++t)=Lib.byteCells l++Lib.strCells ⟨t.toArray⟩:=by simp[Lib.byteCells,Lib.strCells]
   rw[e]
   exact q2),h3.trans q3⟩
 have H0:=HWb.out l0 34 w h (by omega) (Kp.refl _ _ _)
 have hsz:(s.size:Int)≤140737488355328:=by omega
 have HQ:Hid (∀ k,((s.data.toList.take k).flatMap qt1).length≤2*k):=fun k=>by
  have h1:=qt_len (s.data.toList.take k)
  have h2:(s.data.toList.take k).length≤k:=by simp;omega
  omega
 clear h
 go_enter Tryz.func56,Tryz.ntmps56
 go_wp2_with fail
 refine H0.mono ?_
 rintro e w1 ⟨rfl,G1⟩
 have HI:Hid (WrIs B b n (Lib.byteCells (l0++34::(s.data.toList.take 0).flatMap qt1)) w1∧Kp B b w w1):=G1
 clear H0 G1
 go_wp2
 go_loopw [11] (fun i wr=>∃ k:Nat,k≤s.size∧i= .int .i64 (k:Int)∧Hid (WrIs B b n (Lib.byteCells (l0++34::(s.data.toList.take k).flatMap qt1)) wr∧Kp B b w wr)) (fun i _=>s.size-(intOf i).toNat)
 case atStart=>exact⟨0,Nat.zero_le _,rfl,HI⟩
 case round=>
  clear HI
  obtain⟨k,hk,rfl,HI⟩:=hrel
  have hq:=HQ.out k
  by_cases hlt:k<s.size
  ·have hki:(k:Int)<(s.size:Int):=by omega
   have hst:=qt_take hlt
   have hgo:∀ wr2,WrIs B b n (Lib.byteCells (l0++34::(s.data.toList.take k).flatMap qt1++qt1 s[k])) wr2→WrIs B b n (Lib.byteCells (l0++34::(s.data.toList.take (k+1)).flatMap qt1)) wr2:=fun wr2 h2=>by
    rw[hst]
    simpa using h2
   have HGo:Hid (∀ wr2,WrIs B b n (Lib.byteCells (l0++34::(s.data.toList.take k).flatMap qt1++qt1 s[k])) wr2→WrIs B b n (Lib.byteCells (l0++34::(s.data.toList.take (k+1)).flatMap qt1)) wr2):=hgo
   have hlq:(l0++34::(s.data.toList.take k).flatMap qt1).length+2≤140737488355328:=by simp only[List.length_append,List.length_cons];omega
   clear hgo hst hq
   generalize l0++34::(s.data.toList.take k).flatMap qt1=l1 at *
   have hc8:s[k].toNat<256:=s[k].toNat_lt
   by_cases h10:s[k].toNat=10
   ·have h10i:(s[k].toNat:Int)=10:=by omega
    have H1:=HWs.out l1 [92,110] wr HI.out.1 (by simpa using hlq) HI.out.2
    have eq:qt1 s[k]=[92,110]:=by unfold qt1;rw[if_pos h10]
    rw[eq]at HGo
    clear HI h10 eq
    go_wp2_with fail
    refine H1.mono ?_
    rintro e w2 ⟨m,rfl,G2⟩
    have HE:Hid _:=And.intro (HGo.out w2 G2.out.1) G2.out.2
    clear H1 G2 HGo
    go_wp2
    exact⟨⟨k+1,by omega,by go_num,HE⟩,by simp[intOf];omega⟩
   ·have h10i:¬(s[k].toNat:Int)=10:=by omega
    by_cases h9:s[k].toNat=9
    ·have h9i:(s[k].toNat:Int)=9:=by omega
     have H1:=HWs.out l1 [92,116] wr HI.out.1 (by simpa using hlq) HI.out.2
     have eq:qt1 s[k]=[92,116]:=by unfold qt1;rw[if_neg h10,if_pos h9]
     rw[eq]at HGo
     clear HI h10 h9 eq
     go_wp2_with fail
     refine H1.mono ?_
     rintro e w2 ⟨m,rfl,G2⟩
     have HE:Hid _:=And.intro (HGo.out w2 G2.out.1) G2.out.2
     clear H1 G2 HGo
     go_wp2
     exact⟨⟨k+1,by omega,by go_num,HE⟩,by simp[intOf];omega⟩
    ·have h9i:¬(s[k].toNat:Int)=9:=by omega
     by_cases h92:s[k].toNat=92∨s[k].toNat=34
     ·have H1:=HWb.out l1 92 wr HI.out.1 (by omega) HI.out.2
      have eq:qt1 s[k]=[92,s[k]]:=by unfold qt1;rw[if_neg h10,if_neg h9,if_pos h92]
      rw[eq]at HGo
      have HZ:Hid (∀ w2,WrIs B b n (Lib.byteCells (l1++[92])) w2∧Kp B b w w2→Calls Tryz.prog 29 #[.pointer (some ⟨b,0,none⟩),.int .u8 (s[k].toNat:Int)] w2.drew fun e w'=>e= .returned .nilIface∧Hid (WrIs B b n (Lib.byteCells (l0++34::(s.data.toList.take (k+1)).flatMap qt1)) w'∧Kp B b w w')):=fun w2 hw2=>(HWb.out (l1++[92]) s[k] w2.drew hw2.1.drew (by simp;omega) hw2.2.drew).mono fun e w' ⟨q1,q2⟩=>⟨q1,HGo.out w' (by simpa using q2.out.1),q2.out.2⟩
      clear HI h10 h9 eq HGo
      by_cases h92i:(s[k].toNat:Int)=92
      ·clear h92
       go_wp2_with fail
       refine H1.mono ?_
       rintro e w2 ⟨rfl,G2⟩
       have H2:=HZ.out w2 G2.out
       rw[h92i]at H2
       clear H1 G2 HZ
       go_wp2
       go_region_with (go_at_call 29;refine H2.mono ?_;rintro e w3 ⟨rfl,G3⟩)
       all_goals
        go_wp2
        exact⟨⟨k+1,by omega,by go_num,G3⟩,by simp[intOf];omega⟩
      ·have h34i:(s[k].toNat:Int)=34:=by omega
       clear h92
       go_wp2_with fail
       refine H1.mono ?_
       rintro e w2 ⟨rfl,G2⟩
       have H2:=HZ.out w2 G2.out
       rw[h34i]at H2
       clear H1 G2 HZ
       go_wp2
       go_region_with (go_at_call 29;refine H2.mono ?_;rintro e w3 ⟨rfl,G3⟩)
       all_goals
        go_wp2
        exact⟨⟨k+1,by omega,by go_num,G3⟩,by simp[intOf];omega⟩
     ·have h92i:¬(s[k].toNat:Int)=92:=by omega
      have h34i:¬(s[k].toNat:Int)=34:=by omega
      have eq:qt1 s[k]=[s[k]]:=by unfold qt1;rw[if_neg h10,if_neg h9,if_neg h92]
      rw[eq]at HGo
      have H2:=(HWb.out l1 s[k] wr.drew HI.out.1.drew (by omega) HI.out.2.drew).mono (R':=fun e w'=>e= .returned .nilIface∧Hid (WrIs B b n (Lib.byteCells (l0++34::(s.data.toList.take (k+1)).flatMap qt1)) w'∧Kp B b w w')) fun e w' ⟨q1,q2⟩=>⟨q1,HGo.out w' q2.out.1,q2.out.2⟩
      clear HI h10 h9 h92 eq HGo
      go_wp2
      go_region_with (go_at_call 29;refine H2.mono ?_;rintro e w3 ⟨rfl,G3⟩)
      all_goals
       go_wp2
       exact⟨⟨k+1,by omega,by go_num,G3⟩,by simp[intOf];omega⟩
  ·obtain rfl:k=s.size:=by omega
   have hki:¬(s.size:Int)<(s.size:Int):=by omega
   have H1:=HWb.out _ 34 wr HI.out.1 (by simp only[List.length_append,List.length_cons];omega) HI.out.2
   have e:l0++34::(s.data.toList.take s.size).flatMap qt1++[34]=l0++qtL s.data.toList:=by
    have:s.data.toList.take s.size=s.data.toList:=List.take_of_length_le (by simp)
    rw[this]
    simp[qtL]
   rw[e]at H1
   clear HI hq e
   go_wp2_with fail
   refine H1.mono ?_
   rintro e w2 ⟨rfl,G2⟩
   clear H1
   go_wp2
   go_end0
   exact⟨rfl,G2⟩
end Go.Proofs.YtcaeeackccgclaaGreatDoor
namespace Go.Proofs.YtcaeeackccgclaaGreatDoor
def isDg (c:UInt8):Bool:=decide (48≤c.toNat)&&decide (c.toNat≤57)
def isLt (c:UInt8):Bool:=(decide (97≤c.toNat)&&decide (c.toNat≤122))||(decide (65≤c.toNat)&&decide (c.toNat≤90))||decide (c.toNat=95)
def isOpn (c:UInt8):Bool:=decide (c.toNat=40)||decide (c.toNat=91)||decide (c.toNat=123)
def isCls (c:UInt8):Bool:=decide (c.toNat=41)||decide (c.toNat=93)||decide (c.toNat=125)
def isSg1 (c:UInt8):Bool:=[61,60,43,45,42,37,40,41,91,93,123,125,44,58].contains c.toNat
def isNm (c:UInt8):Bool:=isLt c||isDg c
def isPl (c:UInt8):Bool:=decide (32≤c.toNat)&&decide (c.toNat≠34)&&decide (c.toNat≠92)
def isNl (c:UInt8):Bool:=decide (c.toNat≠10)
def isBl (o:Nat)(c:UInt8):Bool:=decide (c.toNat=32)||(decide (c.toNat=10)&&decide (0<o))
def rch (h:UInt8→Bool):List UInt8→Nat
 |[]=>0
 |c::r=>bif h c then rch h r+1 else 0
theorem rch_le (h:UInt8→Bool):∀ r:List UInt8,rch h r≤r.length
 |[]=>Nat.le_refl _
 |c::r=>by
  unfold rch
  cases h c
  ·simp
  ·simp;exact rch_le h r
def two2 (r:List UInt8):Bool:=[[61,61],[33,61],[60,61],[47,47]].contains ((r.take 2).map (·.toNat))
def sgn (r:List UInt8):Nat:=bif two2 r then 2 else bif isSg1 (r.getD 0 0)then 1 else 0
def beg (r:List UInt8):Bool:=isLt (r.getD 0 0)||isDg (r.getD 0 0)||decide ((r.getD 0 0).toNat=34)||decide (0<sgn r)
def valD (n:Nat):List UInt8→Nat
 |[]=>n
 |c::r=>valD (10*n+(c.toNat-48)) r
def noInt (r:List UInt8):Bool:=decide (9007199254740991<valD 0 (r.take (rch isDg r)))||(decide (1<rch isDg r)&&decide ((r.getD 0 0).toNat=48))
def skp (o:Nat):Nat→List UInt8→Nat
 |0,r=>rch (isBl o) r
 |f+1,r=>bif decide (((r.drop (rch (isBl o) r)).getD 0 0).toNat=35)then
   rch (isBl o) r+rch isNl (r.drop (rch (isBl o) r))+skp o f (r.drop (rch (isBl o) r+rch isNl (r.drop (rch (isBl o) r))))
  else rch (isBl o) r
structure Tk where
 kind:Nat
 text:List UInt8
 num:Nat
 pos:Nat
structure Sp where
 pos:Nat
 toks:List Tk
 ins:List Nat
 opn:Nat
abbrev Ft:=Nat×Nat
def Sp.top (p:Sp):Nat:=p.ins.getD 0 0
def Sp.add (p:Sp)(k:Nat):Sp:={p with toks:=p.toks++[⟨k,[],0,p.pos⟩]}
def outF (i:Nat):Nat→Sp→Sp
 |0,p=>p
 |f+1,p=>if i<p.top then outF i f ({p with ins:=p.ins.drop 1}.add 8)else p
def Sp.come (p:Sp)(i:Nat):Sp:=
 let q:=if p.top<i then({p with ins:=i::p.ins}:Sp).add 7 else p
 outF i q.ins.length q
def refu (L:List UInt8)(p:Sp)(i:Nat):Nat:=
 let r:=L.drop p.pos
 let c:=r.getD 0 0
 if beg r=false∨(isCls c=true∧p.opn=0)then 1
 else if i<p.top∧i∉p.ins then 4
 else if isDg c=true∧noInt r=true then 3
 else if(isOpn c=true∧p.opn=30)∨(p.top<i∧30<p.ins.length)then 2
 else 0
def txt:Nat→List UInt8→List UInt8→Nat→Except Nat (List UInt8×Nat)
 |0,_,_,at_=>.error at_
 |f+1,r,said,at_=>
  let c:=(r.getD 0 0).toNat
  if r=[]then .error at_
  else if c=34 then .ok (said,at_+1)
  else if c=92 then
   let d:=((r.drop 1).getD 0 0).toNat
   if r.drop 1=[]then .error (at_+1)
   else if d=110 then txt f (r.drop 2) (said++[10]) (at_+2)
   else if d=116 then txt f (r.drop 2) (said++[9]) (at_+2)
   else if d=92∨d=34 then txt f (r.drop 2) (said++[(r.drop 1).getD 0 0]) (at_+2)
   else .error (at_+1)
  else if rch isPl r=0 then .error at_
  else txt f (r.drop (rch isPl r)) (said++r.take (rch isPl r)) (at_+rch isPl r)
def wordsL:List (List Nat):=[[97,110,100],[111,114],[110,111,116],[105,110],[105,102],[101,108,115,101],[102,111,114],[100,101,102],[114,101,116,117,114,110],[112,97,115,115],[84,114,117,101],[70,97,108,115,101],[78,111,110,101],[108,111,97,100]]
def isWd (t:List UInt8):Bool:=wordsL.contains (t.map (·.toNat))
def tok1 (L:List UInt8)(p:Sp):Except Ft Sp:=
 let r:=L.drop p.pos
 let c:=r.getD 0 0
 if c.toNat=34 then
  match txt (r.length+1) (r.drop 1) [] (p.pos+1)with
  | .error x=>.error (1,x)
  | .ok (t,x)=>.ok {p with pos:=x,toks:=p.toks++[⟨3,t,0,p.pos⟩]}
 else if isDg c then
  .ok {p with pos:=p.pos+rch isDg r,toks:=p.toks++[⟨2,r.take (rch isDg r),valD 0 (r.take (rch isDg r)),p.pos⟩]}
 else if isLt c then
  .ok {p with pos:=p.pos+rch isNm r,toks:=p.toks++[⟨bif isWd (r.take (rch isNm r))then 5 else 1,r.take (rch isNm r),0,p.pos⟩]}
 else
  .ok {p with pos:=p.pos+sgn r,toks:=p.toks++[⟨4,r.take (sgn r),0,p.pos⟩],opn:=if isOpn c then p.opn+1 else if isCls c then p.opn-1 else p.opn}
def Sp.skip (L:List UInt8)(p:Sp):Sp:={p with pos:=p.pos+skp p.opn L.length (L.drop p.pos)}
def endL (L:List UInt8)(p:Sp):Bool:=decide (p.pos=L.length)||decide (((L.drop p.pos).getD 0 0).toNat=10)
def toksF (L:List UInt8):Nat→Nat→Sp→Except Ft Sp
 |0,_,p=>.error (0,p.pos)
 |f+1,i,p=>
  if endL L p then .ok p
  else if refu L p i≠0 then .error (refu L p i,p.pos)
  else match tok1 L (p.come i)with
   | .error x=>.error x
   | .ok q=>toksF L f (q.skip L).top (q.skip L)
def lineF (L:List UInt8)(p:Sp):Except Ft Sp:=
 match toksF L (L.length+1) (skp p.opn L.length (L.drop p.pos)) (p.skip L)with
 | .error x=>.error x
 | .ok q=>if 0<q.opn then .error (1,q.pos)else if p.toks.length<q.toks.length then .ok (q.add 6)else .ok q
def linesF (L:List UInt8):Nat→Sp→Except Ft Sp
 |0,p=>.error (0,p.pos)
 |f+1,p=>
  if p.pos=L.length then .ok (p.come 0)
  else match lineF L p with
   | .error x=>.error x
   | .ok q=>if q.pos=L.length then .ok (q.come 0)else linesF L f {q with pos:=q.pos+1}
def splitL (L:List UInt8):Except Ft (List Tk):=
 match linesF L (L.length+1) ⟨0,[],[0],0⟩with
 | .error x=>.error x
 | .ok q=>.ok q.toks
end Go.Proofs.YtcaeeackccgclaaGreatDoor
