/- 1. -/
import Derived.Test.YthfgpkdbclogpaaGreatDoorChecked
import Derived.Below
import Derived.ProofKit
import Derived.Lib.Builder
import Derived.Lib.AppendStr
import Derived.Lib.UnsafeStr
import Derived.Lib.Strings
import Derived.Lib.Slices
import Derived.Lib.Walk
import Derived.Lib.OthersKept
import Derived.Laws.Externs
import Derived.WalkKit
import Derived.WalkSpells
import Derived.WalkLawsBesides
set_option maxHeartbeats 40000000
set_option maxRecDepth 100000
namespace Go.Proofs.YthfgpkdbclogpaaGreatDoor
open Go.RowKit
theorem szB:(Tryz.prog.info? 120).map (·.size)=some 2:=by kernel_rfl
theorem infB:(Tryz.prog.info? 5).map (fun i=>(i.zero,i.size,i.bytes))=some (some (.int .u8 0),1,1):=by kernel_rfl
theorem celB:Tryz.prog.cellsOf 5=1:=by kernel_rfl
theorem info_parts {i:Option TypeInfo}{z:Value}{s b:Nat}(h:i.map (fun i=>(i.zero,i.size,i.bytes))=some (some z,s,b)):∃ i0,i=some i0∧i0.zero=some z∧i0.size=s∧i0.bytes=b:=by
 cases i with
 |none=>cases h
 |some i0=>
  simp at h
  exact⟨i0,rfl,h.1,h.2.1,h.2.2⟩
def Kp (B b:Nat)(w w':World):Prop:=Below B w w'∧Lib.OthersKept 5 (some b) w w'
theorem Kp.bel {B b:Nat}{w w':World}(h:Kp B b w w'):Below B w w':=h.1
theorem Kp.size {B b:Nat}{w w':World}(h:Kp B b w w'):w.heap.size≤w'.heap.size:=h.1.size
theorem Kp.refl (B b:Nat)(w:World):Kp B b w w:=⟨Below.refl _ _,Lib.OthersKept.refl _ _ _⟩
theorem Kp.trans {B b:Nat}{a c d:World}(h:Kp B b a c)(k:Kp B b c d):Kp B b a d:=⟨h.1.trans k.1,h.2.trans k.2⟩
theorem own_kind {w:World}{B:Nat}{e:TypeId}{v:Value}{n:Nat}{xs:List Value}(h:w.ownsRow B e 1 v n xs):∀ g,v.ownBlock=some g→∃ c fz,w.heap[g]? =some (.cells c e fz):=by
 intro g hg
 rcases h.2 with⟨hv,_⟩|⟨g',cap,cur,hv,_,hh,_⟩
 ·rw[hv]at hg;cases hg
 ·rw[hv]at hg
  obtain rfl:g'=g:=by simpa[Value.ownBlock]using hg
  exact⟨_,_,hh⟩
theorem cc_used (b:Nat)(w:World)(h0:w.cell? ⟨b,0,none⟩=some (.pointer (some ⟨b,0,none⟩))):
  Calls Tryz.prog 163 #[.pointer (some ⟨b,0,none⟩)] w fun e w'=>e= .returned (.tuple #[])∧w'=w:=by
 obtain⟨j,hj,_⟩:=Option.map_eq_some_iff.1 szB
 go_enter Tryz.func163,Tryz.ntmps163
 go_wp2
 rw[Lib.run_neq_ptr_same w _ Tryz.underlying118 hj]
 go_wp2
 go_end0
 exact⟨rfl,rfl⟩
theorem lieL:liesAt Tryz.prog Tryz.prog.depth 120 (2/Tryz.prog.cellsOf 120) 0 120 1=true:=by kernel_rfl
abbrev BdAt (B b:Nat)(p:Value)(bs:List Value)(w:World):Prop:=Lib.BuilderAt 120 5 B b p bs w
abbrev BdIs (B b:Nat)(bs:List Value)(w:World):Prop:=Lib.IsBuilder 120 5 B b bs w
theorem ccL_fresh (b:Nat)(w:World)(h0:w.cell? ⟨b,0,none⟩=some (.pointer none))(hsh:w.shape? b=some (120,2))(hfz:w.frozen? ⟨b,0,none⟩=false):
  Calls Tryz.prog 163 #[.pointer (some ⟨b,0,none⟩)] w fun e w'=>e= .returned (.tuple #[])∧w'=w.setCell ⟨b,0,none⟩ (.pointer (some ⟨b,0,none⟩)):=by
 obtain⟨j,hj,hjs⟩:=Option.map_eq_some_iff.1 szB
 go_enter Tryz.func163,Tryz.ntmps163
 go_wp2
 rw[Lib.run_to_unsafe w ⟨b,0,none⟩ Tryz.underlying118 Tryz.underlying247 hj (by rw[hjs];decide) hsh (Nat.zero_lt_succ 1)]
 simp only[Result.andThen]
 rw[Oper.upon_value]
 go_wp2
 rw[run_callFunc_extern Tryz.func203 (by kernel_rfl) (by kernel_rfl) (by kernel_rfl) (e:=Extern.AbiNoEscape.same) (by kernel_rfl)]
 rw[Lib.run_noEscape]
 simp only[Result.andThen]
 rw[Oper.upon_value]
 go_wp2
 rw[Lib.run_from_unsafe w ⟨b,0,none⟩ Tryz.underlying247 Tryz.underlying118 hj hsh lieL]
 simp only[Result.andThen]
 rw[Oper.upon_value]
 go_wp2
 go_end0
 exact⟨rfl,rfl⟩
theorem ccL_any (B b:Nat)(bs:List Value)(w:World)(h:BdIs B b bs w):
  Calls Tryz.prog 163 #[.pointer (some ⟨b,0,none⟩)] w fun e w'=>e= .returned (.tuple #[])∧(BdAt B b (.pointer (some ⟨b,0,none⟩)) bs w'∧Kp B b w w'):=by
 rcases h with h|h
 ·refine(ccL_fresh b w h.cell0 h.shape h.frozen0).mono ?_
  rintro e w' ⟨rfl,rfl⟩
  exact⟨rfl,h.used _,(Below.refl B w).setCell (p:=⟨b,0,none⟩) h.1 _,(Lib.OthersKept.refl _ _ _).setCell ⟨b,0,none⟩ rfl _⟩
 ·refine(cc_used b w h.cell0).mono ?_
  rintro e w' ⟨rfl,rfl⟩
  exact⟨rfl,h,Kp.refl _ _ _⟩
theorem wbL_any (B b:Nat)(bs:List Value)(c:Int)(w:World)(h:BdIs B b bs w)(hlen:bs.length+1≤140737488355328)(hBw:B≤w.heap.size):
  Calls Tryz.prog 191 #[.pointer (some ⟨b,0,none⟩),.int .u8 c] w fun e w'=>e= .returned .nilIface∧(BdAt B b (.pointer (some ⟨b,0,none⟩)) (bs++[.int .u8 c]) w'∧Kp B b w w'):=by
 obtain⟨i0,hi,hz0,hz1,hz2⟩:=info_parts infB
 go_enter Tryz.func191,Tryz.ntmps191
 go_wp2_with (go_at_call 163;refine(ccL_any B b bs _ h).mono ?_)
 rintro e w1 ⟨rfl,h1,hb1,hk1⟩
 obtain⟨hB,v,hbk,hown,hne⟩:=h1
 have c0:w1.cell? ⟨b,0,none⟩=some (.pointer (some ⟨b,0,none⟩)):=by rw[Lib.cell_of_heap hbk];rfl
 have c1:w1.cell? ⟨b,1,none⟩=some v:=by rw[Lib.cell_of_heap hbk];rfl
 go_wp2_with (at_builtin;refine wpList_append_own _ rfl _ _ 28 rfl B 5 i0 (.int .u8 0) 1 1 Tryz.underlying28 hi hz0 hz1 hz2 rfl (by decide) _ _ _ rfl (hown.alloc _) ⟨w1.heap.size,0,none⟩ 1 1 [.int .u8 c] rfl rfl ?c1 ?c2 ?c3 ?c4 ?c5 ?_)
 case c1=>
  intro j u hj
  match j,hj with
  |0,hj=>simp at hj;subst hj;simp[Addr.add]
 case c2=>intro u hu;simp at hu;subst hu;rfl
 case c3=>unfold maxLen;omega
 case c4=>omega
 case c5=>have:=hb1.size;simp;omega
 intro v' w2 hown' hgrow _
 have hlt:b<w1.heap.size:=by
  rcases Nat.lt_or_ge b w1.heap.size with h'|h'
  ·exact h'
  ·simp[Array.getElem?_eq_none h']at hbk
 have hb2:w2.heap[b]? =some (.cells #[.pointer (some ⟨b,0,none⟩),v] 120 (0,0)):=by
  rw[hgrow.block b (by simp;omega) (fun e=>hne e.symm),Lib.alloc_old w1 _ b hlt]
  exact hbk
 have d0:w2.cell? ⟨b,0,none⟩=some (.pointer (some ⟨b,0,none⟩)):=by rw[Lib.cell_of_heap hb2];rfl
 have d1:w2.cell? ⟨b,1,none⟩=some v:=by rw[Lib.cell_of_heap hb2];rfl
 have f1:w2.frozen? ⟨b,1,none⟩=false:=Lib.frozen_of_heap hb2 1
 obtain⟨g,cap,rfl⟩:∃ g cap,v'= .slice (some ⟨g,0,none⟩) (bs.length+1) cap:=by
  rcases hown'.2 with⟨_,h0⟩|⟨g,cap,cur,hv,_⟩
  ·omega
  ·exact⟨g,cap,hv⟩
 go_wp2
 go_ret
 refine⟨rfl,?_,?_,((hk1.alloc _).grown hgrow (own_kind (hown.alloc _))).setCell ⟨b,1,none⟩ rfl _⟩
 ·exact Lib.BuilderAt.put (T:=120) (e:=5) hB hb2 (bs':=bs++[.int .u8 c]) (by simpa using hown') (by decide)
 ·exact((hb1.alloc (by have:=hb1.size;omega) _).grown hgrow (by have:=hb1.size;simp;omega) (fun k hk=>(hown.lt k hk).1)).setCell (p:=⟨b,1,none⟩) hB _
theorem wsL_any (B b:Nat)(bs:List Value)(s:ByteArray)(w:World)(h:BdIs B b bs w)(hlen:bs.length+s.size≤140737488355328)(hBw:B≤w.heap.size):
  Calls Tryz.prog 128 #[.pointer (some ⟨b,0,none⟩),.string s] w fun e w'=>e= .returned (.tuple #[.int .i64 s.size,.nilIface])∧(BdAt B b (.pointer (some ⟨b,0,none⟩)) (bs++Lib.strCells s) w'∧Kp B b w w'):=by
 obtain⟨i0,hi,hz0,hz1,hz2⟩:=info_parts infB
 go_enter Tryz.func128,Tryz.ntmps128
 go_wp2_with (go_at_call 163;refine(ccL_any B b bs _ h).mono ?_)
 rintro e w1 ⟨rfl,h1,hb1,hk1⟩
 obtain⟨hB,v,hbk,hown,hne⟩:=h1
 have c0:w1.cell? ⟨b,0,none⟩=some (.pointer (some ⟨b,0,none⟩)):=by rw[Lib.cell_of_heap hbk];rfl
 have c1:w1.cell? ⟨b,1,none⟩=some v:=by rw[Lib.cell_of_heap hbk];rfl
 go_wp2_with (at_builtin;refine Lib.wpList_append_own_string _ rfl _ _ 28 9 rfl B 5 i0 Tryz.underlying28 Tryz.underlying9 hi hz0 hz1 hz2 _ _ _ rfl hown s rfl ?c3 ?c4 ?c5 ?_)
 case c3=>unfold maxLen;omega
 case c4=>omega
 case c5=>have:=hb1.size;omega
 intro v' w2 hown' hgrow _
 have hlt:b<w1.heap.size:=by
  rcases Nat.lt_or_ge b w1.heap.size with h'|h'
  ·exact h'
  ·simp[Array.getElem?_eq_none h']at hbk
 have hb2:w2.heap[b]? =some (.cells #[.pointer (some ⟨b,0,none⟩),v] 120 (0,0)):=by
  rw[hgrow.block b hlt (fun e=>hne e.symm)]
  exact hbk
 have d0:w2.cell? ⟨b,0,none⟩=some (.pointer (some ⟨b,0,none⟩)):=by rw[Lib.cell_of_heap hb2];rfl
 have d1:w2.cell? ⟨b,1,none⟩=some v:=by rw[Lib.cell_of_heap hb2];rfl
 have f1:w2.frozen? ⟨b,1,none⟩=false:=Lib.frozen_of_heap hb2 1
 obtain⟨ao,n',cap,rfl⟩:∃ ao n' cap,v'= .slice ao n' cap:=by
  rcases hown'.2 with⟨hv,_⟩|⟨g,cap,cur,hv,_⟩
  ·exact⟨_,_,_,hv⟩
  ·exact⟨_,_,_,hv⟩
 go_wp2
 go_ret2
 refine⟨rfl,?_,?_,(hk1.grown hgrow (own_kind hown)).setCell ⟨b,1,none⟩ rfl _⟩
 ·exact Lib.BuilderAt.put (T:=120) (e:=5) hB hb2 (bs':=bs++Lib.strCells s) (by simpa[Lib.strCells_length]using hown') (by decide)
 ·exact(hb1.grown hgrow (by have:=hb1.size;omega) (fun k hk=>(hown.lt k hk).1)).setCell (p:=⟨b,1,none⟩) hB _
theorem stL_any (B b:Nat)(l:List UInt8)(w:World)(h:BdIs B b (Lib.byteCells l) w)(h0:l≠[]):
  Calls Tryz.prog 83 #[.pointer (some ⟨b,0,none⟩)] w fun e w'=>e= .returned (.string ⟨l.toArray⟩)∧Below B w w':=by
 obtain⟨p,hB,v,hbk,hown,hne⟩:∃ p,BdAt B b p (Lib.byteCells l) w:=by
  rcases h with h|h
  ·exact⟨_,h⟩
  ·exact⟨_,h⟩
 have hl0:l.length≠0:=by simpa using h0
 rw[Lib.byteCells_length]at hown
 obtain⟨g,cap,cur,rfl,hbg,hg,hnc,hcm,hcs,htake⟩:∃ g cap cur,v= .slice (some ⟨g,0,none⟩) l.length cap∧B≤g∧w.heap[g]? =some (.cells cur 5 (0,0))∧l.length≤cap∧cap≤maxLen∧cur.size=cap*1∧cur.toList.take (l.length*1)=Lib.byteCells l:=by
  rcases hown.2 with⟨_,hz⟩|⟨g,cap,cur,hv,r⟩
  ·exact absurd hz hl0
  ·exact⟨g,cap,cur,hv,r⟩
 have c1:w.cell? ⟨b,1,none⟩=some (.slice (some ⟨g,0,none⟩) l.length cap):=by rw[Lib.cell_of_heap hbk];rfl
 have hSD:(Builtin.unsafeSliceData_ #[28] 127 #[.slice (some ⟨g,0,none⟩) l.length cap]).run Tryz.prog w.drew= .ok (.pointer (some ⟨g,0,none⟩)) w.drew:=
  Lib.run_unsafeSliceData_row _ _ _ _ _ _ (by omega)
 have hUS:(Builtin.unsafeString_ #[127,3] 9 #[.pointer (some ⟨g,0,none⟩),.int .i64 l.length]).run Tryz.prog w.drew= .ok (.string ⟨l.toArray⟩) (w.drew.freeze ⟨g,0,none⟩ l.length):=by
  refine Lib.run_unsafeString_row w.drew 127 3 9 5 Tryz.underlying127 celB g cur.size (by have hg':w.drew.heap[g]? =some (.cells cur 5 (0,0)):=hg;simp[World.shape?,hg']) l h0 (by omega) (by unfold maxLen at hcm;omega) ?_
  intro j x hx
  have:=hown.cells (g:=g) rfl j (.int .u8 x.toNat) (by simp[Lib.byteCells,hx])
  exact this
 go_enter Tryz.func83,Tryz.ntmps83
 go_wp2
 go_region
 all_goals(go_wp2;go_ret;exact⟨rfl,Lib.below_freeze (Below.drew (Below.refl B w)) (p:=⟨g,0,none⟩) hbg _⟩)
theorem stL_zero (B b:Nat)(w:World)(h:BdIs B b [] w)(hBw:B≤w.heap.size):
  Calls Tryz.prog 83 #[.pointer (some ⟨b,0,none⟩)] w fun e w'=>e= .returned (.string ⟨#[]⟩)∧Below B w w':=by
 obtain⟨p,hB,v,hbk,hown,hne⟩:∃ p,BdAt B b p [] w:=by
  rcases h with h|h
  ·exact⟨_,h⟩
  ·exact⟨_,h⟩
 have hown':w.ownsRow B 5 1 v 0 []:=hown
 have c1:w.cell? ⟨b,1,none⟩=some v:=by rw[Lib.cell_of_heap hbk];rfl
 rcases hown'.2 with⟨rfl,_⟩|⟨g,cap,cur,rfl,hbg,hg,_,_,hcs,_⟩
 ·have hSD:(Builtin.unsafeSliceData_ #[28] 127 #[.slice none 0 0]).run Tryz.prog w.drew= .ok (.pointer none) w.drew:=Lib.run_unsafeSliceData_nil _ _ _ _ _
  have hUS:(Builtin.unsafeString_ #[127,3] 9 #[.pointer none,.int .i64 0]).run Tryz.prog w.drew= .ok (.string ⟨#[]⟩) w.drew:=Lib.run_unsafeString_none _ _ _ _ _
  clear hown hown' hbk hne
  go_enter Tryz.func83,Tryz.ntmps83
  go_wp2
  go_region
  all_goals(go_wp2;go_ret;exact⟨rfl,(Below.refl B w).drew⟩)
 ·by_cases hc0:cap=0
  ·subst hc0
   have hsh:w.drew.shape? g=some (5,cur.size):=by
    have hg':w.drew.heap[g]? =some (.cells cur 5 (0,0)):=hg
    simp[World.shape?,hg']
   have hSD:(Builtin.unsafeSliceData_ #[28] 127 #[.slice (some ⟨g,0,none⟩) 0 0]).run Tryz.prog w.drew= .ok (.pointer (some ⟨w.heap.size,0,none⟩)) (w.drew.alloc (.view ⟨g,0,none⟩ 5)):=Lib.run_unsafeSliceData_zero _ _ _ _ Tryz.underlying127 _ _ _ hsh
   have hUS:∀ W:World,(Builtin.unsafeString_ #[127,3] 9 #[.pointer (some ⟨w.heap.size,0,none⟩),.int .i64 0]).run Tryz.prog W= .ok (.string ⟨#[]⟩) W:=fun W=>Lib.run_unsafeString_none _ _ _ _ _
   have hc1:w.drew.cell? ⟨b,1,none⟩=some (.slice (some ⟨g,0,none⟩) 0 0):=c1
   have hbl:b<w.heap.size:=World.block_lt_of_cell? w ⟨b,1,none⟩ c1
   have hc2:(w.alloc (.view ⟨g,0,none⟩ 5)).drew.cell? ⟨b,1,none⟩=some (.slice (some ⟨g,0,none⟩) 0 0):=(World.cell?_alloc_lt w _ ⟨b,1,none⟩ hbl).trans c1
   clear hown hown' hbk hne
   go_enter Tryz.func83,Tryz.ntmps83
   go_wp2
   go_region
   all_goals(go_wp2;go_ret;exact⟨rfl,((Below.refl B w).alloc hBw _).drew⟩)
  ·have hSD:(Builtin.unsafeSliceData_ #[28] 127 #[.slice (some ⟨g,0,none⟩) 0 cap]).run Tryz.prog w.drew= .ok (.pointer (some ⟨g,0,none⟩)) w.drew:=Lib.run_unsafeSliceData_row _ _ _ _ _ _ hc0
   have hUS:(Builtin.unsafeString_ #[127,3] 9 #[.pointer (some ⟨g,0,none⟩),.int .i64 0]).run Tryz.prog w.drew= .ok (.string ⟨#[]⟩) w.drew:=Lib.run_unsafeString_none _ _ _ _ _
   clear hown hown' hbk hne
   go_enter Tryz.func83,Tryz.ntmps83
   go_wp2
   go_region
   all_goals(go_wp2;go_ret;exact⟨rfl,(Below.refl B w).drew⟩)
theorem lieV:liesAt Tryz.prog Tryz.prog.depth 122 (3/Tryz.prog.cellsOf 122) 0 120 1=true:=by kernel_rfl
def VrAt (B b:Nat)(n:Value)(p:Value)(bs:List Value)(w:World):Prop:=B≤b∧∃ v,w.heap[b]? =some (.cells #[p,v,n] 122 (0,0))∧w.ownsRow B 5 1 v bs.length bs∧v.ownBlock≠some b
def VrIs (B b:Nat)(n:Value)(bs:List Value)(w:World):Prop:=VrAt B b n (.pointer none) bs w∨VrAt B b n (.pointer (some ⟨b,0,none⟩)) bs w
theorem rowKeepV {w w':World}{B n sz:Nat}{e:TypeId}{v:Value}{xs:List Value}(h:w.ownsRow B e sz v n xs)(hk:∀ g,v.ownBlock=some g→w'.heap[g]? =w.heap[g]?):w'.ownsRow B e sz v n xs:=by
 refine⟨h.1,?_⟩
 rcases h.2 with h2|⟨g,cap,cur,a,b,hg,r⟩
 ·exact .inl h2
 ·exact .inr ⟨g,cap,cur,a,b,(hk g (by rw[a];rfl)).trans hg,r⟩
theorem vr_put {B b:Nat}{n:Value}{p v v':Value}{bs':List Value}{w:World}(hB:B≤b)(hb:w.heap[b]? =some (.cells #[p,v,n] 122 (0,0)))(hown:w.ownsRow B 5 1 v' bs'.length bs'):VrAt B b n p bs' (w.setCell ⟨b,1,none⟩ v'):=by
 have hne:v'.ownBlock≠some b:=fun e=>by
  obtain⟨c,fz,hc⟩:=own_kind hown b e
  rw[hb]at hc
  injection hc with hc
  injection hc with _ hc
  exact absurd hc (by decide)
 refine⟨hB,v',by simp[World.setCell,Array.getElem?_modify,hb],rowKeepV hown fun g hg=>?_,hne⟩
 exact Below.heap_setCell w ⟨b,1,none⟩ v' g (fun e=>hne (by rw[hg];first|rw[e]|rw[←e]))
theorem VrAt.used {B b:Nat}{n:Value}{p:Value}{bs:List Value}{w:World}(h:VrAt B b n p bs w):VrAt B b n (.pointer (some ⟨b,0,none⟩)) bs (w.setCell ⟨b,0,none⟩ (.pointer (some ⟨b,0,none⟩))):=by
 obtain⟨hB,v,hb,hown,hne⟩:=h
 refine⟨hB,v,by simp[World.setCell,Array.getElem?_modify,hb],rowKeepV hown fun g hg=>?_,hne⟩
 exact Below.heap_setCell w ⟨b,0,none⟩ _ g (fun e=>hne (by rw[hg];first|rw[e]|rw[←e]))
theorem ccV_fresh (b:Nat)(w:World)(h0:w.cell? ⟨b,0,none⟩=some (.pointer none))(hsh:w.shape? b=some (122,3))(hfz:w.frozen? ⟨b,0,none⟩=false):
  Calls Tryz.prog 163 #[.pointer (some ⟨b,0,none⟩)] w fun e w'=>e= .returned (.tuple #[])∧w'=w.setCell ⟨b,0,none⟩ (.pointer (some ⟨b,0,none⟩)):=by
 obtain⟨j,hj,hjs⟩:=Option.map_eq_some_iff.1 szB
 go_enter Tryz.func163,Tryz.ntmps163
 go_wp2
 rw[Lib.run_to_unsafe w ⟨b,0,none⟩ Tryz.underlying118 Tryz.underlying247 hj (by rw[hjs];decide) hsh (Nat.zero_lt_succ 2)]
 simp only[Result.andThen]
 rw[Oper.upon_value]
 go_wp2
 rw[run_callFunc_extern Tryz.func203 (by kernel_rfl) (by kernel_rfl) (by kernel_rfl) (e:=Extern.AbiNoEscape.same) (by kernel_rfl)]
 rw[Lib.run_noEscape]
 simp only[Result.andThen]
 rw[Oper.upon_value]
 go_wp2
 rw[Lib.run_from_unsafe w ⟨b,0,none⟩ Tryz.underlying247 Tryz.underlying118 hj hsh lieV]
 simp only[Result.andThen]
 rw[Oper.upon_value]
 go_wp2
 go_end0
 exact⟨rfl,rfl⟩
theorem ccV_any (B b:Nat)(n:Value)(bs:List Value)(w:World)(h:VrIs B b n bs w):
  Calls Tryz.prog 163 #[.pointer (some ⟨b,0,none⟩)] w fun e w'=>e= .returned (.tuple #[])∧(VrAt B b n (.pointer (some ⟨b,0,none⟩)) bs w'∧Kp B b w w'):=by
 rcases h with h|h
 ·obtain⟨hB,v,hb,_,_⟩:=id h
  refine(ccV_fresh b w (by rw[Lib.cell_of_heap hb];rfl) (by simp[World.shape?,hb]) (Lib.frozen_of_heap hb 0)).mono ?_
  rintro e w' ⟨rfl,rfl⟩
  exact⟨rfl,h.used,(Below.refl B w).setCell (p:=⟨b,0,none⟩) h.1 _,(Lib.OthersKept.refl _ _ _).setCell ⟨b,0,none⟩ rfl _⟩
 ·obtain⟨hB,v,hb,_,_⟩:=id h
  refine(cc_used b w (by rw[Lib.cell_of_heap hb];rfl)).mono ?_
  rintro e w' ⟨rfl,rfl⟩
  exact⟨rfl,h,Kp.refl _ _ _⟩
theorem wsV_any (B b:Nat)(n:Value)(bs:List Value)(s:ByteArray)(w:World)(h:VrIs B b n bs w)(hlen:bs.length+s.size≤140737488355328)(hBw:B≤w.heap.size):
  Calls Tryz.prog 128 #[.pointer (some ⟨b,0,none⟩),.string s] w fun e w'=>e= .returned (.tuple #[.int .i64 s.size,.nilIface])∧(VrAt B b n (.pointer (some ⟨b,0,none⟩)) (bs++Lib.strCells s) w'∧Kp B b w w'):=by
 obtain⟨i0,hi,hz0,hz1,hz2⟩:=info_parts infB
 go_enter Tryz.func128,Tryz.ntmps128
 go_wp2_with (go_at_call 163;refine(ccV_any B b n bs _ h).mono ?_)
 rintro e w1 ⟨rfl,h1,hb1,hk1⟩
 obtain⟨hB,v,hbk,hown,hne⟩:=h1
 have c0:w1.cell? ⟨b,0,none⟩=some (.pointer (some ⟨b,0,none⟩)):=by rw[Lib.cell_of_heap hbk];rfl
 have c1:w1.cell? ⟨b,1,none⟩=some v:=by rw[Lib.cell_of_heap hbk];rfl
 go_wp2_with (at_builtin;refine Lib.wpList_append_own_string _ rfl _ _ 28 9 rfl B 5 i0 Tryz.underlying28 Tryz.underlying9 hi hz0 hz1 hz2 _ _ _ rfl hown s rfl ?c3 ?c4 ?c5 ?_)
 case c3=>unfold maxLen;omega
 case c4=>omega
 case c5=>have:=hb1.size;omega
 intro v' w2 hown' hgrow _
 have hlt:b<w1.heap.size:=by
  rcases Nat.lt_or_ge b w1.heap.size with h'|h'
  ·exact h'
  ·simp[Array.getElem?_eq_none h']at hbk
 have hb2:w2.heap[b]? =some (.cells #[.pointer (some ⟨b,0,none⟩),v,n] 122 (0,0)):=by
  rw[hgrow.block b hlt (fun e=>hne e.symm)]
  exact hbk
 have d0:w2.cell? ⟨b,0,none⟩=some (.pointer (some ⟨b,0,none⟩)):=by rw[Lib.cell_of_heap hb2];rfl
 have d1:w2.cell? ⟨b,1,none⟩=some v:=by rw[Lib.cell_of_heap hb2];rfl
 have f1:w2.frozen? ⟨b,1,none⟩=false:=Lib.frozen_of_heap hb2 1
 obtain⟨ao,n',cap,rfl⟩:∃ ao n' cap,v'= .slice ao n' cap:=by
  rcases hown'.2 with⟨hv,_⟩|⟨g,cap,cur,hv,_⟩
  ·exact⟨_,_,_,hv⟩
  ·exact⟨_,_,_,hv⟩
 go_wp2
 go_ret2
 refine⟨rfl,?_,?_,(hk1.grown hgrow (own_kind hown)).setCell ⟨b,1,none⟩ rfl _⟩
 ·exact vr_put hB hb2 (bs':=bs++Lib.strCells s) (by simpa[Lib.strCells_length]using hown')
 ·exact(hb1.grown hgrow (by have:=hb1.size;omega) (fun k hk=>(hown.lt k hk).1)).setCell (p:=⟨b,1,none⟩) hB _
theorem bsV_any (B b:Nat)(n:Value)(l:List UInt8)(w:World)(h:VrIs B b n (Lib.byteCells l) w)(h0:l≠[]):
  Calls Tryz.prog 83 #[.pointer (some ⟨b,0,none⟩)] w fun e w'=>e= .returned (.string ⟨l.toArray⟩)∧Below B w w':=by
 obtain⟨p,hB,v,hbk,hown,hne⟩:∃ p,VrAt B b n p (Lib.byteCells l) w:=by
  rcases h with h|h
  ·exact⟨_,h⟩
  ·exact⟨_,h⟩
 have hl0:l.length≠0:=by simpa using h0
 rw[Lib.byteCells_length]at hown
 obtain⟨g,cap,cur,rfl,hbg,hg,hnc,hcm,hcs,htake⟩:∃ g cap cur,v= .slice (some ⟨g,0,none⟩) l.length cap∧B≤g∧w.heap[g]? =some (.cells cur 5 (0,0))∧l.length≤cap∧cap≤maxLen∧cur.size=cap*1∧cur.toList.take (l.length*1)=Lib.byteCells l:=by
  rcases hown.2 with⟨_,hz⟩|⟨g,cap,cur,hv,r⟩
  ·exact absurd hz hl0
  ·exact⟨g,cap,cur,hv,r⟩
 have c1:w.cell? ⟨b,1,none⟩=some (.slice (some ⟨g,0,none⟩) l.length cap):=by rw[Lib.cell_of_heap hbk];rfl
 have hSD:(Builtin.unsafeSliceData_ #[28] 127 #[.slice (some ⟨g,0,none⟩) l.length cap]).run Tryz.prog w.drew= .ok (.pointer (some ⟨g,0,none⟩)) w.drew:=
  Lib.run_unsafeSliceData_row _ _ _ _ _ _ (by omega)
 have hUS:(Builtin.unsafeString_ #[127,3] 9 #[.pointer (some ⟨g,0,none⟩),.int .i64 l.length]).run Tryz.prog w.drew= .ok (.string ⟨l.toArray⟩) (w.drew.freeze ⟨g,0,none⟩ l.length):=by
  refine Lib.run_unsafeString_row w.drew 127 3 9 5 Tryz.underlying127 celB g cur.size (by have hg':w.drew.heap[g]? =some (.cells cur 5 (0,0)):=hg;simp[World.shape?,hg']) l h0 (by omega) (by unfold maxLen at hcm;omega) ?_
  intro j x hx
  have:=hown.cells (g:=g) rfl j (.int .u8 x.toNat) (by simp[Lib.byteCells,hx])
  exact this
 go_enter Tryz.func83,Tryz.ntmps83
 go_wp2
 go_region
 all_goals(go_wp2;go_ret;exact⟨rfl,Lib.below_freeze (Below.drew (Below.refl B w)) (p:=⟨g,0,none⟩) hbg _⟩)
end Go.Proofs.YthfgpkdbclogpaaGreatDoor
namespace Go.Proofs.YthfgpkdbclogpaaGreatDoor
open Go.RowKit
abbrev nmV (n:Int):Value:= .iface 84 (.int .i64 n)
abbrev trV (b:Bool):Value:= .iface 104 (.bool b)
abbrev txV (s:ByteArray):Value:= .iface 87 (.string s)
abbrev PE (k:Int):Ending:= .panicked [{v:= .iface 25 (.int .i64 k),recovered:=false}]
theorem gup_any (b:Bool)(k:Int)(w:World):Calls Tryz.prog 25 #[.bool b,.int .i64 k] w fun e w'=>(e=bif b then PE k else .returned (.tuple #[]))∧w'=w:=by
 cases b
 ·go_enter Tryz.func25,Tryz.ntmps25
  go_wp2
  go_end0
  exact⟨rfl,rfl⟩
 ·go_enter Tryz.func25,Tryz.ntmps25
  go_wp2
  exact⟨rfl,rfl,rfl⟩
theorem ta_nm (n:Int)(w:World):(Instr.typeAssert (nmV n) 74 84 true).run Tryz.prog w= .ok (.tuple #[.int .i64 n,.bool true]) w:=by
 simp[Instr.typeAssert,run_underlying Tryz.underlying84,go_sem,Result.andThen]
attribute [local go_sem] ta_nm
theorem asInt_any (n:Int)(w:World):Calls Tryz.prog 45 #[nmV n] w fun e w'=>e= .returned (.int .i64 n)∧w'=w:=by
 have HG:=gup_any false 8 w
 go_enter Tryz.func45,Tryz.ntmps45
 go_wp2_with fail
 refine HG.mono ?_
 rintro e w' ⟨rfl,rfl⟩
 go_wp2
 go_ret
 exact⟨rfl,rfl⟩
theorem newNumber_any (n:Int)(h1:-9007199254740991≤n)(h2:n≤9007199254740991)(w:World):Calls Tryz.prog 71 #[.int .i64 n] w fun e w'=>e= .returned (.int .i64 n)∧w'=w:=by
 have HG:=gup_any false 3 w
 have g1:decide (n < -9007199254740991)=false:=by rw[decide_eq_false_iff_not];omega
 have g2:decide (9007199254740991<n)=false:=by rw[decide_eq_false_iff_not];omega
 go_enter Tryz.func71,Tryz.ntmps71
 go_wp2_with fail
 refine HG.mono ?_
 rintro e w' ⟨rfl,rfl⟩
 go_wp2
 go_ret
 exact⟨rfl,rfl⟩
theorem quotient_none (a:Int)(w:World):Calls Tryz.prog 75 #[.int .i64 a,.int .i64 0] w fun e w'=>e=PE 3∧w'=w:=by
 have HG:=gup_any true 3 w
 go_enter Tryz.func75,Tryz.ntmps75
 go_wp2_with fail
 refine HG.mono ?_
 rintro e w' ⟨rfl,rfl⟩
 exact⟨rfl,rfl,rfl⟩
theorem tdiv_in (a b:Int)(h1:-9007199254740991≤a)(h2:a≤9007199254740991):-9007199254740991≤a.tdiv b∧a.tdiv b≤9007199254740991:=by
 have h:(a.tdiv b).natAbs=a.natAbs/b.natAbs:=Int.natAbs_tdiv a b
 have h3:=Nat.div_le_self a.natAbs b.natAbs
 omega
theorem fdiv_lo (a b:Int)(hb:b≠0)(h:¬a.tmod b=0)(hs:(!(decide (a<0)==decide (b<0)))=true):a.fdiv b=a.tdiv b-1:=by
 have hd:¬b ∣ a:=fun x=>h (Int.dvd_iff_tmod_eq_zero.mp x)
 rw[Int.fdiv_eq_tdiv,if_neg hd]
 by_cases ha:a<0
 ·have hB:¬b<0:=by simpa[ha]using hs
  rw[if_neg (by omega),if_pos (by omega),Int.sign_eq_one_of_pos (by omega)]
 ·have hB:b<0:=by simpa[ha]using hs
  rw[if_pos (by omega),if_neg (by omega)]
theorem fdiv_hi (a b:Int)(h:a.tmod b=0∨(!(decide (a<0)==decide (b<0)))=false):a.fdiv b=a.tdiv b:=by
 rw[Int.fdiv_eq_tdiv]
 by_cases hd:b ∣ a
 ·rw[if_pos hd];omega
 ·have hs:(!(decide (a<0)==decide (b<0)))=false:=h.resolve_left fun x=>hd (Int.dvd_of_tmod_eq_zero x)
  rw[if_neg hd]
  by_cases ha:a<0
  ·have hB:b<0:=by simpa[ha]using hs
   rw[if_neg (by omega),if_neg (by omega),Int.sign_eq_neg_one_of_neg hB];omega
  ·have hB:¬b<0:=by simpa[ha]using hs
   rw[if_pos (by omega),if_pos (by omega)];omega
theorem quotient_any (a b:Int)(hb:b≠0)(ha1:-9007199254740991≤a)(ha2:a≤9007199254740991)(w:World):Calls Tryz.prog 75 #[.int .i64 a,.int .i64 b] w fun e w'=>e= .returned (.int .i64 (a.fdiv b))∧w'=w:=by
 have HG:=gup_any false 3 w
 have hin:=tdiv_in a b ha1 ha2
 have w1:RowKit.wrap64 (a.tdiv b)=a.tdiv b:=by unfold RowKit.wrap64;omega
 have w2:RowKit.wrap64 (a.tdiv b-1)=a.tdiv b-1:=by unfold RowKit.wrap64;omega
 have hbb:(b==(0:Int))=false:=by rw[beq_eq_false_iff_ne];exact hb
 go_enter Tryz.func75,Tryz.ntmps75
 go_wp2_with fail
 refine HG.mono ?_
 rintro e w' ⟨rfl,rfl⟩
 go_wp2
 ·rename_i h1
  go_ret
  rw[fdiv_hi a b (.inl h1)]
  exact⟨rfl,rfl⟩
 ·rename_i h1 h2
  go_ret
  rw[fdiv_lo a b hb h1 h2.2]
  exact⟨rfl,rfl⟩
 ·rename_i h1 h2
  go_ret
  rw[fdiv_hi a b (.inr (h2.resolve_left (by simp[h1])))]
  exact⟨rfl,rfl⟩
end Go.Proofs.YthfgpkdbclogpaaGreatDoor
namespace Go.Proofs.YthfgpkdbclogpaaGreatDoor
open Go.RowKit
theorem ta_nm_tx (n:Int)(w:World):(Instr.typeAssert (nmV n) 74 87 true).run Tryz.prog w= .ok (.tuple #[.string ⟨#[]⟩,.bool false]) w:=by
 simp[Instr.typeAssert,run_underlying Tryz.underlying87,go_sem,Result.andThen]
theorem ta_nm_l (n:Int)(w:World):(Instr.typeAssert (nmV n) 74 88 true).run Tryz.prog w= .ok (.tuple #[.slice none 0 0,.bool false]) w:=by
 simp[Instr.typeAssert,run_underlying Tryz.underlying88,go_sem,Result.andThen]
attribute [local go_sem] ta_nm ta_nm_tx ta_nm_l
theorem times_in (a b:Int)(ha:a≠0)(h1:-9007199254740991≤a*b)(h2:a*b≤9007199254740991):max b (-b)≤9007199254740991/max a (-a):=by
 have hm:b*a=a*b:=Int.mul_comm b a
 have e1:b * -a=-(a*b):=by rw[Int.mul_neg,hm]
 have e2:-b*a=-(a*b):=by rw[Int.neg_mul,hm]
 have e3:-b * -a=a*b:=by rw[Int.neg_mul_neg,hm]
 refine(Int.le_ediv_iff_mul_le (by omega)).mpr ?_
 rcases Int.le_total a (-a)with ha'|ha'<;>rcases Int.le_total b (-b)with hb'|hb'
 ·rw[Int.max_eq_right ha',Int.max_eq_right hb',e3];omega
 ·rw[Int.max_eq_right ha',Int.max_eq_left hb',e1];omega
 ·rw[Int.max_eq_left ha',Int.max_eq_right hb',e2];omega
 ·rw[Int.max_eq_left ha',Int.max_eq_left hb',hm];omega
theorem times_any (a b:Int)(ha1:-9007199254740991≤a)(ha2:a≤9007199254740991)(hb1:-9007199254740991≤b)(hb2:b≤9007199254740991)(h1:-9007199254740991≤a*b)(h2:a*b≤9007199254740991)(w:World):Calls Tryz.prog 73 #[.int .i64 a,.int .i64 b] w fun e w'=>e= .returned (.int .i64 (a*b))∧w'=w:=by
 have HG:=gup_any false 3 w
 have w1:RowKit.wrap64 (a*b)=a*b:=by unfold RowKit.wrap64;omega
 by_cases ha:a=0
 ·subst ha
  simp only[Int.zero_mul]
  go_enter Tryz.func73,Tryz.ntmps73
  go_wp2_with fail
  refine HG.mono ?_
  rintro e w' ⟨rfl,rfl⟩
  go_wp2
  go_ret
  exact⟨rfl,rfl⟩
 have hi:=times_in a b ha h1 h2
 have hx:decide (9007199254740991/max a (-a)<max b (-b))=false:=by rw[decide_eq_false_iff_not];omega
 have hne:(a != 0)=true:=by rw[bne_iff_ne];exact ha
 go_enter Tryz.func73,Tryz.ntmps73
 go_wp2_with fail
 refine HG.mono ?_
 rintro e w' ⟨rfl,rfl⟩
 go_wp2
 go_ret
 exact⟨rfl,rfl⟩
theorem plus_any (a b:Int)(h1:-9007199254740991≤a+b)(h2:a+b≤9007199254740991)(w:World):Calls Tryz.prog 69 #[nmV a,nmV b] w fun e w'=>e= .returned (nmV (a+b))∧w'=w:=by
 have HA:=asInt_any a w
 have HB:=asInt_any b w
 have HN:=newNumber_any (a+b) h1 h2 w
 have w1:RowKit.wrap64 (a+b)=a+b:=by unfold RowKit.wrap64;omega
 go_enter Tryz.func69,Tryz.ntmps69
 go_wp2_with fail
 refine HA.mono ?_
 rintro e w' ⟨rfl,rfl⟩
 go_wp2_with fail
 refine HB.mono ?_
 rintro e w' ⟨rfl,rfl⟩
 go_wp2_with fail
 refine HN.mono ?_
 rintro e w' ⟨rfl,rfl⟩
 go_wp2
 go_ret
 exact⟨rfl,rfl⟩
theorem over_any (a b:Int)(hb:b≠0)(ha1:-9007199254740991≤a)(ha2:a≤9007199254740991)(w:World):Calls Tryz.prog 74 #[nmV a,nmV b] w fun e w'=>e= .returned (nmV (a.fdiv b))∧w'=w:=by
 have HA:=asInt_any a w
 have HB:=asInt_any b w
 have HN:=quotient_any a b hb ha1 ha2 w
 go_enter Tryz.func74,Tryz.ntmps74
 go_wp2_with fail
 refine HA.mono ?_
 rintro e w' ⟨rfl,rfl⟩
 go_wp2_with fail
 refine HB.mono ?_
 rintro e w' ⟨rfl,rfl⟩
 go_wp2_with fail
 refine HN.mono ?_
 rintro e w' ⟨rfl,rfl⟩
 go_wp2
 go_ret
 exact⟨rfl,rfl⟩
theorem mul_any (a b:Int)(ha1:-9007199254740991≤a)(ha2:a≤9007199254740991)(hb1:-9007199254740991≤b)(hb2:b≤9007199254740991)(h1:-9007199254740991≤a*b)(h2:a*b≤9007199254740991)(w:World):Calls Tryz.prog 72 #[nmV a,nmV b] w fun e w'=>e= .returned (nmV (a*b))∧w'=w:=by
 have HA:=asInt_any a w
 have HB:=asInt_any b w
 have HN:=times_any a b ha1 ha2 hb1 hb2 h1 h2 w
 go_enter Tryz.func72,Tryz.ntmps72
 go_wp2_with fail
 refine HA.mono ?_
 rintro e w' ⟨rfl,rfl⟩
 go_wp2_with fail
 refine HB.mono ?_
 rintro e w' ⟨rfl,rfl⟩
 go_wp2_with fail
 refine HN.mono ?_
 rintro e w' ⟨rfl,rfl⟩
 go_wp2
 go_ret
 exact⟨rfl,rfl⟩
theorem over_none (a:Int)(w:World):Calls Tryz.prog 74 #[nmV a,nmV 0] w fun e w'=>e=PE 3∧w'=w:=by
 have HA:=asInt_any a w
 have HB:=asInt_any 0 w
 have HN:=quotient_none a w
 go_enter Tryz.func74,Tryz.ntmps74
 go_wp2_with fail
 refine HA.mono ?_
 rintro e w' ⟨rfl,rfl⟩
 go_wp2_with fail
 refine HB.mono ?_
 rintro e w' ⟨rfl,rfl⟩
 go_wp2_with fail
 refine HN.mono ?_
 rintro e w' ⟨rfl,rfl⟩
 exact⟨rfl,rfl,rfl⟩
theorem rest_is (a b:Int):a-b*a.fdiv b=a.fmod b:=by have h:=Int.mul_fdiv_add_fmod a b;omega
theorem fmod_in (a b:Int)(hb:b≠0)(hb1:-9007199254740991≤b)(hb2:b≤9007199254740991):-9007199254740991≤a.fmod b∧a.fmod b≤9007199254740991:=by
 by_cases h:b<0
 ·have h0:=Int.neg_fmod_neg a b
  have h1:=Int.fmod_nonneg_of_pos (-a) (b:=-b) (by omega)
  have h2:=Int.fmod_lt_of_pos (-a) (b:=-b) (by omega)
  omega
 ·have h1:=Int.fmod_nonneg_of_pos a (b:=b) (by omega)
  have h2:=Int.fmod_lt_of_pos a (b:=b) (by omega)
  omega
theorem restI_any (a b:Int)(hb:b≠0)(ha1:-9007199254740991≤a)(ha2:a≤9007199254740991)(hb1:-9007199254740991≤b)(hb2:b≤9007199254740991)(w:World):Calls Tryz.prog 76 #[nmV a,nmV b] w fun e w'=>e= .returned (nmV (a.fmod b))∧w'=w:=by
 have HA:=asInt_any a w
 have HB:=asInt_any b w
 have HN:=quotient_any a b hb ha1 ha2 w
 have hr:=rest_is a b
 have hf:=fmod_in a b hb hb1 hb2
 have w0:b*a.fdiv b=a-a.fmod b:=by omega
 have w1:RowKit.wrap64 (b*a.fdiv b)=a-a.fmod b:=by rw[w0];unfold RowKit.wrap64;omega
 have w2:a-(a-a.fmod b)=a.fmod b:=by omega
 have w3:RowKit.wrap64 (a-(a-a.fmod b))=a.fmod b:=by rw[w2];unfold RowKit.wrap64;omega
 go_enter Tryz.func76,Tryz.ntmps76
 go_wp2_with fail
 refine HA.mono ?_
 rintro e w' ⟨rfl,rfl⟩
 go_wp2_with fail
 refine HB.mono ?_
 rintro e w' ⟨rfl,rfl⟩
 go_wp2_with fail
 refine HA.mono ?_
 rintro e w' ⟨rfl,rfl⟩
 go_wp2_with fail
 refine HB.mono ?_
 rintro e w' ⟨rfl,rfl⟩
 go_wp2_with fail
 refine HN.mono ?_
 rintro e w' ⟨rfl,rfl⟩
 go_wp2
 go_ret
 exact⟨rfl,rfl⟩
theorem rest_none (a:Int)(w:World):Calls Tryz.prog 76 #[nmV a,nmV 0] w fun e w'=>e=PE 3∧w'=w:=by
 have HA:=asInt_any a w
 have HB:=asInt_any 0 w
 have HN:=quotient_none a w
 go_enter Tryz.func76,Tryz.ntmps76
 go_wp2_with fail
 refine HA.mono ?_
 rintro e w' ⟨rfl,rfl⟩
 go_wp2_with fail
 refine HB.mono ?_
 rintro e w' ⟨rfl,rfl⟩
 go_wp2_with fail
 refine HA.mono ?_
 rintro e w' ⟨rfl,rfl⟩
 go_wp2_with fail
 refine HB.mono ?_
 rintro e w' ⟨rfl,rfl⟩
 go_wp2_with fail
 refine HN.mono ?_
 rintro e w' ⟨rfl,rfl⟩
 exact⟨rfl,rfl,rfl⟩
theorem or_any (a b:Value)(w:World):Calls Tryz.prog 59 #[a,b] w fun e w'=>e= .returned b∧w'=w:=by
 go_enter Tryz.func59,Tryz.ntmps59
 go_wp2
 go_ret
 exact⟨rfl,rfl⟩
theorem and_any (a b:Value)(w:World):Calls Tryz.prog 60 #[a,b] w fun e w'=>e= .returned b∧w'=w:=by
 go_enter Tryz.func60,Tryz.ntmps60
 go_wp2
 go_ret
 exact⟨rfl,rfl⟩
end Go.Proofs.YthfgpkdbclogpaaGreatDoor
namespace Go.Proofs.YthfgpkdbclogpaaGreatDoor
open Go.RowKit
attribute [local go_sem] ta_nm ta_nm_tx ta_nm_l
def cmpI (a b:Int):Int:=if a<b then -1 else if b<a then 1 else 0
theorem cmp_any (a b:Int)(w:World):Calls Tryz.prog 103 #[.int .i64 a,.int .i64 b] w fun e w'=>e= .returned (.int .i64 (cmpI a b))∧w'=w:=by
 go_enter Tryz.func103,Tryz.ntmps103
 go_wp2
 all_goals go_ret
 all_goals refine⟨?_,rfl⟩
 all_goals unfold cmpI
 all_goals first
  |(rw[if_pos (by omega)];rfl)
  |(rw[if_neg (by omega),if_pos (by omega)];rfl)
  |(rw[if_neg (by omega),if_neg (by omega)];rfl)
theorem compare_any (a b:Int)(w:World):Calls Tryz.prog 65 #[nmV a,nmV b] w fun e w'=>e= .returned (.int .i64 (cmpI a b))∧w'=w:=by
 have HA:=asInt_any a w
 have HB:=asInt_any b w
 have HC:=cmp_any a b w
 go_enter Tryz.func65,Tryz.ntmps65
 go_wp2_with fail
 refine HA.mono ?_
 rintro e w' ⟨rfl,rfl⟩
 go_wp2_with fail
 refine HB.mono ?_
 rintro e w' ⟨rfl,rfl⟩
 go_wp2_with fail
 refine HC.mono ?_
 rintro e w' ⟨rfl,rfl⟩
 go_wp2
 go_ret
 exact⟨rfl,rfl⟩
theorem cmp_lt (a b:Int):decide (cmpI a b<0)=decide (a<b):=by
 unfold cmpI
 by_cases h:a<b
 ·simp[h]
 ·by_cases h2:b<a<;>simp[h,h2]
theorem cmp_le (a b:Int):decide (cmpI a b≤0)=decide (a≤b):=by
 unfold cmpI
 by_cases h:a<b
 ·simp[h,Int.le_of_lt h]
 ·by_cases h2:b<a
  ·simp[h,h2]
  ·simp[h,h2];omega
theorem lt_any (a b:Int)(w:World):Calls Tryz.prog 64 #[nmV a,nmV b] w fun e w'=>e= .returned (trV (decide (a<b)))∧w'=w:=by
 have HC:=compare_any a b w
 have hd:=cmp_lt a b
 go_enter Tryz.func64,Tryz.ntmps64
 go_wp2_with fail
 refine HC.mono ?_
 rintro e w' ⟨rfl,rfl⟩
 go_wp2
 go_ret
 exact⟨by rw[←hd];rfl,rfl⟩
theorem le_any (a b:Int)(w:World):Calls Tryz.prog 66 #[nmV a,nmV b] w fun e w'=>e= .returned (trV (decide (a≤b)))∧w'=w:=by
 have HC:=compare_any a b w
 have hd:=cmp_le a b
 go_enter Tryz.func66,Tryz.ntmps66
 go_wp2_with fail
 refine HC.mono ?_
 rintro e w' ⟨rfl,rfl⟩
 go_wp2
 go_ret
 exact⟨by rw[←hd];rfl,rfl⟩
end Go.Proofs.YthfgpkdbclogpaaGreatDoor
