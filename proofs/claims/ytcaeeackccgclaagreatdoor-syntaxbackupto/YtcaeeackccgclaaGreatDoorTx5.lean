/- 5. -/
import Derived.Deep.MidRow
import Derived.Test.YtcaeeackccgclaaGreatDoorTx4
set_option maxHeartbeats 40000000
set_option maxRecDepth 100000
namespace Go.Proofs.YtcaeeackccgclaaGreatDoor
open Go.RowKit Go.Shelf
abbrev pt (b:Nat):Value:= .pointer (some ⟨b,0,none⟩)
theorem tcs_at (t:Tk)(r:List Tk):(tcs (t::r))[0]? =some (.int .i64 t.kind)∧(tcs (t::r))[1]? =some (.string (mkB t.text))∧(tcs (t::r))[2]? =some (.int .i64 t.num)∧(tcs (t::r))[3]? =some (.int .i64 t.pos):=⟨rfl,rfl,rfl,rfl⟩
theorem PsA.cells {P T:Nat}{w:World}{p:Ps}(h:PsA P T w p):∃ a c,w.cell? ⟨P,0,none⟩=some (.slice a p.toks.length c)∧w.cell? ⟨P,1,none⟩=some (.int .i64 p.fin)∧w.cell? ⟨P,2,none⟩=some (.int .i64 p.blk)∧w.cell? ⟨P,3,none⟩=some (.bool p.inD)∧w.cell? ⟨P,4,none⟩=some (.int .i64 p.deep)∧
  ∀ t r,p.toks=t::r→∃ o,a=some ⟨T,o,none⟩∧w.cell? ⟨T,o,none⟩=some (.int .i64 t.kind)∧w.cell? ⟨T,o+1,none⟩=some (.string (mkB t.text))∧w.cell? ⟨T,o+2,none⟩=some (.int .i64 t.num)∧w.cell? ⟨T,o+3,none⟩=some (.int .i64 t.pos):=by
 obtain⟨a,c,o,h1,h2,h3,h4,h5,h6,h7,h8⟩:=h
 refine⟨a,c,by rw[Lib.cell_of_heap h1];rfl,by rw[Lib.cell_of_heap h1];rfl,by rw[Lib.cell_of_heap h1];rfl,by rw[Lib.cell_of_heap h1];rfl,by rw[Lib.cell_of_heap h1];rfl,fun t r hp=>?_⟩
 rw[hp]at h4 h5
 refine⟨o,h4 (by simp),?_,?_,?_,?_⟩
 ·have:=h5 0 (by simp);rwa [(tcs_at t r).1]at this
 ·have:=h5 1 (by simp;omega);rwa [(tcs_at t r).2.1]at this
 ·have:=h5 2 (by simp;omega);rwa [(tcs_at t r).2.2.1]at this
 ·have:=h5 3 (by simp;omega);rwa [(tcs_at t r).2.2.2]at this
theorem fld0 (a b c d:Value)(w:World):(Instr.field 84 (.agg #[a,b,c,d]) 0).run Tryz.prog w= .ok a w:=by
 simp[Instr.field,asAgg,run_underlying Tryz.underlying84,go_sem,Result.andThen]
theorem fld1 (a b c d:Value)(w:World):(Instr.field 84 (.agg #[a,b,c,d]) 1).run Tryz.prog w= .ok b w:=by
 simp[Instr.field,asAgg,run_underlying Tryz.underlying84,go_sem,Result.andThen]
theorem fld2 (a b c d:Value)(w:World):(Instr.field 84 (.agg #[a,b,c,d]) 2).run Tryz.prog w= .ok c w:=by
 simp[Instr.field,asAgg,run_underlying Tryz.underlying84,go_sem,Result.andThen]
theorem fld3 (a b c d:Value)(w:World):(Instr.field 84 (.agg #[a,b,c,d]) 3).run Tryz.prog w= .ok d w:=by
 simp[Instr.field,asAgg,run_underlying Tryz.underlying84,go_sem,Result.andThen]
attribute [local go_sem ↓] fld0 fld1 fld2 fld3
theorem alB (w:World)(o:Obj):Below w.heap.size w (w.alloc o):=(Below.refl _ w).alloc (Nat.le_refl _) _
abbrev tz:Obj:= .cells #[.int .i64 0,.string ⟨#[]⟩,.int .i64 0,.int .i64 0] 84
theorem next_any {P T:Nat}{w:World}{p:Ps}(h:PsA P T w p):
  Calls Tryz.prog 68 #[pt P] w fun e w'=>e= .returned (.agg #[.int .i64 p.nx.kind,.string (mkB p.nx.text),.int .i64 p.nx.num,.int .i64 p.nx.pos])∧Below w.heap.size w w':=by
 have hW:=h.up (alB w tz)
 obtain⟨a,c,c0,c1,_,_,_,hc⟩:=hW.cells
 clear hW
 cases hp:p.toks with
 |nil=>
  have hn:p.nx=⟨0,[],0,p.fin⟩:=by unfold Ps.nx;rw[hp]
  rw[hn]
  rw[hp]at c0
  clear hc h
  go_enter Tryz.func68,Tryz.ntmps68
  go_wp2
  refine bodyPost_ret (v:= .agg #[.int .i64 (⟨0,[],0,p.fin⟩:Tk).kind,.string (mkB (⟨0,[],0,p.fin⟩:Tk).text),.int .i64 (⟨0,[],0,p.fin⟩:Tk).num,.int .i64 (⟨0,[],0,p.fin⟩:Tk).pos]) (by simp[results,Tryz.results68,go_sem,mkB]) rfl ⟨rfl,alB w _⟩
 |cons t r=>
  have hn:p.nx=t:=by unfold Ps.nx;rw[hp]
  rw[hn]
  rw[hp]at c0
  obtain⟨o,rfl,d0,d1,d2,d3⟩:=hc t r hp
  rw[List.length_cons]at c0
  clear hc h
  go_enter Tryz.func68,Tryz.ntmps68
  go_wp2
  refine bodyPost_ret (v:= .agg #[.int .i64 t.kind,.string (mkB t.text),.int .i64 t.num,.int .i64 t.pos]) (by simp[results,Tryz.results68,go_sem,mkB]) rfl ⟨rfl,alB w _⟩
theorem pGiveUp_any {P T:Nat}{w:World}{p:Ps}(h:PsA P T w p)(k:Nat):
  Calls Tryz.prog 112 #[pt P,.int .i64 k] w fun e w'=>e=PF k p.nx.pos∧Below w.heap.size w w':=by
 have HN:=next_any h
 clear h
 generalize p.nx=t at *
 go_enter Tryz.func112,Tryz.ntmps112
 go_wp2_with fail
 refine HN.mono ?_
 rintro e w1 ⟨rfl,hb⟩
 go_wp2
 exact⟨rfl,rfl,hb⟩
theorem giveUpIf_any {P T:Nat}{w:World}{p:Ps}(h:PsA P T w p)(b:Bool)(k:Nat):
  Calls Tryz.prog 73 #[pt P,.bool b,.int .i64 k] w fun e w'=>(e=bif b then PF k p.nx.pos else .returned (.tuple #[]))∧Below w.heap.size w w':=by
 have HN:=pGiveUp_any h k
 clear h
 generalize p.nx=t at *
 go_enter Tryz.func73,Tryz.ntmps73
 cases b with
 |true=>
  go_wp2_with fail
  refine HN.mono ?_
  rintro e w1 ⟨rfl,hb⟩
  exact⟨rfl,rfl,hb⟩
 |false=>
  clear HN
  go_wp2
  go_end0
  exact⟨rfl,Below.refl _ _⟩
theorem sees2_any {P T:Nat}{w:World}{p:Ps}(h:PsA P T w p)(k:Nat):
  Calls Tryz.prog 80 #[pt P,.int .i64 k] w fun e w'=>e= .returned (.bool (p.nx.kind==k))∧Below w.heap.size w w':=by
 have HN:=next_any h
 clear h
 generalize p.nx=t at *
 have hq:(((t.kind:Nat):Int)==(k:Int))=(t.kind==k):=by rw[Bool.eq_iff_iff];simp;omega
 go_enter Tryz.func80,Tryz.ntmps80
 go_wp2_with fail
 refine HN.mono ?_
 rintro e w1 ⟨rfl,hb⟩
 go_wp2
 go_ret
 exact⟨rfl,hb⟩
def SgA (P:Nat)(w:World)(v:Value)(l:List (List UInt8)):Prop:=∃ ao c,v= .slice ao l.length c∧l.length≤1000000∧(0<l.length→∃ g,ao=some ⟨g,0,none⟩∧g<w.heap.size∧g≠P∧∀ j (hj:j<l.length),w.cell? ⟨g,j,none⟩=some (.string (mkB l[j])))
theorem SgA.keep {P:Nat}{w w':World}{v:Value}{l:List (List UInt8)}(h:SgA P w v l)(hk:KP P w w'):SgA P w' v l:=by
 obtain⟨ao,c,hv,hl,hg⟩:=h
 refine⟨ao,c,hv,hl,fun h0=>?_⟩
 obtain⟨g,h1,h2,h3,h4⟩:=hg h0
 refine⟨g,h1,Nat.lt_of_lt_of_le h2 hk.size,h3,fun j hj=>?_⟩
 rw[←h4 j hj]
 simp[World.cell?,hk.blk g h2 h3]
theorem containsT_any {P:Nat}{w:World}{v:Value}{l:List (List UInt8)}(h:SgA P w v l)(x:List UInt8):
  Calls Tryz.prog 104 #[v,.string (mkB x)] w fun e w'=>e= .returned (.bool (l.contains x))∧w'=w:=by
 obtain⟨ao,c,rfl,hn,hm⟩:=h
 have HM:Hid (0<l.length→∃ g,ao=some ⟨g,0,none⟩∧g<w.heap.size∧g≠P∧∀ j (hj:j<l.length),w.cell? ⟨g,j,none⟩=some (.string (mkB l[j]))):=hm
 have hn1:(l.length:Int)≤1000000:=by omega
 obtain⟨b,hb⟩:∃ b,b=l.contains x:=⟨_,rfl⟩
 have HB:Hid (b=true↔x∈l):=by show _↔_;rw[hb];simp
 rw[←hb]
 have HI:Hid (Calls Tryz.prog 124 #[.slice ao l.length c,.string (mkB x)] w fun e w'=>IdxP b e∧w'=w):=by
  clear hm hn hb
  go_enter Tryz.func124,Tryz.ntmps124
  go_wp2
  go_loop [8] (fun i=>∃ k:Nat,k≤l.length∧i= .int .i64 k∧Hid (x∉l.take k)) (fun i=>l.length-(intOf i).toNat)
  case atStart=>exact⟨0,Nat.zero_le _,rfl,by show _∉_;simp⟩
  case round=>
   obtain⟨k,hk,rfl,HK⟩:=hrel
   by_cases hlt:k<l.length
   ·have hki:(k:Int)<(l.length:Int):=by omega
    obtain⟨g,rfl,_,_,hcc⟩:=HM.out (by omega)
    have ck:=hcc k hlt
    by_cases he:x=l[k]
    ·have hq:((mkB x).toList==(mkB l[k]).toList)=true:=by rw[he];simp
     have HBT:Hid (b=true):=HB.out.2 (by rw[he];exact List.getElem_mem hlt)
     generalize l[k]=y at ck hq
     clear he hcc
     go_wp2
     go_ret
     exact⟨⟨(k:Int),fun h=>(by rw[HBT.out]at h;cases h),fun _=>by omega,rfl⟩,rfl⟩
    ·have hq:((mkB x).toList==(mkB l[k]).toList)=false:=by rw[mk_toList,mk_toList,beq_eq_false_iff_ne];exact he
     have HN:Hid (x∉l.take (k+1)):=by
      show _∉_
      rw[List.take_succ_eq_append_getElem hlt,List.mem_append]
      rintro(h|h)
      ·exact HK.out h
      ·simp at h;exact he h
     generalize l[k]=y at ck hq
     clear he hcc
     go_wp2
     refine⟨⟨k+1,by omega,by go_num,HN⟩,by simp[intOf];omega⟩
   ·obtain rfl:k=l.length:=by omega
    have HBF:Hid (¬b=true):=fun h=>by
     have:=HK.out
     rw[List.take_length]at this
     exact this (HB.out.1 h)
    go_wp2
    go_ret
    exact⟨⟨-1,fun _=>rfl,fun h=>absurd h HBF.out,rfl⟩,rfl⟩
 clear hm hb HB HM
 go_enter Tryz.func104,Tryz.ntmps104
 go_wp2_with fail
 refine HI.out.mono ?_
 rintro e w' ⟨⟨z,hz1,hz2,rfl⟩,rfl⟩
 cases b with
 |true=>
  have hz3:=hz2 rfl
  clear hz1 hz2
  go_wp2
  go_ret
  exact⟨ret_b (by simp),rfl⟩
 |false=>
  have hz3:z=-1:=hz1 rfl
  subst hz3
  clear hz1 hz2
  go_wp2
  go_ret
  exact⟨rfl,rfl⟩
end Go.Proofs.YtcaeeackccgclaaGreatDoor
namespace Go.Proofs.YtcaeeackccgclaaGreatDoor
open Go.RowKit Go.Shelf
attribute [local go_sem ↓] fld0 fld1 fld2 fld3
theorem isSign_any {P:Nat}{w:World}(t:Tk){v:Value}{l:List (List UInt8)}(h:SgA P w v l):
  Calls Tryz.prog 67 #[.agg #[.int .i64 t.kind,.string (mkB t.text),.int .i64 t.num,.int .i64 t.pos],v] w fun e w'=>e= .returned (.bool (isS t l))∧Below w.heap.size w w':=by
 have HC:Hid (Calls Tryz.prog 104 #[v,.string (mkB t.text)] (w.alloc (.cells #[.int .i64 t.kind,.string (mkB t.text),.int .i64 t.num,.int .i64 t.pos] 84)) fun e w'=>e= .returned (.bool (l.contains t.text))∧w'=w.alloc (.cells #[.int .i64 t.kind,.string (mkB t.text),.int .i64 t.num,.int .i64 t.pos] 84)):=containsT_any (h.keep (KP.of_below (alB w _))) _
 have HB:Hid (Below w.heap.size w (w.alloc (.cells #[.int .i64 t.kind,.string (mkB t.text),.int .i64 t.num,.int .i64 t.pos] 84))):=alB w _
 have hq4:(((t.kind:Nat):Int)==(4:Int))=(t.kind==4):=by rw[Bool.eq_iff_iff];simp;omega
 have hq5:(((t.kind:Nat):Int)==(5:Int))=(t.kind==5):=by rw[Bool.eq_iff_iff];simp;omega
 unfold isS
 clear h
 generalize(t.kind==4)=b4 at *
 generalize(t.kind==5)=b5 at *
 generalize l.contains t.text=bc at *
 cases b4<;>cases b5
 all_goals
  go_enter Tryz.func67,Tryz.ntmps67
  go_wp2_with (go_at_call 104;refine HC.out.mono ?_;rintro e w1 ⟨rfl,rfl⟩)
  go_ret
  exact⟨rfl,HB.out⟩
theorem seesSign_any {P T:Nat}{w:World}{p:Ps}(h:PsA P T w p){v:Value}{l:List (List UInt8)}(hs:SgA P w v l):
  Calls Tryz.prog 44 #[pt P,v] w fun e w'=>e= .returned (.bool (p.sees l))∧Below w.heap.size w w':=by
 have HN:=next_any h
 have HI:Hid (∀ W,Below w.heap.size w W→Calls Tryz.prog 67 #[.agg #[.int .i64 p.nx.kind,.string (mkB p.nx.text),.int .i64 p.nx.num,.int .i64 p.nx.pos],v] W fun e w'=>e= .returned (.bool (p.sees l))∧Below w.heap.size w w'):=fun W hW=>(isSign_any p.nx (hs.keep (KP.of_below hW))).mono fun e w' ⟨a,b⟩=>⟨a,hW.trans (b.mono hW.size)⟩
 clear h hs
 generalize p.nx=t at *
 generalize p.sees l=b at *
 go_enter Tryz.func44,Tryz.ntmps44
 go_wp2_with fail
 refine HN.mono ?_
 rintro e w1 ⟨rfl,hb⟩
 go_wp2_with fail
 refine(HI.out _ hb).mono ?_
 rintro e w2 ⟨rfl,hb2⟩
 go_wp2
 go_ret
 exact⟨rfl,hb2⟩
theorem there_of {w:World}{b:Nat}{cs:Array Value}{ty:TypeId}(h:w.heap[b]? =some (.cells cs ty (0,0))):w.there b 0 cs.size:=fun j hj=>by
 rw[Nat.zero_add]
 refine⟨?_,Lib.frozen_of_heap h j⟩
 rw[Lib.cell_of_heap h]
 simp[hj]
theorem stN {w:World}{R:Nat}{cs0:Array Value}{ty:TypeId}(hr:w.heap[R]? =some (.cells cs0 ty (0,0))){c:List Value}(hc:c.length=cs0.size)(hi:(Tryz.prog.info? ty).map (·.size)=some c.length)(h1:∀ v∈c,v.oneCell'=true){d:TypeDesc}(hu:Tryz.prog.underlying ty=some d)(hd:d.isRow=true):
  (Instr.storeAt ty (.pointer (some ⟨R,0,none⟩)) (.agg c.toArray)).run Tryz.prog w= .ok () (w.setCells R 0 c)∧(loadVar ty ⟨R,0,none⟩).run Tryz.prog (w.setCells R 0 c)= .ok (.agg c.toArray) (w.setCells R 0 c):=by
 have ht:w.there R 0 c.length:=by rw[hc];exact there_of hr
 exact⟨run_storeAt_mid w R 0 ty c.toArray (by simpa using ht) (by simpa using hi) (all_oneCell_toArray h1),run_loadVar_mid _ R 0 ty c d (World.rangeAt_setCells_same _ _ _ _ ht) hu hd hi⟩
theorem res_one {fn:Func}{p:Tmp}{ty:TypeId}{P:Program}{b:Nat}{v:Value}(h:fn.results=#[.cell p ty])(tmps:Array Value)(w:World)(hp:tmps.getD p undef= .pointer (some ⟨b,0,none⟩))(hl:(loadVar ty ⟨b,0,none⟩).run P w= .ok v w):(results fn tmps).run P w= .ok v w:=by
 have hp2:tmps[p]?.getD undef= .pointer (some ⟨b,0,none⟩):=by simpa using hp
 simp[results,h,hp2,hl,asAddr]
theorem size_sets (b:Nat):∀ (vs:List Value) (o:Nat) (w:World),(w.setCells b o vs).heap.size=w.heap.size
 |[],_,_=>rfl
 |v::vs,o,w=>by
  show((w.setCell ⟨b,o,none⟩ v).setCells b (o+1) vs).heap.size=_
  rw[size_sets b vs]
  simp[World.setCell]
theorem heap_sets (b:Nat):∀ (vs:List Value) (o:Nat) (w:World) (g:Nat),g≠b→(w.setCells b o vs).heap[g]? =w.heap[g]?
 |[],_,_,_,_=>rfl
 |v::vs,o,w,g,hg=>by
  show((w.setCell ⟨b,o,none⟩ v).setCells b (o+1) vs).heap[g]? =_
  rw[heap_sets b vs _ _ g hg]
  exact Below.heap_setCell w ⟨b,o,none⟩ v g hg
theorem bel_sets {B b:Nat}(hb:B≤b):∀ (vs:List Value) (o:Nat) {w w':World},Below B w w'→Below B w (w'.setCells b o vs)
 |[],_,_,_,h=>h
 |v::vs,o,_,_,h=>bel_sets hb vs (o+1) (h.setCell (p:=⟨b,o,none⟩) hb v)
theorem KP.sets {P:Nat}{w w1:World}(h:KP P w w1){R:Nat}(hR:w.heap.size≤R)(c:List Value):KP P w (w1.setCells R 0 c):=by
 have hb:Below w.heap.size w1 (w1.setCells R 0 c):=bel_sets hR c 0 (Below.refl _ _)
 exact⟨hb.os.trans h.os,hb.tape.trans h.tape,hb.output.trans h.output,by rw[size_sets];exact h.size,fun g hg hp=>(hb.block g hg).trans (h.blk g hg hp)⟩
theorem PsA.sets {P T:Nat}{w:World}{p:Ps}(h:PsA P T w p){R:Nat}(h1:P<R)(h2:T<R)(c:List Value):PsA P T (w.setCells R 0 c) p:=h.keep (heap_sets R c 0 w P (by omega)) (heap_sets R c 0 w T (by omega))
theorem SgA.new (P:Nat)(w:World)(l:List (List UInt8))(hl:l.length≤1000000)(hP:P<w.heap.size):SgA P (w.alloc (.cells (l.map fun x=>.string (mkB x)).toArray 9)) (.slice (some ⟨w.heap.size,0,none⟩) l.length l.length) l:=by
 refine⟨_,_,rfl,hl,fun _=>⟨w.heap.size,rfl,by rw[World.size_alloc];omega,by omega,fun j hj=>?_⟩⟩
 rw[Lib.cell_of_heap (heap_alloc_new w _)]
 simp[hj]
theorem tl_slice (T o n c:Nat)(h:n+1≤c):∃ a',(∀ W,(Instr.slice 48 (.slice (some ⟨T,o,none⟩) (n+1) c) (some (.int .i64 1)) none none).run Tryz.prog W= .ok (.slice a' n (c-1)) W)∧(0<n→a'=some ⟨T,o+4,none⟩):=by
 obtain⟨i0,hi,hz0,hz1,hz2⟩:=info_p infT
 by_cases hc:c=1
 ·subst hc
  obtain rfl:n=0:=by omega
  exact⟨some ⟨T,o,none⟩,fun W=>by simp[Instr.slice,run_underlying Tryz.underlying48,go_sem,sizeOf,typeInfo,hi,hz1],fun h=>by omega⟩
 ·exact⟨some ⟨T,o+4,none⟩,fun W=>by
   have h9:(1:Int)≤(n:Int)+1:=by omega
   simp[Instr.slice,run_underlying Tryz.underlying48,go_sem,sizeOf,typeInfo,hi,hz1,h9,hc],fun _=>rfl⟩
theorem PsA.take {P T:Nat}{w:World}{p:Ps}(h:PsA P T w p){t:Tk}{r:List Tk}(hp:p.toks=t::r):∃ o c a',w.cell? ⟨P,0,none⟩=some (.slice (some ⟨T,o,none⟩) (r.length+1) c)∧w.frozen? ⟨P,0,none⟩=false∧
  (∀ W,(Instr.slice 48 (.slice (some ⟨T,o,none⟩) (r.length+1) c) (some (.int .i64 1)) none none).run Tryz.prog W= .ok (.slice a' r.length (c-1)) W)∧PsA P T (w.setCell ⟨P,0,none⟩ (.slice a' r.length (c-1))) p.adv:=by
 obtain⟨a,c,o,h1,h2,h3,h4,h5,h6,h7,h8⟩:=h
 rw[hp]at h1 h2 h4 h5
 obtain rfl:=h4 (by simp)
 obtain⟨a',q1,q2⟩:=tl_slice T o r.length c h2
 refine⟨o,c,a',by rw[Lib.cell_of_heap h1];rfl,Lib.frozen_of_heap h1 0,q1,a',c-1,o+4,?_⟩
 have e:p.adv.toks=r:=by unfold Ps.adv;rw[hp];rfl
 rw[e]
 rw[List.length_cons]at h2 h5
 refine⟨?_,by omega,by omega,q2,fun j hj=>?_,h6,by simp[World.setCell];exact h7,h8⟩
 ·rw[Go.Joins.block_setCell h1];rfl
 ·have:=h5 (j+4) (by omega)
  rw[show(tcs (t::r))[j+4]? =(tcs r)[j]? from rfl]at this
  rw[←this]
  have e2:=Below.heap_setCell w ⟨P,0,none⟩ (.slice a' r.length (c-1)) T h6
  simp[World.cell?,e2,Nat.add_comm,Nat.add_left_comm]
theorem PsA.ltT {P T:Nat}{w:World}{p:Ps}(h:PsA P T w p):T<w.heap.size:=by obtain⟨_,_,_,_,_,_,_,_,_,h7,_⟩:=h;exact h7
theorem sees_cons {p:Ps}{l:List (List UInt8)}(h:p.sees l=true):∃ t r,p.toks=t::r:=by
 cases hp:p.toks with
 |nil=>unfold Ps.sees Ps.nx isS at h;rw[hp]at h;simp at h
 |cons t r=>exact⟨t,r,rfl⟩
theorem adv_of {p:Ps}{t:Tk}{r:List Tk}(hp:p.toks=t::r):p.nx=t:=by unfold Ps.nx;rw[hp]
theorem passSign_any {P T:Nat}{w:World}{p:Ps}(h:PsA P T w p)(x:List UInt8):
  Calls Tryz.prog 72 #[pt P,.string (mkB x)] w fun e w'=>e= .returned (.bool (p.sees [x]))∧KP P w w'∧PsA P T w' (bif p.sees [x]then p.adv else p):=by
 have hPl:=h.lt
 have hTl:=h.ltT
 have hW:=h.up (alB w (.cells #[.string (mkB x)] 9))
 have HS:Hid (Calls Tryz.prog 44 #[pt P,.slice (some ⟨w.heap.size,0,none⟩) 1 1] (w.alloc (.cells #[.string (mkB x)] 9)) fun e w'=>e= .returned (.bool (p.sees [x]))∧PsA P T w' p∧KP P w w'):=by
  refine(seesSign_any hW (SgA.new P w [x] (by simp) hPl)).mono ?_
  rintro e w' ⟨a,b⟩
  exact⟨a,hW.up b,(KP.of_below (alB w _)).trans (KP.of_below b)⟩
 clear h hW
 cases hb:p.sees [x]with
 |false=>
  rw[hb]at HS
  go_enter Tryz.func72,Tryz.ntmps72
  go_wp2_with (go_at_call 44;refine HS.out.mono ?_;rintro e w1 ⟨rfl,hb1⟩)
  go_ret
  exact⟨rfl,hb1.2,hb1.1⟩
 |true=>
  rw[hb]at HS
  obtain⟨t,r,hp⟩:=sees_cons hb
  go_enter Tryz.func72,Tryz.ntmps72
  go_wp2_with fail
  refine HS.out.mono ?_
  rintro e w1 ⟨rfl,h1,hk⟩
  obtain⟨o,c,a',c0,f0,hsl,hT⟩:=h1.take hp
  have HT:Hid (PsA P T (w1.setCell ⟨P,0,none⟩ (.slice a' r.length (c-1))) p.adv):=hT
  have HK:Hid (KP P w w1):=hk
  clear hT h1 hk hp HS
  go_wp2
  go_ret
  exact⟨rfl,HK.out.setCell 0 _,HT.out⟩
theorem takeSign_any {P T:Nat}{w:World}{p:Ps}(h:PsA P T w p)(x:List UInt8){z:Except Ft (Unit×Ps)}(hz:tkS x p=some z):
  Calls Tryz.prog 69 #[pt P,.string (mkB x)] w (PoA P T (fun _ _ v=>v= .tuple #[]) w z):=by
 have HS:=passSign_any h x
 clear h
 unfold tkS at hz
 cases hb:p.sees [x]with
 |false=>
  rw[hb]at HS hz
  cases hz
  go_enter Tryz.func69,Tryz.ntmps69
  go_wp2_with fail
  refine HS.mono ?_
  rintro e w1 ⟨rfl,hk,h1⟩
  have HG:=giveUpIf_any h1 true 1
  go_wp2_with fail
  refine HG.mono ?_
  rintro e w2 ⟨rfl,hb2⟩
  exact⟨rfl,rfl,hk.trans (KP.of_below hb2)⟩
 |true=>
  rw[hb]at HS hz
  cases hz
  go_enter Tryz.func69,Tryz.ntmps69
  go_wp2_with fail
  refine HS.mono ?_
  rintro e w1 ⟨rfl,hk,h1⟩
  have HG:=giveUpIf_any h1 false 1
  go_wp2_with fail
  refine HG.mono ?_
  rintro e w2 ⟨rfl,hb2⟩
  go_wp2
  go_end0
  exact⟨_,rfl,rfl,h1.up hb2,hk.trans (KP.of_below hb2)⟩
theorem take2_any {P T:Nat}{w:World}{p:Ps}(h:PsA P T w p)(k:Nat)(hk0:k≠0){z:Except Ft (Tk×Ps)}(hz:tkK k p=some z):
  Calls Tryz.prog 49 #[pt P,.int .i64 k] w (PoA P T (fun _ t v=>v= .agg #[.int .i64 t.kind,.string (mkB t.text),.int .i64 t.num,.int .i64 t.pos]) w z):=by
 have hPl:=h.lt
 have hTl:=h.ltT
 have hW:=h.up (alB w tz)
 have HS:Hid (Calls Tryz.prog 80 #[pt P,.int .i64 k] (w.alloc tz) fun e w'=>e= .returned (.bool (p.nx.kind==k))∧PsA P T w' p∧KP P w w'∧w'.heap[w.heap.size]? =some tz):=by
  refine(sees2_any hW k).mono ?_
  rintro e w' ⟨a,b⟩
  exact⟨a,hW.up b,(KP.of_below (alB w _)).trans (KP.of_below b),(b.block _ (by rw[World.size_alloc];omega)).trans (heap_alloc_new w _)⟩
 clear h hW
 unfold tkK at hz
 cases hb:p.nx.kind==k with
 |false=>
  rw[hb]at HS hz
  cases hz
  go_enter Tryz.func49,Tryz.ntmps49
  go_wp2_with fail
  refine HS.out.mono ?_
  rintro e w1 ⟨rfl,h1,hk,_⟩
  have HG:=giveUpIf_any h1 true 1
  go_wp2_with fail
  refine HG.mono ?_
  rintro e w2 ⟨rfl,hb2⟩
  exact⟨rfl,rfl,hk.trans (KP.of_below hb2)⟩
 |true=>
  rw[hb]at HS hz
  cases hz
  have hne:∃ t r,p.toks=t::r:=by
   cases hp:p.toks with
   |nil=>unfold Ps.nx at hb;rw[hp]at hb;simp at hb;omega
   |cons t r=>exact⟨t,r,rfl⟩
  obtain⟨t,r,hp⟩:=hne
  rw[adv_of hp]at *
  go_enter Tryz.func49,Tryz.ntmps49
  go_wp2_with fail
  refine HS.out.mono ?_
  rintro e w1 ⟨rfl,h1,hk,hr⟩
  have HG:=giveUpIf_any h1 false 1
  go_wp2_with fail
  refine HG.mono ?_
  rintro e w2 ⟨rfl,hb2⟩
  have h2:=h1.up hb2
  have HN:=next_any h2
  have hk2:=hk.trans (KP.of_below hb2)
  have hr2:=(hb2.block _ (Array.getElem?_eq_some_iff.1 hr).1).trans hr
  rw[adv_of hp]at HN
  clear h1 hk hr hb2 HS
  go_wp2_with fail
  refine HN.mono ?_
  rintro e w3 ⟨rfl,hb3⟩
  have h3:=(h2.up hb3).up (alB w3 (.cells #[.int .i64 t.kind,.string (mkB t.text),.int .i64 t.num,.int .i64 t.pos] 84))
  have HK3:Hid (KP P w (w3.alloc (.cells #[.int .i64 t.kind,.string (mkB t.text),.int .i64 t.num,.int .i64 t.pos] 84))):=(hk2.trans (KP.of_below hb3)).trans (KP.of_below (alB w3 _))
  have hr3:=(hb3.block _ (Array.getElem?_eq_some_iff.1 hr2).1).trans hr2
  have hs3:w.heap.size<w3.heap.size:=(Array.getElem?_eq_some_iff.1 hr3).1
  obtain⟨o,c,a',c0,f0,hsl,hT⟩:=h3.take hp
  have hr5:((w3.alloc (.cells #[.int .i64 t.kind,.string (mkB t.text),.int .i64 t.num,.int .i64 t.pos] 84)).setCell ⟨P,0,none⟩ (.slice a' r.length (c-1))).heap[w.heap.size]? =some tz:=(Below.heap_setCell _ ⟨P,0,none⟩ _ _ (by show ¬w.heap.size=P;omega)).trans ((heap_al w3 _ _ hs3).trans hr3)
  have hx:((w3.alloc (.cells #[.int .i64 t.kind,.string (mkB t.text),.int .i64 t.num,.int .i64 t.pos] 84)).setCell ⟨P,0,none⟩ (.slice a' r.length (c-1))).heap[w3.heap.size]? =some (.cells #[.int .i64 t.kind,.string (mkB t.text),.int .i64 t.num,.int .i64 t.pos] 84 (0,0)):=(Below.heap_setCell _ ⟨P,0,none⟩ _ _ (by show ¬w3.heap.size=P;omega)).trans (heap_alloc_new w3 _)
  obtain⟨q,hq⟩:∃ q,q=tc t:=⟨_,rfl⟩
  have hql:q.length=4:=by rw[hq];rfl
  have hqa:q.toArray.size=4:=hql
  have hq1:∀ v∈q,v.oneCell'=true:=by rw[hq];exact tc_one t
  have hrg:((w3.alloc (.cells #[.int .i64 t.kind,.string (mkB t.text),.int .i64 t.num,.int .i64 t.pos] 84)).setCell ⟨P,0,none⟩ (.slice a' r.length (c-1))).rangeAt w3.heap.size 0 q:=fun j v hv=>by
   rw[Nat.zero_add,Lib.cell_of_heap hx,←hv,hq]
   simp[tc]
  have hi4:(Tryz.prog.info? 84).map (·.size)=some 4:=by kernel_rfl
  obtain⟨-,hld⟩:=stN hr5 (c:=q) (by rw[hql];rfl) (by rw[hql];exact hi4) hq1 Tryz.underlying84 rfl
  have HZ:Hid (PsA P T (((w3.alloc (.cells #[.int .i64 t.kind,.string (mkB t.text),.int .i64 t.num,.int .i64 t.pos] 84)).setCell ⟨P,0,none⟩ (.slice a' r.length (c-1))).setCells w.heap.size 0 q) p.adv∧KP P w (((w3.alloc (.cells #[.int .i64 t.kind,.string (mkB t.text),.int .i64 t.num,.int .i64 t.pos] 84)).setCell ⟨P,0,none⟩ (.slice a' r.length (c-1))).setCells w.heap.size 0 q)):=⟨hT.sets hPl hTl _,(HK3.out.setCell 0 _).sets (Nat.le_refl _) _⟩
  have HL:Hid _:=hld
  have HX:Hid (_∧(∀ v∈q,v.oneCell'=true)∧q.length=4):=⟨hrg,hq1,hql⟩
  have HTH:Hid (((w3.alloc (.cells #[.int .i64 t.kind,.string (mkB t.text),.int .i64 t.num,.int .i64 t.pos] 84)).setCell ⟨P,0,none⟩ (.slice a' r.length (c-1))).there w.heap.size 0 q.toArray.size):=by rw[hqa];exact there_of hr5
  have HI:Hid ((Tryz.prog.info? 84).map (·.size)=some q.length∧(Tryz.prog.info? 84).map (·.size)=some q.toArray.size):=⟨by rw[hql];exact hi4,by rw[hqa];exact hi4⟩
  have HQ:Hid (q=tc t):=hq
  clear hT h3 h2 hk2 hr2 hb3 HN hld HK3 hr5 hx hrg hq1 hql hi4 hq hqa
  go_wp2_with (first
   |(refine wpList_load_mid rfl 84 (Operand.tmp 5) rfl w3.heap.size 0 rfl q _ HX.out.1 Tryz.underlying84 rfl HI.out.1 ?_)
   |(refine wpList_store_mid rfl 84 (Operand.tmp 4) (Operand.tmp 22) rfl w.heap.size 0 q.toArray rfl rfl HTH.out HI.out.2 (all_oneCell_toArray HX.out.2.1) ?_)
   |fail)
  refine bodyPost_ret (v:= .agg q.toArray) (res_one Tryz.results49 _ _ rfl HL.out) rfl ⟨_,rfl,by rw[HQ.out];rfl,HZ.out.1,HZ.out.2⟩
end Go.Proofs.YtcaeeackccgclaaGreatDoor
