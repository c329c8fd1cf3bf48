/- 15. -/
import Derived.Deep.MidRow
import Derived.Test.YthfgpkdbclogpaaGreatDoorTx14
set_option maxHeartbeats 40000000
set_option maxRecDepth 100000
namespace Go.Proofs.YthfgpkdbclogpaaGreatDoor
open Go.RowKit Go.Shelf
attribute [local go_sem ↓] fld0 fld1 fld2 fld3
theorem isSign_any {P:Nat}{w:World}(t:Tk){v:Value}{l:List (List UInt8)}(h:SgA P w v l):
  Calls Tryz.prog 244 #[.agg #[.int .i64 t.kind,.string (mkB t.text),.int .i64 t.num,.int .i64 t.pos],v] w fun e w'=>e= .returned (.bool (isS t l))∧Below w.heap.size w w':=by
 have HC:Hid (Calls Tryz.prog 97 #[v,.string (mkB t.text)] (w.alloc (.cells #[.int .i64 t.kind,.string (mkB t.text),.int .i64 t.num,.int .i64 t.pos] 255)) fun e w'=>e= .returned (.bool (l.contains t.text))∧w'=w.alloc (.cells #[.int .i64 t.kind,.string (mkB t.text),.int .i64 t.num,.int .i64 t.pos] 255)):=containsT_any (h.keep (KP.of_below (alB w _))) _
 have HB:Hid (Below w.heap.size w (w.alloc (.cells #[.int .i64 t.kind,.string (mkB t.text),.int .i64 t.num,.int .i64 t.pos] 255))):=alB w _
 have hq4:(((t.kind:Nat):Int)==(4:Int))=(t.kind==4):=by rw[Bool.eq_iff_iff];simp;omega
 have hq5:(((t.kind:Nat):Int)==(5:Int))=(t.kind==5):=by rw[Bool.eq_iff_iff];simp;omega
 unfold isS
 clear h
 generalize(t.kind==4)=b4 at *
 generalize(t.kind==5)=b5 at *
 generalize l.contains t.text=bc at *
 cases b4<;>cases b5
 all_goals
  go_enter Tryz.func244,Tryz.ntmps244
  go_wp2_with (go_at_call 97;refine HC.out.mono ?_;rintro e w1 ⟨rfl,rfl⟩)
  go_ret
  exact⟨rfl,HB.out⟩
theorem seesSign_any {P T:Nat}{w:World}{p:Ps}(h:PsA P T w p){v:Value}{l:List (List UInt8)}(hs:SgA P w v l):
  Calls Tryz.prog 215 #[pt P,v] w fun e w'=>e= .returned (.bool (p.sees l))∧Below w.heap.size w w':=by
 have HN:=next_any h
 have HI:Hid (∀ W,Below w.heap.size w W→Calls Tryz.prog 244 #[.agg #[.int .i64 p.nx.kind,.string (mkB p.nx.text),.int .i64 p.nx.num,.int .i64 p.nx.pos],v] W fun e w'=>e= .returned (.bool (p.sees l))∧Below w.heap.size w w'):=fun W hW=>(isSign_any p.nx (hs.keep (KP.of_below hW))).mono fun e w' ⟨a,b⟩=>⟨a,hW.trans (b.mono hW.size)⟩
 clear h hs
 generalize p.nx=t at *
 generalize p.sees l=b at *
 go_enter Tryz.func215,Tryz.ntmps215
 go_wp2_with fail
 refine HN.mono ?_
 rintro e w1 ⟨rfl,hb⟩
 go_wp2_with fail
 refine(HI.out _ hb).mono ?_
 rintro e w2 ⟨rfl,hb2⟩
 go_wp2
 go_ret
 exact⟨rfl,hb2⟩
theorem there_of {w:World}{b:Nat}{cs:Array Value}{ty:TypeId}(h:w.heap[b]? =some (.cells cs ty (0,0))):w.there b 0 cs.size:=fun j hj=>by
 rw[Nat.zero_add]
 refine⟨?_,Lib.frozen_of_heap h j⟩
 rw[Lib.cell_of_heap h]
 simp[hj]
theorem stN {w:World}{R:Nat}{cs0:Array Value}{ty:TypeId}(hr:w.heap[R]? =some (.cells cs0 ty (0,0))){c:List Value}(hc:c.length=cs0.size)(hi:(Tryz.prog.info? ty).map (·.size)=some c.length)(h1:∀ v∈c,v.oneCell'=true){d:TypeDesc}(hu:Tryz.prog.underlying ty=some d)(hd:d.isRow=true):
  (Instr.storeAt ty (.pointer (some ⟨R,0,none⟩)) (.agg c.toArray)).run Tryz.prog w= .ok () (w.setCells R 0 c)∧(loadVar ty ⟨R,0,none⟩).run Tryz.prog (w.setCells R 0 c)= .ok (.agg c.toArray) (w.setCells R 0 c):=by
 have ht:w.there R 0 c.length:=by rw[hc];exact there_of hr
 exact⟨run_storeAt_mid w R 0 ty c.toArray (by simpa using ht) (by simpa using hi) (all_oneCell_toArray h1),run_loadVar_mid _ R 0 ty c d (World.rangeAt_setCells_same _ _ _ _ ht) hu hd hi⟩
theorem res_one {fn:Func}{p:Tmp}{ty:TypeId}{P:Program}{b:Nat}{v:Value}(h:fn.results=#[.cell p ty])(tmps:Array Value)(w:World)(hp:tmps.getD p undef= .pointer (some ⟨b,0,none⟩))(hl:(loadVar ty ⟨b,0,none⟩).run P w= .ok v w):(results fn tmps).run P w= .ok v w:=by
 have hp2:tmps[p]?.getD undef= .pointer (some ⟨b,0,none⟩):=by simpa using hp
 simp[results,h,hp2,hl,asAddr]
theorem size_sets (b:Nat):∀ (vs:List Value) (o:Nat) (w:World),(w.setCells b o vs).heap.size=w.heap.size
 |[],_,_=>rfl
 |v::vs,o,w=>by
  show((w.setCell ⟨b,o,none⟩ v).setCells b (o+1) vs).heap.size=_
  rw[size_sets b vs]
  simp[World.setCell]
theorem heap_sets (b:Nat):∀ (vs:List Value) (o:Nat) (w:World) (g:Nat),g≠b→(w.setCells b o vs).heap[g]? =w.heap[g]?
 |[],_,_,_,_=>rfl
 |v::vs,o,w,g,hg=>by
  show((w.setCell ⟨b,o,none⟩ v).setCells b (o+1) vs).heap[g]? =_
  rw[heap_sets b vs _ _ g hg]
  exact Below.heap_setCell w ⟨b,o,none⟩ v g hg
theorem bel_sets {B b:Nat}(hb:B≤b):∀ (vs:List Value) (o:Nat) {w w':World},Below B w w'→Below B w (w'.setCells b o vs)
 |[],_,_,_,h=>h
 |v::vs,o,_,_,h=>bel_sets hb vs (o+1) (h.setCell (p:=⟨b,o,none⟩) hb v)
theorem KP.sets {P:Nat}{w w1:World}(h:KP P w w1){R:Nat}(hR:w.heap.size≤R)(c:List Value):KP P w (w1.setCells R 0 c):=by
 have hb:Below w.heap.size w1 (w1.setCells R 0 c):=bel_sets hR c 0 (Below.refl _ _)
 exact⟨hb.os.trans h.os,hb.tape.trans h.tape,hb.output.trans h.output,by rw[size_sets];exact h.size,fun g hg hp=>(hb.block g hg).trans (h.blk g hg hp)⟩
theorem PsA.sets {P T:Nat}{w:World}{p:Ps}(h:PsA P T w p){R:Nat}(h1:P<R)(h2:T<R)(c:List Value):PsA P T (w.setCells R 0 c) p:=h.keep (heap_sets R c 0 w P (by omega)) (heap_sets R c 0 w T (by omega))
theorem SgA.new (P:Nat)(w:World)(l:List (List UInt8))(hl:l.length≤1000000)(hP:P<w.heap.size):SgA P (w.alloc (.cells (l.map fun x=>.string (mkB x)).toArray 9)) (.slice (some ⟨w.heap.size,0,none⟩) l.length l.length) l:=by
 refine⟨_,_,rfl,hl,fun _=>⟨w.heap.size,rfl,by rw[World.size_alloc];omega,by omega,fun j hj=>?_⟩⟩
 rw[Lib.cell_of_heap (heap_alloc_new w _)]
 simp[hj]
theorem tl_slice (T o n c:Nat)(h:n+1≤c):∃ a',(∀ W,(Instr.slice 155 (.slice (some ⟨T,o,none⟩) (n+1) c) (some (.int .i64 1)) none none).run Tryz.prog W= .ok (.slice a' n (c-1)) W)∧(0<n→a'=some ⟨T,o+4,none⟩):=by
 obtain⟨i0,hi,hz0,hz1,hz2⟩:=info_p infT
 by_cases hc:c=1
 ·subst hc
  obtain rfl:n=0:=by omega
  exact⟨some ⟨T,o,none⟩,fun W=>by simp[Instr.slice,run_underlying Tryz.underlying155,go_sem,sizeOf,typeInfo,hi,hz1],fun h=>by omega⟩
 ·exact⟨some ⟨T,o+4,none⟩,fun W=>by
   have h9:(1:Int)≤(n:Int)+1:=by omega
   simp[Instr.slice,run_underlying Tryz.underlying155,go_sem,sizeOf,typeInfo,hi,hz1,h9,hc],fun _=>rfl⟩
theorem PsA.take {P T:Nat}{w:World}{p:Ps}(h:PsA P T w p){t:Tk}{r:List Tk}(hp:p.toks=t::r):∃ o c a',w.cell? ⟨P,0,none⟩=some (.slice (some ⟨T,o,none⟩) (r.length+1) c)∧w.frozen? ⟨P,0,none⟩=false∧
  (∀ W,(Instr.slice 155 (.slice (some ⟨T,o,none⟩) (r.length+1) c) (some (.int .i64 1)) none none).run Tryz.prog W= .ok (.slice a' r.length (c-1)) W)∧PsA P T (w.setCell ⟨P,0,none⟩ (.slice a' r.length (c-1))) p.adv:=by
 obtain⟨a,c,o,h1,h2,h3,h4,h5,h6,h7,h8⟩:=h
 rw[hp]at h1 h2 h4 h5
 obtain rfl:=h4 (by simp)
 obtain⟨a',q1,q2⟩:=tl_slice T o r.length c h2
 refine⟨o,c,a',by rw[Lib.cell_of_heap h1];rfl,Lib.frozen_of_heap h1 0,q1,a',c-1,o+4,?_⟩
 have e:p.adv.toks=r:=by unfold Ps.adv;rw[hp];rfl
 rw[e]
 rw[List.length_cons]at h2 h5
 refine⟨?_,by omega,by omega,q2,fun j hj=>?_,h6,by simp[World.setCell];exact h7,h8⟩
 ·rw[Go.Joins.block_setCell h1];rfl
 ·have:=h5 (j+4) (by omega)
  rw[show(tcs (t::r))[j+4]? =(tcs r)[j]? from rfl]at this
  rw[←this]
  have e2:=Below.heap_setCell w ⟨P,0,none⟩ (.slice a' r.length (c-1)) T h6
  simp[World.cell?,e2,Nat.add_comm,Nat.add_left_comm]
theorem PsA.ltT {P T:Nat}{w:World}{p:Ps}(h:PsA P T w p):T<w.heap.size:=by obtain⟨_,_,_,_,_,_,_,_,_,h7,_⟩:=h;exact h7
theorem sees_cons {p:Ps}{l:List (List UInt8)}(h:p.sees l=true):∃ t r,p.toks=t::r:=by
 cases hp:p.toks with
 |nil=>unfold Ps.sees Ps.nx isS at h;rw[hp]at h;simp at h
 |cons t r=>exact⟨t,r,rfl⟩
theorem adv_of {p:Ps}{t:Tk}{r:List Tk}(hp:p.toks=t::r):p.nx=t:=by unfold Ps.nx;rw[hp]
theorem passSign_any {P T:Nat}{w:World}{p:Ps}(h:PsA P T w p)(x:List UInt8):
  Calls Tryz.prog 249 #[pt P,.string (mkB x)] w fun e w'=>e= .returned (.bool (p.sees [x]))∧KP P w w'∧PsA P T w' (bif p.sees [x]then p.adv else p):=by
 have hPl:=h.lt
 have hTl:=h.ltT
 have hW:=h.up (alB w (.cells #[.string (mkB x)] 9))
 have HS:Hid (Calls Tryz.prog 215 #[pt P,.slice (some ⟨w.heap.size,0,none⟩) 1 1] (w.alloc (.cells #[.string (mkB x)] 9)) fun e w'=>e= .returned (.bool (p.sees [x]))∧PsA P T w' p∧KP P w w'):=by
  refine(seesSign_any hW (SgA.new P w [x] (by simp) hPl)).mono ?_
  rintro e w' ⟨a,b⟩
  exact⟨a,hW.up b,(KP.of_below (alB w _)).trans (KP.of_below b)⟩
 clear h hW
 cases hb:p.sees [x]with
 |false=>
  rw[hb]at HS
  go_enter Tryz.func249,Tryz.ntmps249
  go_wp2_with (go_at_call 215;refine HS.out.mono ?_;rintro e w1 ⟨rfl,hb1⟩)
  go_ret
  exact⟨rfl,hb1.2,hb1.1⟩
 |true=>
  rw[hb]at HS
  obtain⟨t,r,hp⟩:=sees_cons hb
  go_enter Tryz.func249,Tryz.ntmps249
  go_wp2_with fail
  refine HS.out.mono ?_
  rintro e w1 ⟨rfl,h1,hk⟩
  obtain⟨o,c,a',c0,f0,hsl,hT⟩:=h1.take hp
  have HT:Hid (PsA P T (w1.setCell ⟨P,0,none⟩ (.slice a' r.length (c-1))) p.adv):=hT
  have HK:Hid (KP P w w1):=hk
  clear hT h1 hk hp HS
  go_wp2
  go_ret
  exact⟨rfl,HK.out.setCell 0 _,HT.out⟩
theorem takeSign_any {P T:Nat}{w:World}{p:Ps}(h:PsA P T w p)(x:List UInt8){z:Except Ft (Unit×Ps)}(hz:tkS x p=some z):
  Calls Tryz.prog 246 #[pt P,.string (mkB x)] w (PoA P T (fun _ _ v=>v= .tuple #[]) w z):=by
 have HS:=passSign_any h x
 clear h
 unfold tkS at hz
 cases hb:p.sees [x]with
 |false=>
  rw[hb]at HS hz
  cases hz
  go_enter Tryz.func246,Tryz.ntmps246
  go_wp2_with fail
  refine HS.mono ?_
  rintro e w1 ⟨rfl,hk,h1⟩
  have HG:=giveUpIf_any h1 true 1
  go_wp2_with fail
  refine HG.mono ?_
  rintro e w2 ⟨rfl,hb2⟩
  exact⟨rfl,rfl,hk.trans (KP.of_below hb2)⟩
 |true=>
  rw[hb]at HS hz
  cases hz
  go_enter Tryz.func246,Tryz.ntmps246
  go_wp2_with fail
  refine HS.mono ?_
  rintro e w1 ⟨rfl,hk,h1⟩
  have HG:=giveUpIf_any h1 false 1
  go_wp2_with fail
  refine HG.mono ?_
  rintro e w2 ⟨rfl,hb2⟩
  go_wp2
  go_end0
  exact⟨_,rfl,rfl,h1.up hb2,hk.trans (KP.of_below hb2)⟩
theorem take2_any {P T:Nat}{w:World}{p:Ps}(h:PsA P T w p)(k:Nat)(hk0:k≠0){z:Except Ft (Tk×Ps)}(hz:tkK k p=some z):
  Calls Tryz.prog 220 #[pt P,.int .i64 k] w (PoA P T (fun _ t v=>v= .agg #[.int .i64 t.kind,.string (mkB t.text),.int .i64 t.num,.int .i64 t.pos]) w z):=by
 have hPl:=h.lt
 have hTl:=h.ltT
 have hW:=h.up (alB w tz)
 have HS:Hid (Calls Tryz.prog 257 #[pt P,.int .i64 k] (w.alloc tz) fun e w'=>e= .returned (.bool (p.nx.kind==k))∧PsA P T w' p∧KP P w w'∧w'.heap[w.heap.size]? =some tz):=by
  refine(sees2_any hW k).mono ?_
  rintro e w' ⟨a,b⟩
  exact⟨a,hW.up b,(KP.of_below (alB w _)).trans (KP.of_below b),(b.block _ (by rw[World.size_alloc];omega)).trans (heap_alloc_new w _)⟩
 clear h hW
 unfold tkK at hz
 cases hb:p.nx.kind==k with
 |false=>
  rw[hb]at HS hz
  cases hz
  go_enter Tryz.func220,Tryz.ntmps220
  go_wp2_with fail
  refine HS.out.mono ?_
  rintro e w1 ⟨rfl,h1,hk,_⟩
  have HG:=giveUpIf_any h1 true 1
  go_wp2_with fail
  refine HG.mono ?_
  rintro e w2 ⟨rfl,hb2⟩
  exact⟨rfl,rfl,hk.trans (KP.of_below hb2)⟩
 |true=>
  rw[hb]at HS hz
  cases hz
  have hne:∃ t r,p.toks=t::r:=by
   cases hp:p.toks with
   |nil=>unfold Ps.nx at hb;rw[hp]at hb;simp at hb;omega
   |cons t r=>exact⟨t,r,rfl⟩
  obtain⟨t,r,hp⟩:=hne
  rw[adv_of hp]at *
  go_enter Tryz.func220,Tryz.ntmps220
  go_wp2_with fail
  refine HS.out.mono ?_
  rintro e w1 ⟨rfl,h1,hk,hr⟩
  have HG:=giveUpIf_any h1 false 1
  go_wp2_with fail
  refine HG.mono ?_
  rintro e w2 ⟨rfl,hb2⟩
  have h2:=h1.up hb2
  have HN:=next_any h2
  have hk2:=hk.trans (KP.of_below hb2)
  have hr2:=(hb2.block _ (Array.getElem?_eq_some_iff.1 hr).1).trans hr
  rw[adv_of hp]at HN
  clear h1 hk hr hb2 HS
  go_wp2_with fail
  refine HN.mono ?_
  rintro e w3 ⟨rfl,hb3⟩
  have h3:=(h2.up hb3).up (alB w3 (.cells #[.int .i64 t.kind,.string (mkB t.text),.int .i64 t.num,.int .i64 t.pos] 255))
  have HK3:Hid (KP P w (w3.alloc (.cells #[.int .i64 t.kind,.string (mkB t.text),.int .i64 t.num,.int .i64 t.pos] 255))):=(hk2.trans (KP.of_below hb3)).trans (KP.of_below (alB w3 _))
  have hr3:=(hb3.block _ (Array.getElem?_eq_some_iff.1 hr2).1).trans hr2
  have hs3:w.heap.size<w3.heap.size:=(Array.getElem?_eq_some_iff.1 hr3).1
  obtain⟨o,c,a',c0,f0,hsl,hT⟩:=h3.take hp
  have hr5:((w3.alloc (.cells #[.int .i64 t.kind,.string (mkB t.text),.int .i64 t.num,.int .i64 t.pos] 255)).setCell ⟨P,0,none⟩ (.slice a' r.length (c-1))).heap[w.heap.size]? =some tz:=(Below.heap_setCell _ ⟨P,0,none⟩ _ _ (by show ¬w.heap.size=P;omega)).trans ((heap_al w3 _ _ hs3).trans hr3)
  have hx:((w3.alloc (.cells #[.int .i64 t.kind,.string (mkB t.text),.int .i64 t.num,.int .i64 t.pos] 255)).setCell ⟨P,0,none⟩ (.slice a' r.length (c-1))).heap[w3.heap.size]? =some (.cells #[.int .i64 t.kind,.string (mkB t.text),.int .i64 t.num,.int .i64 t.pos] 255 (0,0)):=(Below.heap_setCell _ ⟨P,0,none⟩ _ _ (by show ¬w3.heap.size=P;omega)).trans (heap_alloc_new w3 _)
  obtain⟨q,hq⟩:∃ q,q=tc t:=⟨_,rfl⟩
  have hql:q.length=4:=by rw[hq];rfl
  have hqa:q.toArray.size=4:=hql
  have hq1:∀ v∈q,v.oneCell'=true:=by rw[hq];exact tc_one t
  have hrg:((w3.alloc (.cells #[.int .i64 t.kind,.string (mkB t.text),.int .i64 t.num,.int .i64 t.pos] 255)).setCell ⟨P,0,none⟩ (.slice a' r.length (c-1))).rangeAt w3.heap.size 0 q:=fun j v hv=>by
   rw[Nat.zero_add,Lib.cell_of_heap hx,←hv,hq]
   simp[tc]
  have hi4:(Tryz.prog.info? 255).map (·.size)=some 4:=by kernel_rfl
  obtain⟨-,hld⟩:=stN hr5 (c:=q) (by rw[hql];rfl) (by rw[hql];exact hi4) hq1 Tryz.underlying255 rfl
  have HZ:Hid (PsA P T (((w3.alloc (.cells #[.int .i64 t.kind,.string (mkB t.text),.int .i64 t.num,.int .i64 t.pos] 255)).setCell ⟨P,0,none⟩ (.slice a' r.length (c-1))).setCells w.heap.size 0 q) p.adv∧KP P w (((w3.alloc (.cells #[.int .i64 t.kind,.string (mkB t.text),.int .i64 t.num,.int .i64 t.pos] 255)).setCell ⟨P,0,none⟩ (.slice a' r.length (c-1))).setCells w.heap.size 0 q)):=⟨hT.sets hPl hTl _,(HK3.out.setCell 0 _).sets (Nat.le_refl _) _⟩
  have HL:Hid _:=hld
  have HX:Hid (_∧(∀ v∈q,v.oneCell'=true)∧q.length=4):=⟨hrg,hq1,hql⟩
  have HTH:Hid (((w3.alloc (.cells #[.int .i64 t.kind,.string (mkB t.text),.int .i64 t.num,.int .i64 t.pos] 255)).setCell ⟨P,0,none⟩ (.slice a' r.length (c-1))).there w.heap.size 0 q.toArray.size):=by rw[hqa];exact there_of hr5
  have HI:Hid ((Tryz.prog.info? 255).map (·.size)=some q.length∧(Tryz.prog.info? 255).map (·.size)=some q.toArray.size):=⟨by rw[hql];exact hi4,by rw[hqa];exact hi4⟩
  have HQ:Hid (q=tc t):=hq
  clear hT h3 h2 hk2 hr2 hb3 HN hld HK3 hr5 hx hrg hq1 hql hi4 hq hqa
  go_wp2_with (first
   |(refine wpList_load_mid rfl 255 (Operand.tmp 5) rfl w3.heap.size 0 rfl q _ HX.out.1 Tryz.underlying255 rfl HI.out.1 ?_)
   |(refine wpList_store_mid rfl 255 (Operand.tmp 4) (Operand.tmp 22) rfl w.heap.size 0 q.toArray rfl rfl HTH.out HI.out.2 (all_oneCell_toArray HX.out.2.1) ?_)
   |fail)
  refine bodyPost_ret (v:= .agg q.toArray) (res_one Tryz.results220 _ _ rfl HL.out) rfl ⟨_,rfl,by rw[HQ.out];rfl,HZ.out.1,HZ.out.2⟩
end Go.Proofs.YthfgpkdbclogpaaGreatDoor
namespace Go.Proofs.YthfgpkdbclogpaaGreatDoor
open Go.RowKit Go.Shelf
attribute [local go_sem ↓] fld0 fld1 fld2 fld3
abbrev ez:Obj:= .cells #[.int .i64 0,.int .i64 0,.string ⟨#[]⟩,.slice none 0 0,.slice none 0 0] 162
theorem szE:(Tryz.prog.info? 162).map (·.size)=some 5:=by kernel_rfl
theorem ExA.one {w:World}{S:Nat→Prop}{x:Ex}{c:List Value}(h:ExA w S x c):∀ v∈c,v.oneCell'=true:=by
 obtain⟨kv,nv,vs,rfl,h1,h2,_⟩:=h.open
 obtain⟨a1,c1,rfl⟩:=row_shape h1
 obtain⟨a2,c2,rfl⟩:=row_shape h2
 intro v hv
 simp[sv]at hv
 rcases hv with rfl|rfl|rfl|rfl|rfl<;>rfl
def VE (n:Nat)(w:World)(x:Ex)(v:Value):Prop:=∃ c,v= .agg c.toArray∧ExA w (fun g=>n≤g) x c
theorem fin5 {w1:World}{R:Nat}{c0:Array Value}(hr:w1.heap[R]? =some (.cells c0 162 (0,0)))(h0:c0.size=5){S:Nat→Prop}{x:Ex}{c:List Value}(h:ExA w1 S x c):
  w1.there R 0 c.toArray.size∧(Tryz.prog.info? 162).map (·.size)=some c.toArray.size∧c.toArray.all (·.oneCell')=true∧(loadVar 162 ⟨R,0,none⟩).run Tryz.prog (w1.setCells R 0 c)= .ok (.agg c.toArray) (w1.setCells R 0 c)∧
  (Tryz.prog.info? 162).map (·.size)=some c.length:=by
 have hl:=h.len
 have hla:c.toArray.size=5:=hl
 refine⟨by rw[hla,←h0];exact there_of hr,by rw[hla];exact szE,all_oneCell_toArray h.one,(stN hr (c:=c) (by rw[hl,h0]) (by rw[hl];exact szE) h.one Tryz.underlying162 rfl).2,by rw[hl];exact szE⟩
theorem poE_fin {P T n:Nat}{w w1:World}{R:Nat}(hR:w.heap.size≤R)(hRn:R<n){x:Ex}{c:List Value}(hx:ExA w1 (fun g=>n≤g) x c){q:Ps}(hps:PsA P T w1 q)(hk:KP P w w1)(hP:P<w.heap.size)(hT:T<w.heap.size):
  PoA P T (VE w.heap.size) w (.ok (x,q)) (.returned (.agg c.toArray)) (w1.setCells R 0 c):=
 ⟨_,rfl,⟨c,rfl,hx.keep (fun g hg _=>heap_sets R c 0 w1 g (by omega)) (fun g hg _=>by omega)⟩,hps.sets (by omega) (by omega) _,hk.sets hR _⟩
theorem seesAtom_any {P T:Nat}{w:World}{p:Ps}(h:PsA P T w p):
  Calls Tryz.prog 300 #[pt P] w fun e w'=>e= .returned (.bool (sAtom p))∧Below w.heap.size w w':=by
 have HN:=next_any h
 have HS:Hid (∀ W,Below w.heap.size w W→Calls Tryz.prog 215 #[pt P,.slice (some ⟨W.heap.size,0,none⟩) 6 6] (W.alloc (.cells #[.string ⟨#[84,114,117,101]⟩,.string ⟨#[70,97,108,115,101]⟩,.string ⟨#[78,111,110,101]⟩,.string ⟨#[40]⟩,.string ⟨#[91]⟩,.string ⟨#[123]⟩] 9)) fun e w'=>e= .returned (.bool (p.sees [[84,114,117,101],[70,97,108,115,101],[78,111,110,101],[40],[91],[123]]))∧Below w.heap.size w w'):=fun W hW=>by
  have hb:=alB W (.cells #[.string ⟨#[84,114,117,101]⟩,.string ⟨#[70,97,108,115,101]⟩,.string ⟨#[78,111,110,101]⟩,.string ⟨#[40]⟩,.string ⟨#[91]⟩,.string ⟨#[123]⟩] 9)
  refine(seesSign_any ((h.up hW).up hb) (SgA.new P W [[84,114,117,101],[70,97,108,115,101],[78,111,110,101],[40],[91],[123]] (by simp) ((h.up hW).lt))).mono ?_
  rintro e w' ⟨a,b⟩
  exact⟨a,(hW.trans (hb.mono hW.size)).trans (b.mono (Nat.le_trans hW.size hb.size))⟩
 have hq1:(((p.nx.kind:Nat):Int)==(1:Int))=(p.nx.kind==1):=by rw[Bool.eq_iff_iff];simp;omega
 have hq2:(((p.nx.kind:Nat):Int)==(2:Int))=(p.nx.kind==2):=by rw[Bool.eq_iff_iff];simp;omega
 have hq3:(((p.nx.kind:Nat):Int)==(3:Int))=(p.nx.kind==3):=by rw[Bool.eq_iff_iff];simp;omega
 unfold sAtom
 clear h
 generalize p.sees [[84,114,117,101],[70,97,108,115,101],[78,111,110,101],[40],[91],[123]]=bs at *
 generalize(p.nx.kind==1)=b1 at *
 generalize(p.nx.kind==2)=b2 at *
 generalize(p.nx.kind==3)=b3 at *
 generalize p.nx=t at *
 cases b1<;>cases b2<;>cases b3
 all_goals
  go_enter Tryz.func300,Tryz.ntmps300
  go_wp2_with fail
  refine HN.mono ?_
  rintro e w1 ⟨rfl,hb⟩
  have HS1:=HS.out w1 hb
  go_wp2_with (go_at_call 215;refine HS1.mono ?_;rintro e w2 ⟨rfl,hb2⟩)
  go_ret
  exact⟨rfl,by assumption⟩
theorem refuseDeep_any {P T:Nat}{w:World}{p:Ps}(h:PsA P T w p){v:Value}{l:List (List UInt8)}(hs:SgA P w v l){z:Except Ft (Unit×Ps)}(hz:rfD l p=some z):
  Calls Tryz.prog 282 #[pt P,v] w (PoA P T (fun _ _ v=>v= .tuple #[]) w z):=by
 have HA:=seesAtom_any h
 have HS:Hid (∀ W,Below w.heap.size w W→Calls Tryz.prog 215 #[pt P,v] W fun e w'=>e= .returned (.bool (p.sees l))∧Below w.heap.size w w'):=fun W hW=>(seesSign_any (h.up hW) (hs.keep (KP.of_below hW))).mono fun e w' ⟨a,b⟩=>⟨a,hW.trans (b.mono hW.size)⟩
 have HG:Hid (∀ W (b:Bool),Below w.heap.size w W→Calls Tryz.prog 250 #[pt P,.bool b,.int .i64 2] W fun e w'=>(e=bif b then PF 2 p.nx.pos else .returned (.tuple #[]))∧Below w.heap.size w w'):=fun W b hW=>(giveUpIf_any (h.up hW) b 2).mono fun e w' ⟨a,b⟩=>⟨a,hW.trans (b.mono hW.size)⟩
 have HD:Hid (∀ W,Below w.heap.size w W→W.cell? ⟨P,4,none⟩=some (.int .i64 p.deep)):=fun W hW=>by
  obtain⟨_,_,_,_,_,_,c4,_⟩:=(h.up hW).cells
  exact c4
 have HU:Hid (∀ W,Below w.heap.size w W→PsA P T W p):=fun W hW=>h.up hW
 have hq:(((p.deep:Nat):Int)==(30:Int))=(p.deep==30):=by rw[Bool.eq_iff_iff];simp;omega
 unfold rfD guIf at hz
 clear h hs
 generalize sAtom p=b1 at *
 generalize p.sees l=b2 at *
 generalize(p.deep==30)=b3 at *
 cases b1<;>cases b2<;>cases b3
 all_goals
  cases hz
  go_enter Tryz.func282,Tryz.ntmps282
  go_wp2_with fail
  refine HA.mono ?_
  rintro e w1 ⟨rfl,hb⟩
  have c4:=HD.out w1 hb
  go_wp2_with (first
   |(go_at_call 215;refine(HS.out w1 hb).mono ?_;rintro e w2 ⟨rfl,hb2⟩;have c42:=HD.out w2 hb2)
   |(go_at_call 250;refine(HG.out _ _ (by assumption)).mono ?_;rintro e w3 ⟨he,hb3⟩;simp only[cond_true,cond_false]at he;subst he)
   |fail)
 all_goals first
  |(go_end0;exact⟨_,rfl,rfl,HU.out _ (by assumption),KP.of_below (by assumption)⟩)
  |exact⟨rfl,rfl,KP.of_below (by assumption)⟩
end Go.Proofs.YthfgpkdbclogpaaGreatDoor
namespace Go.Proofs.YthfgpkdbclogpaaGreatDoor
open Go.RowKit Go.Shelf
attribute [local go_sem ↓] fld0 fld1 fld2 fld3
def PartC (P T F:Nat)(caps:Array Value)(w0:World)(m:Ps→Px Ex):Prop:=(∀ args w,(callFunc F args).run Tryz.prog w= .ok (.enter F args) w)∧∀ W p z,KP P w0 W→PsA P T W p→m p=some z→Calls Tryz.prog F caps W (PoA P T (VE W.heap.size) W z)
theorem PartC.keep {P T F:Nat}{caps:Array Value}{w w':World}{m:Ps→Px Ex}(h:PartC P T F caps w m)(hk:KP P w w'):PartC P T F caps w' m:=⟨h.1,fun W p z hW=>h.2 W p z (hk.trans hW)⟩
theorem PsA.deepTo {P T:Nat}{w:World}{p:Ps}(h:PsA P T w p)(d:Nat)(hd:d≤1000):PsA P T (w.setCell ⟨P,4,none⟩ (.int .i64 d)) {p with deep:=d}:=by
 obtain⟨a,c,o,h1,h2,h3,h4,h5,h6,h7,h8,h9⟩:=h
 refine⟨a,c,o,?_,h2,h3,h4,fun j hj=>?_,h6,by simp[World.setCell];exact h7,hd,h9⟩
 ·rw[Go.Joins.block_setCell h1];rfl
 ·rw[←h5 j hj]
  have e2:=Below.heap_setCell w ⟨P,4,none⟩ (.int .i64 d) T h6
  simp[World.cell?,e2]
theorem PsA.fz {P T:Nat}{w:World}{p:Ps}(h:PsA P T w p)(i:Nat):w.frozen? ⟨P,i,none⟩=false:=by
 obtain⟨a,c,o,h1,_⟩:=h
 exact Lib.frozen_of_heap h1 i
theorem PsA.deepLe {P T:Nat}{w:World}{p:Ps}(h:PsA P T w p):p.deep≤1000:=by
 obtain⟨a,c,o,h1,h2,h3,h4,h5,h6,h7,h8,h9⟩:=h
 exact h8
theorem PsA.d4 {P T:Nat}{w:World}{p:Ps}(h:PsA P T w p):w.cell? ⟨P,4,none⟩=some (.int .i64 p.deep):=by
 obtain⟨_,_,_,_,_,_,c4,_⟩:=h.cells
 exact c4
theorem bad_panic {α:Type}{P T:Nat}{V:World→α→Value→Prop}{w w1:World}{x:Ft}{e:Ending}{w2:World}(h:PoA P T V w1 (.error x) e w2)(hk:KP P w w1):e=PF x.1 x.2∧KP P w w2:=by
 obtain⟨k,a⟩:=x
 exact⟨h.1,hk.trans h.2⟩
theorem size_set (w:World)(a:Addr)(v:Value):(w.setCell a v).heap.size=w.heap.size:=by simp[World.setCell]
theorem var5 {w1:World}{S:Nat→Prop}{x:Ex}{c:List Value}(h:ExA w1 S x c):(w1.alloc ez).there w1.heap.size 0 c.toArray.size∧((w1.alloc ez).setCells w1.heap.size 0 c).rangeAt w1.heap.size 0 c∧ExA ((w1.alloc ez).setCells w1.heap.size 0 c) (fun g=>S g∧g<w1.heap.size) x c∧(∀ g,g<w1.heap.size→((w1.alloc ez).setCells w1.heap.size 0 c).heap[g]? =w1.heap[g]?):=by
 have hr:(w1.alloc ez).heap[w1.heap.size]? =some ez:=heap_alloc_new w1 _
 have hla:c.toArray.size=5:=h.len
 have ht:(w1.alloc ez).there w1.heap.size 0 c.toArray.size:=by rw[hla];exact there_of hr
 have hg:∀ g,g<w1.heap.size→((w1.alloc ez).setCells w1.heap.size 0 c).heap[g]? =w1.heap[g]? :=fun g hg=>(heap_sets _ c 0 _ g (by omega)).trans (heap_al w1 _ g hg)
 exact⟨ht,World.rangeAt_setCells_same _ _ _ _ ht,h.keep (fun g _ hg2=>hg g hg2) (fun g h1 h2=>⟨h1,h2⟩),hg⟩
theorem deeper_any {P T F:Nat}{caps:Array Value}{w:World}{p:Ps}{m:Ps→Px Ex}(h:PsA P T w p)(hm:PartC P T F caps w m){z:Except Ft (Ex×Ps)}(hz:inner m p=some z):
  Calls Tryz.prog 283 #[pt P,.func (.func F) #[] caps] w (PoA P T (VE w.heap.size) w z):=by
 have hPl:=h.lt
 have hTl:=h.ltT
 obtain⟨hd,hz2⟩:=iff_some hz
 have hd1:p.deep<1000:=of_decide_eq_true hd
 have c4:=(h.up (alB w ez)).d4
 have f4:=(h.up (alB w ez)).fz 4
 have hV:PsA P T ((w.setCell ⟨P,4,none⟩ (.int .i64 ((p.deep+1:Nat):Int))).alloc ez) p.inn:=(h.deepTo (p.deep+1) (by omega)).up (alB _ _)
 have hkV:KP P w ((w.setCell ⟨P,4,none⟩ (.int .i64 ((p.deep+1:Nat):Int))).alloc ez):=((KP.refl P w).setCell 4 _).trans (KP.of_below (alB _ _))
 have hrV:((w.setCell ⟨P,4,none⟩ (.int .i64 ((p.deep+1:Nat):Int))).alloc ez).heap[w.heap.size]? =some ez:=by
  have:=heap_alloc_new (w.setCell ⟨P,4,none⟩ (.int .i64 ((p.deep+1:Nat):Int))) ez
  rwa [size_set]at this
 have hw1:IntKind.i64.wrap ((p.deep:Int)+1)=((p.deep+1:Nat):Int):=by rw[IntKind.wrap_i64];omega
 have hent:=hm.1
 have HC:Hid (∀ z',m p.inn=some z'→Calls Tryz.prog F caps ((w.setCell ⟨P,4,none⟩ (.int .i64 ((p.deep+1:Nat):Int))).alloc ez) (PoA P T (VE (w.heap.size+1)) ((w.setCell ⟨P,4,none⟩ (.int .i64 ((p.deep+1:Nat):Int))).alloc ez) z')):=fun z' hz'=>by
  have:=hm.2 _ _ z' hkV hV hz'
  rwa [World.size_alloc,size_set]at this
 have HV:Hid (KP P w ((w.setCell ⟨P,4,none⟩ (.int .i64 ((p.deep+1:Nat):Int))).alloc ez)∧((w.setCell ⟨P,4,none⟩ (.int .i64 ((p.deep+1:Nat):Int))).alloc ez).heap[w.heap.size]? =some ez):=⟨hkV,hrV⟩
 clear hm hV hkV hrV hz hd
 generalize((p.deep+1:Nat):Int)=D at *
 rcases bnd_some hz2 with⟨x,hx,rfl⟩|⟨x,q,hx,hq⟩
 ·have HC1:=HC.out _ hx
  clear HC
  go_enter Tryz.func283,Tryz.ntmps283
  go_wp2_with fail
  refine HC1.mono ?_
  rintro e w1 hpo
  obtain⟨rfl,hk⟩:=bad_panic hpo HV.out.1
  exact⟨rfl,rfl,hk⟩
 ·have HC1:=HC.out _ hx
  clear HC
  obtain⟨hd,hq2⟩:=iff_some hq
  have hd2:1≤q.deep:=of_decide_eq_true hd
  cases hq2
  go_enter Tryz.func283,Tryz.ntmps283
  go_wp2_with fail
  refine HC1.mono ?_
  rintro e w1 ⟨v,rfl,⟨c,rfl,hx1⟩,hp1,hk1⟩
  have hr1:w1.heap[w.heap.size]? =some ez:=(hk1.blk _ (Array.getElem?_eq_some_iff.1 HV.out.2).1 (by omega)).trans HV.out.2
  have hs1:w.heap.size<w1.heap.size:=(Array.getElem?_eq_some_iff.1 hr1).1
  have hkw:=HV.out.1.trans hk1
  obtain⟨t1,r1,x1,g1⟩:=var5 hx1
  obtain⟨-,i1,o1,-,j1⟩:=fin5 hr1 rfl hx1
  have hA:PsA P T ((w1.alloc ez).setCells w1.heap.size 0 c) q:=hp1.keep (g1 P (by omega)) (g1 T (by omega))
  have d4:=hA.d4
  have e4:=hA.fz 4
  have hB:=hA.deepTo (q.deep-1) (by have:=hA.deepLe;omega)
  have hkB:KP P w (((w1.alloc ez).setCells w1.heap.size 0 c).setCell ⟨P,4,none⟩ (.int .i64 ((q.deep-1:Nat):Int))):=((hkw.trans (KP.of_below (alB w1 ez))).sets (by omega) c).setCell 4 _
  have sB:∀ g,g≠P→g<w1.heap.size→(((w1.alloc ez).setCells w1.heap.size 0 c).setCell ⟨P,4,none⟩ (.int .i64 ((q.deep-1:Nat):Int))).heap[g]? =w1.heap[g]? :=fun g hg hg2=>(Below.heap_setCell _ ⟨P,4,none⟩ _ g hg).trans (g1 g hg2)
  have rB:=(sB w.heap.size (by omega) hs1).trans hr1
  have xB:ExA (((w1.alloc ez).setCells w1.heap.size 0 c).setCell ⟨P,4,none⟩ (.int .i64 ((q.deep-1:Nat):Int))) (fun g=>w.heap.size+1≤g) x c:=hx1.keep (fun g hg hg2=>sB g (by omega) hg2) (fun g hg _=>hg)
  have aB:(((w1.alloc ez).setCells w1.heap.size 0 c).setCell ⟨P,4,none⟩ (.int .i64 ((q.deep-1:Nat):Int))).rangeAt w1.heap.size 0 c:=fun j v hv=>by
   rw[←r1 j v hv]
   have:=Below.heap_setCell ((w1.alloc ez).setCells w1.heap.size 0 c) ⟨P,4,none⟩ (.int .i64 ((q.deep-1:Nat):Int)) w1.heap.size (by show ¬_=P;omega)
   simp[World.cell?,this]
  obtain⟨t2,i2,o2,l2,j2⟩:=fin5 rB rfl xB
  have HE:Hid (PoA P T (VE w.heap.size) w (.ok (x,q.out)) (.returned (.agg c.toArray)) ((((w1.alloc ez).setCells w1.heap.size 0 c).setCell ⟨P,4,none⟩ (.int .i64 ((q.deep-1:Nat):Int))).setCells w.heap.size 0 c)):=poE_fin (Nat.le_refl _) (Nat.lt_succ_self _) xB hB hkB hPl hTl
  have HF:Hid _:=(⟨t1,i1,o1,j1,aB,t2,l2⟩:_∧_∧_∧_∧_∧_∧_)
  have hw2:IntKind.i64.wrap ((q.deep:Int)-1)=((q.deep-1:Nat):Int):=by rw[IntKind.wrap_i64];have:=hA.deepLe;omega
  clear hA hB hkB sB rB xB aB t2 i2 o2 l2 j2 t1 i1 o1 j1 r1 x1 g1 hx1 hp1 hk1 hkw hr1 HC1 HV
  generalize((q.deep-1:Nat):Int)=D2 at *
  go_wp2_with (first
   |(refine wpList_load_mid rfl 162 (Operand.tmp 5) rfl w1.heap.size 0 rfl c _ HF.out.2.2.2.2.1 Tryz.underlying162 rfl HF.out.2.2.2.1 ?_)
   |(refine wpList_store_mid rfl 162 (Operand.tmp 5) (Operand.tmp 14) rfl w1.heap.size 0 c.toArray rfl rfl HF.out.1 HF.out.2.1 HF.out.2.2.1 ?_)
   |(refine wpList_store_mid rfl 162 (Operand.tmp 4) (Operand.tmp 22) rfl w.heap.size 0 c.toArray rfl rfl HF.out.2.2.2.2.2.1 HF.out.2.1 HF.out.2.2.1 ?_)
   |fail)
  refine bodyPost_ret (v:= .agg c.toArray) (res_one Tryz.results283 _ _ rfl HF.out.2.2.2.2.2.2) rfl HE.out
end Go.Proofs.YthfgpkdbclogpaaGreatDoor
