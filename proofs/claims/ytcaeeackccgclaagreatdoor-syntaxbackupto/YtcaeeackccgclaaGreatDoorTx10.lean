/- 10. -/
import Derived.Test.YtcaeeackccgclaaGreatDoorTx5
import Derived.Test.YtcaeeackccgclaaGreatDoorTx9
set_option maxHeartbeats 40000000
set_option maxRecDepth 100000
namespace Go.Proofs.YtcaeeackccgclaaGreatDoor
open Go.RowKit Go.Shelf
attribute [local go_sem ↓] fld0 fld1 fld2 fld3
abbrev ez:Obj:= .cells #[.int .i64 0,.int .i64 0,.string ⟨#[]⟩,.slice none 0 0,.slice none 0 0] 38
theorem szE:(Tryz.prog.info? 38).map (·.size)=some 5:=by kernel_rfl
theorem ExA.one {w:World}{S:Nat→Prop}{x:Ex}{c:List Value}(h:ExA w S x c):∀ v∈c,v.oneCell'=true:=by
 obtain⟨kv,nv,vs,rfl,h1,h2,_⟩:=h.open
 obtain⟨a1,c1,rfl⟩:=row_shape h1
 obtain⟨a2,c2,rfl⟩:=row_shape h2
 intro v hv
 simp[sv]at hv
 rcases hv with rfl|rfl|rfl|rfl|rfl<;>rfl
def VE (n:Nat)(w:World)(x:Ex)(v:Value):Prop:=∃ c,v= .agg c.toArray∧ExA w (fun g=>n≤g) x c
theorem fin5 {w1:World}{R:Nat}{c0:Array Value}(hr:w1.heap[R]? =some (.cells c0 38 (0,0)))(h0:c0.size=5){S:Nat→Prop}{x:Ex}{c:List Value}(h:ExA w1 S x c):
  w1.there R 0 c.toArray.size∧(Tryz.prog.info? 38).map (·.size)=some c.toArray.size∧c.toArray.all (·.oneCell')=true∧(loadVar 38 ⟨R,0,none⟩).run Tryz.prog (w1.setCells R 0 c)= .ok (.agg c.toArray) (w1.setCells R 0 c)∧
  (Tryz.prog.info? 38).map (·.size)=some c.length:=by
 have hl:=h.len
 have hla:c.toArray.size=5:=hl
 refine⟨by rw[hla,←h0];exact there_of hr,by rw[hla];exact szE,all_oneCell_toArray h.one,(stN hr (c:=c) (by rw[hl,h0]) (by rw[hl];exact szE) h.one Tryz.underlying38 rfl).2,by rw[hl];exact szE⟩
theorem poE_fin {P T n:Nat}{w w1:World}{R:Nat}(hR:w.heap.size≤R)(hRn:R<n){x:Ex}{c:List Value}(hx:ExA w1 (fun g=>n≤g) x c){q:Ps}(hps:PsA P T w1 q)(hk:KP P w w1)(hP:P<w.heap.size)(hT:T<w.heap.size):
  PoA P T (VE w.heap.size) w (.ok (x,q)) (.returned (.agg c.toArray)) (w1.setCells R 0 c):=
 ⟨_,rfl,⟨c,rfl,hx.keep (fun g hg _=>heap_sets R c 0 w1 g (by omega)) (fun g hg _=>by omega)⟩,hps.sets (by omega) (by omega) _,hk.sets hR _⟩
theorem seesAtom_any {P T:Nat}{w:World}{p:Ps}(h:PsA P T w p):
  Calls Tryz.prog 125 #[pt P] w fun e w'=>e= .returned (.bool (sAtom p))∧Below w.heap.size w w':=by
 have HN:=next_any h
 have HS:Hid (∀ W,Below w.heap.size w W→Calls Tryz.prog 44 #[pt P,.slice (some ⟨W.heap.size,0,none⟩) 6 6] (W.alloc (.cells #[.string ⟨#[84,114,117,101]⟩,.string ⟨#[70,97,108,115,101]⟩,.string ⟨#[78,111,110,101]⟩,.string ⟨#[40]⟩,.string ⟨#[91]⟩,.string ⟨#[123]⟩] 9)) fun e w'=>e= .returned (.bool (p.sees [[84,114,117,101],[70,97,108,115,101],[78,111,110,101],[40],[91],[123]]))∧Below w.heap.size w w'):=fun W hW=>by
  have hb:=alB W (.cells #[.string ⟨#[84,114,117,101]⟩,.string ⟨#[70,97,108,115,101]⟩,.string ⟨#[78,111,110,101]⟩,.string ⟨#[40]⟩,.string ⟨#[91]⟩,.string ⟨#[123]⟩] 9)
  refine(seesSign_any ((h.up hW).up hb) (SgA.new P W [[84,114,117,101],[70,97,108,115,101],[78,111,110,101],[40],[91],[123]] (by simp) ((h.up hW).lt))).mono ?_
  rintro e w' ⟨a,b⟩
  exact⟨a,(hW.trans (hb.mono hW.size)).trans (b.mono (Nat.le_trans hW.size hb.size))⟩
 have hq1:(((p.nx.kind:Nat):Int)==(1:Int))=(p.nx.kind==1):=by rw[Bool.eq_iff_iff];simp;omega
 have hq2:(((p.nx.kind:Nat):Int)==(2:Int))=(p.nx.kind==2):=by rw[Bool.eq_iff_iff];simp;omega
 have hq3:(((p.nx.kind:Nat):Int)==(3:Int))=(p.nx.kind==3):=by rw[Bool.eq_iff_iff];simp;omega
 unfold sAtom
 clear h
 generalize p.sees [[84,114,117,101],[70,97,108,115,101],[78,111,110,101],[40],[91],[123]]=bs at *
 generalize(p.nx.kind==1)=b1 at *
 generalize(p.nx.kind==2)=b2 at *
 generalize(p.nx.kind==3)=b3 at *
 generalize p.nx=t at *
 cases b1<;>cases b2<;>cases b3
 all_goals
  go_enter Tryz.func125,Tryz.ntmps125
  go_wp2_with fail
  refine HN.mono ?_
  rintro e w1 ⟨rfl,hb⟩
  have HS1:=HS.out w1 hb
  go_wp2_with (go_at_call 44;refine HS1.mono ?_;rintro e w2 ⟨rfl,hb2⟩)
  go_ret
  exact⟨rfl,by assumption⟩
theorem refuseDeep_any {P T:Nat}{w:World}{p:Ps}(h:PsA P T w p){v:Value}{l:List (List UInt8)}(hs:SgA P w v l){z:Except Ft (Unit×Ps)}(hz:rfD l p=some z):
  Calls Tryz.prog 105 #[pt P,v] w (PoA P T (fun _ _ v=>v= .tuple #[]) w z):=by
 have HA:=seesAtom_any h
 have HS:Hid (∀ W,Below w.heap.size w W→Calls Tryz.prog 44 #[pt P,v] W fun e w'=>e= .returned (.bool (p.sees l))∧Below w.heap.size w w'):=fun W hW=>(seesSign_any (h.up hW) (hs.keep (KP.of_below hW))).mono fun e w' ⟨a,b⟩=>⟨a,hW.trans (b.mono hW.size)⟩
 have HG:Hid (∀ W (b:Bool),Below w.heap.size w W→Calls Tryz.prog 73 #[pt P,.bool b,.int .i64 2] W fun e w'=>(e=bif b then PF 2 p.nx.pos else .returned (.tuple #[]))∧Below w.heap.size w w'):=fun W b hW=>(giveUpIf_any (h.up hW) b 2).mono fun e w' ⟨a,b⟩=>⟨a,hW.trans (b.mono hW.size)⟩
 have HD:Hid (∀ W,Below w.heap.size w W→W.cell? ⟨P,4,none⟩=some (.int .i64 p.deep)):=fun W hW=>by
  obtain⟨_,_,_,_,_,_,c4,_⟩:=(h.up hW).cells
  exact c4
 have HU:Hid (∀ W,Below w.heap.size w W→PsA P T W p):=fun W hW=>h.up hW
 have hq:(((p.deep:Nat):Int)==(30:Int))=(p.deep==30):=by rw[Bool.eq_iff_iff];simp;omega
 unfold rfD guIf at hz
 clear h hs
 generalize sAtom p=b1 at *
 generalize p.sees l=b2 at *
 generalize(p.deep==30)=b3 at *
 cases b1<;>cases b2<;>cases b3
 all_goals
  cases hz
  go_enter Tryz.func105,Tryz.ntmps105
  go_wp2_with fail
  refine HA.mono ?_
  rintro e w1 ⟨rfl,hb⟩
  have c4:=HD.out w1 hb
  go_wp2_with (first
   |(go_at_call 44;refine(HS.out w1 hb).mono ?_;rintro e w2 ⟨rfl,hb2⟩;have c42:=HD.out w2 hb2)
   |(go_at_call 73;refine(HG.out _ _ (by assumption)).mono ?_;rintro e w3 ⟨he,hb3⟩;simp only[cond_true,cond_false]at he;subst he)
   |fail)
 all_goals first
  |(go_end0;exact⟨_,rfl,rfl,HU.out _ (by assumption),KP.of_below (by assumption)⟩)
  |exact⟨rfl,rfl,KP.of_below (by assumption)⟩
end Go.Proofs.YtcaeeackccgclaaGreatDoor
namespace Go.Proofs.YtcaeeackccgclaaGreatDoor
open Go.RowKit Go.Shelf
attribute [local go_sem ↓] fld0 fld1 fld2 fld3
def PartC (P T F:Nat)(caps:Array Value)(w0:World)(m:Ps→Px Ex):Prop:=(∀ args w,(callFunc F args).run Tryz.prog w= .ok (.enter F args) w)∧∀ W p z,KP P w0 W→PsA P T W p→m p=some z→Calls Tryz.prog F caps W (PoA P T (VE W.heap.size) W z)
theorem PartC.keep {P T F:Nat}{caps:Array Value}{w w':World}{m:Ps→Px Ex}(h:PartC P T F caps w m)(hk:KP P w w'):PartC P T F caps w' m:=⟨h.1,fun W p z hW=>h.2 W p z (hk.trans hW)⟩
theorem PsA.deepTo {P T:Nat}{w:World}{p:Ps}(h:PsA P T w p)(d:Nat)(hd:d≤1000):PsA P T (w.setCell ⟨P,4,none⟩ (.int .i64 d)) {p with deep:=d}:=by
 obtain⟨a,c,o,h1,h2,h3,h4,h5,h6,h7,h8,h9⟩:=h
 refine⟨a,c,o,?_,h2,h3,h4,fun j hj=>?_,h6,by simp[World.setCell];exact h7,hd,h9⟩
 ·rw[Go.Joins.block_setCell h1];rfl
 ·rw[←h5 j hj]
  have e2:=Below.heap_setCell w ⟨P,4,none⟩ (.int .i64 d) T h6
  simp[World.cell?,e2]
theorem PsA.fz {P T:Nat}{w:World}{p:Ps}(h:PsA P T w p)(i:Nat):w.frozen? ⟨P,i,none⟩=false:=by
 obtain⟨a,c,o,h1,_⟩:=h
 exact Lib.frozen_of_heap h1 i
theorem PsA.deepLe {P T:Nat}{w:World}{p:Ps}(h:PsA P T w p):p.deep≤1000:=by
 obtain⟨a,c,o,h1,h2,h3,h4,h5,h6,h7,h8,h9⟩:=h
 exact h8
theorem PsA.d4 {P T:Nat}{w:World}{p:Ps}(h:PsA P T w p):w.cell? ⟨P,4,none⟩=some (.int .i64 p.deep):=by
 obtain⟨_,_,_,_,_,_,c4,_⟩:=h.cells
 exact c4
theorem bad_panic {α:Type}{P T:Nat}{V:World→α→Value→Prop}{w w1:World}{x:Ft}{e:Ending}{w2:World}(h:PoA P T V w1 (.error x) e w2)(hk:KP P w w1):e=PF x.1 x.2∧KP P w w2:=by
 obtain⟨k,a⟩:=x
 exact⟨h.1,hk.trans h.2⟩
theorem size_set (w:World)(a:Addr)(v:Value):(w.setCell a v).heap.size=w.heap.size:=by simp[World.setCell]
theorem var5 {w1:World}{S:Nat→Prop}{x:Ex}{c:List Value}(h:ExA w1 S x c):(w1.alloc ez).there w1.heap.size 0 c.toArray.size∧((w1.alloc ez).setCells w1.heap.size 0 c).rangeAt w1.heap.size 0 c∧ExA ((w1.alloc ez).setCells w1.heap.size 0 c) (fun g=>S g∧g<w1.heap.size) x c∧(∀ g,g<w1.heap.size→((w1.alloc ez).setCells w1.heap.size 0 c).heap[g]? =w1.heap[g]?):=by
 have hr:(w1.alloc ez).heap[w1.heap.size]? =some ez:=heap_alloc_new w1 _
 have hla:c.toArray.size=5:=h.len
 have ht:(w1.alloc ez).there w1.heap.size 0 c.toArray.size:=by rw[hla];exact there_of hr
 have hg:∀ g,g<w1.heap.size→((w1.alloc ez).setCells w1.heap.size 0 c).heap[g]? =w1.heap[g]? :=fun g hg=>(heap_sets _ c 0 _ g (by omega)).trans (heap_al w1 _ g hg)
 exact⟨ht,World.rangeAt_setCells_same _ _ _ _ ht,h.keep (fun g _ hg2=>hg g hg2) (fun g h1 h2=>⟨h1,h2⟩),hg⟩
theorem deeper_any {P T F:Nat}{caps:Array Value}{w:World}{p:Ps}{m:Ps→Px Ex}(h:PsA P T w p)(hm:PartC P T F caps w m){z:Except Ft (Ex×Ps)}(hz:inner m p=some z):
  Calls Tryz.prog 106 #[pt P,.func (.func F) #[] caps] w (PoA P T (VE w.heap.size) w z):=by
 have hPl:=h.lt
 have hTl:=h.ltT
 obtain⟨hd,hz2⟩:=iff_some hz
 have hd1:p.deep<1000:=of_decide_eq_true hd
 have c4:=(h.up (alB w ez)).d4
 have f4:=(h.up (alB w ez)).fz 4
 have hV:PsA P T ((w.setCell ⟨P,4,none⟩ (.int .i64 ((p.deep+1:Nat):Int))).alloc ez) p.inn:=(h.deepTo (p.deep+1) (by omega)).up (alB _ _)
 have hkV:KP P w ((w.setCell ⟨P,4,none⟩ (.int .i64 ((p.deep+1:Nat):Int))).alloc ez):=((KP.refl P w).setCell 4 _).trans (KP.of_below (alB _ _))
 have hrV:((w.setCell ⟨P,4,none⟩ (.int .i64 ((p.deep+1:Nat):Int))).alloc ez).heap[w.heap.size]? =some ez:=by
  have:=heap_alloc_new (w.setCell ⟨P,4,none⟩ (.int .i64 ((p.deep+1:Nat):Int))) ez
  rwa [size_set]at this
 have hw1:IntKind.i64.wrap ((p.deep:Int)+1)=((p.deep+1:Nat):Int):=by rw[IntKind.wrap_i64];omega
 have hent:=hm.1
 have HC:Hid (∀ z',m p.inn=some z'→Calls Tryz.prog F caps ((w.setCell ⟨P,4,none⟩ (.int .i64 ((p.deep+1:Nat):Int))).alloc ez) (PoA P T (VE (w.heap.size+1)) ((w.setCell ⟨P,4,none⟩ (.int .i64 ((p.deep+1:Nat):Int))).alloc ez) z')):=fun z' hz'=>by
  have:=hm.2 _ _ z' hkV hV hz'
  rwa [World.size_alloc,size_set]at this
 have HV:Hid (KP P w ((w.setCell ⟨P,4,none⟩ (.int .i64 ((p.deep+1:Nat):Int))).alloc ez)∧((w.setCell ⟨P,4,none⟩ (.int .i64 ((p.deep+1:Nat):Int))).alloc ez).heap[w.heap.size]? =some ez):=⟨hkV,hrV⟩
 clear hm hV hkV hrV hz hd
 generalize((p.deep+1:Nat):Int)=D at *
 rcases bnd_some hz2 with⟨x,hx,rfl⟩|⟨x,q,hx,hq⟩
 ·have HC1:=HC.out _ hx
  clear HC
  go_enter Tryz.func106,Tryz.ntmps106
  go_wp2_with fail
  refine HC1.mono ?_
  rintro e w1 hpo
  obtain⟨rfl,hk⟩:=bad_panic hpo HV.out.1
  exact⟨rfl,rfl,hk⟩
 ·have HC1:=HC.out _ hx
  clear HC
  obtain⟨hd,hq2⟩:=iff_some hq
  have hd2:1≤q.deep:=of_decide_eq_true hd
  cases hq2
  go_enter Tryz.func106,Tryz.ntmps106
  go_wp2_with fail
  refine HC1.mono ?_
  rintro e w1 ⟨v,rfl,⟨c,rfl,hx1⟩,hp1,hk1⟩
  have hr1:w1.heap[w.heap.size]? =some ez:=(hk1.blk _ (Array.getElem?_eq_some_iff.1 HV.out.2).1 (by omega)).trans HV.out.2
  have hs1:w.heap.size<w1.heap.size:=(Array.getElem?_eq_some_iff.1 hr1).1
  have hkw:=HV.out.1.trans hk1
  obtain⟨t1,r1,x1,g1⟩:=var5 hx1
  obtain⟨-,i1,o1,-,j1⟩:=fin5 hr1 rfl hx1
  have hA:PsA P T ((w1.alloc ez).setCells w1.heap.size 0 c) q:=hp1.keep (g1 P (by omega)) (g1 T (by omega))
  have d4:=hA.d4
  have e4:=hA.fz 4
  have hB:=hA.deepTo (q.deep-1) (by have:=hA.deepLe;omega)
  have hkB:KP P w (((w1.alloc ez).setCells w1.heap.size 0 c).setCell ⟨P,4,none⟩ (.int .i64 ((q.deep-1:Nat):Int))):=((hkw.trans (KP.of_below (alB w1 ez))).sets (by omega) c).setCell 4 _
  have sB:∀ g,g≠P→g<w1.heap.size→(((w1.alloc ez).setCells w1.heap.size 0 c).setCell ⟨P,4,none⟩ (.int .i64 ((q.deep-1:Nat):Int))).heap[g]? =w1.heap[g]? :=fun g hg hg2=>(Below.heap_setCell _ ⟨P,4,none⟩ _ g hg).trans (g1 g hg2)
  have rB:=(sB w.heap.size (by omega) hs1).trans hr1
  have xB:ExA (((w1.alloc ez).setCells w1.heap.size 0 c).setCell ⟨P,4,none⟩ (.int .i64 ((q.deep-1:Nat):Int))) (fun g=>w.heap.size+1≤g) x c:=hx1.keep (fun g hg hg2=>sB g (by omega) hg2) (fun g hg _=>hg)
  have aB:(((w1.alloc ez).setCells w1.heap.size 0 c).setCell ⟨P,4,none⟩ (.int .i64 ((q.deep-1:Nat):Int))).rangeAt w1.heap.size 0 c:=fun j v hv=>by
   rw[←r1 j v hv]
   have:=Below.heap_setCell ((w1.alloc ez).setCells w1.heap.size 0 c) ⟨P,4,none⟩ (.int .i64 ((q.deep-1:Nat):Int)) w1.heap.size (by show ¬_=P;omega)
   simp[World.cell?,this]
  obtain⟨t2,i2,o2,l2,j2⟩:=fin5 rB rfl xB
  have HE:Hid (PoA P T (VE w.heap.size) w (.ok (x,q.out)) (.returned (.agg c.toArray)) ((((w1.alloc ez).setCells w1.heap.size 0 c).setCell ⟨P,4,none⟩ (.int .i64 ((q.deep-1:Nat):Int))).setCells w.heap.size 0 c)):=poE_fin (Nat.le_refl _) (Nat.lt_succ_self _) xB hB hkB hPl hTl
  have HF:Hid _:=(⟨t1,i1,o1,j1,aB,t2,l2⟩:_∧_∧_∧_∧_∧_∧_)
  have hw2:IntKind.i64.wrap ((q.deep:Int)-1)=((q.deep-1:Nat):Int):=by rw[IntKind.wrap_i64];have:=hA.deepLe;omega
  clear hA hB hkB sB rB xB aB t2 i2 o2 l2 j2 t1 i1 o1 j1 r1 x1 g1 hx1 hp1 hk1 hkw hr1 HC1 HV
  generalize((q.deep-1:Nat):Int)=D2 at *
  go_wp2_with (first
   |(refine wpList_load_mid rfl 38 (Operand.tmp 5) rfl w1.heap.size 0 rfl c _ HF.out.2.2.2.2.1 Tryz.underlying38 rfl HF.out.2.2.2.1 ?_)
   |(refine wpList_store_mid rfl 38 (Operand.tmp 5) (Operand.tmp 14) rfl w1.heap.size 0 c.toArray rfl rfl HF.out.1 HF.out.2.1 HF.out.2.2.1 ?_)
   |(refine wpList_store_mid rfl 38 (Operand.tmp 4) (Operand.tmp 22) rfl w.heap.size 0 c.toArray rfl rfl HF.out.2.2.2.2.2.1 HF.out.2.1 HF.out.2.2.1 ?_)
   |fail)
  refine bodyPost_ret (v:= .agg c.toArray) (res_one Tryz.results106 _ _ rfl HF.out.2.2.2.2.2.2) rfl HE.out
end Go.Proofs.YtcaeeackccgclaaGreatDoor
