/- 36. -/
import Derived.Test.YtcaeeackccgclaaGreatDoorTx35
import Derived.Test.YtcaeeackccgclaaGreatDoorTx16
set_option maxHeartbeats 40000000
set_option maxRecDepth 100000
namespace Go.Proofs.YtcaeeackccgclaaGreatDoor
open Go.RowKit Go.Shelf
attribute [local go_sem ↓] fld0 fld1 fld2 fld3
def SoI (P T n:Nat)(w:World)(St:Ps→Px Sm)(z:Except Ft (List Sm×Ps))(v:Value)(wr:World):Prop:=∃ l p f vs,srcL St f l p=some z∧PsA P T wr p∧KP P w wr∧RwS n wr l v vs
theorem source_any {P T:Nat}{St:Ps→Px Sm}(hSt:MethS P T 33 St)(W:World)(p:Ps)(z:Except Ft (List Sm×Ps))(h:PsA P T W p)(hr:ErrR W)(hz:srcL St (p.toks.length+1) [] p=some z):
  Calls Tryz.prog 22 #[pt P] W (PoA P T (VL W.heap.size) W z):=by
 obtain⟨i0,hi,hz0,hz1,hz2⟩:=info_p infSt
 have hPl:=h.lt
 have hTl:=h.ltT
 have HE:Hid (MethS P T 33 St):=hSt
 have HEr:Hid (∀ W',KP P W W'→ErrR W'):=fun W' hk=>hr.kp (hr.ne h) hk
 have HJ:Hid (SoI P T W.heap.size W St z (.slice none 0 0) W):=⟨[],p,_,[],hz,h,KP.refl P W,World.ownsRow_nil _ _ _ _,trivial⟩
 clear h hr hz hSt
 go_enter Tryz.func22,Tryz.ntmps22
 go_wp2
 go_loopw [3] (fun u wr=>∃ v:Value,u=v∧Hid (SoI P T W.heap.size W St z v wr)) (fun _ wr=>tkLen P wr)
 case atStart=>exact⟨_,rfl,HJ⟩
 case round=>
  obtain⟨v,rfl,hrel⟩:=hrel
  obtain⟨l,p',f,vs,hj,hps,hk,hrw⟩:=hrel.out
  obtain⟨ao,cp,rfl⟩:=row_shape hrw.row
  clear hrel HJ
  cases f with
  |zero=>cases hj
  |succ f=>
  unfold srcL at hj
  have htk:=hps.tk
  obtain⟨a,c,c0,_⟩:=hps.cells
  by_cases hl0:p'.toks.length=0
  ·rw[show decide (p'.toks.length=0)=true from by simpa using hl0]at hj
   cases hj
   rw[hl0]at c0
   have HZ:Hid (PoA P T (VL W.heap.size) W (.ok (l,p')) (.returned (.slice ao l.length cp)) wr):=⟨_,rfl,⟨vs,hrw⟩,hps,hk⟩
   clear hps hk hrw
   go_wp2
   go_ret
   exact HZ.out
  ·rw[show decide (p'.toks.length=0)=false from by simpa using hl0]at hj
   replace hj:iff (decide (l.length<1000000)) (bnd (St p') fun s q=>iff (less q p') (srcL St f (l++[s]) q))=some z:=hj
   obtain⟨hn,hj2⟩:=iff_some hj
   have hn1:l.length<1000000:=of_decide_eq_true hn
   have hpos:(0:Int)<(p'.toks.length:Int):=by omega
   clear hj hn
   rcases bnd_some hj2 with⟨x,hx,rfl⟩|⟨y,q,hx,hq⟩
   ·have HD:=HE.out wr _ _ hps (HEr.out _ hk) hx
    clear hps hrw hx hj2
    go_wp2_with (go_at_call 33;refine HD.mono ?_;rintro e1 w1 hpo;obtain⟨rfl,hk1⟩:=bad_panic hpo hk)
    exact⟨rfl,rfl,hk1⟩
   ·have HD:=HE.out wr _ _ hps (HEr.out _ hk) hx
    obtain⟨hle,hj3⟩:=iff_some hq
    have hle2:q.toks.length<p'.toks.length:=of_decide_eq_true hle
    clear hx hj2 hq hle
    go_wp2_with fail
    refine HD.mono ?_
    rintro e1 w1 ⟨v1,rfl,⟨cy,rfl,hy1⟩,hp1,hk1⟩
    obtain⟨a0,k0,a1,k1,a2,k2,a3,k3,a4,k4,hcy⟩:=hy1.form
    have hlo:W.heap.size≤wr.heap.size:=hk.size
    have hob:=fun g (hg:(Value.slice ao l.length cp).ownBlock=some g)=>(hrw.row.lt g hg).2
    have hrw1:=hrw.keep (w':=w1) (fun g hg hg2=>hk1.blk g hg2 (by omega))
    have hyS:SmA w1 (fun g=>W.heap.size≤g∧(Value.slice ao l.length cp).ownBlock≠some g) y cy:=hy1.mono (fun g hg _=>⟨by omega,fun e=>by have:=hob g e;omega⟩)
    subst hcy
    have hkX:KP P W (w1.alloc (.cells #[.int .i64 y.kind,.string (mkB y.text),.slice a0 y.names.length k0,.int .i64 y.ex.kind,.int .i64 y.ex.num,.string (mkB y.ex.text),.slice a1 y.ex.kids.length k1,.slice a2 y.ex.names.length k2,.slice a3 y.body.length k3,.slice a4 y.els.length k4] 40)):=(hk.trans hk1).trans (KP.al P w1 _)
    have HX:Hid (RwS W.heap.size (w1.alloc (.cells #[.int .i64 y.kind,.string (mkB y.text),.slice a0 y.names.length k0,.int .i64 y.ex.kind,.int .i64 y.ex.num,.string (mkB y.ex.text),.slice a1 y.ex.kids.length k1,.slice a2 y.ex.names.length k2,.slice a3 y.body.length k3,.slice a4 y.els.length k4] 40)) l (.slice ao l.length cp) vs∧SmA (w1.alloc (.cells #[.int .i64 y.kind,.string (mkB y.text),.slice a0 y.names.length k0,.int .i64 y.ex.kind,.int .i64 y.ex.num,.string (mkB y.ex.text),.slice a1 y.ex.kids.length k1,.slice a2 y.ex.names.length k2,.slice a3 y.body.length k3,.slice a4 y.els.length k4] 40)) (fun g=>W.heap.size≤g∧(Value.slice ao l.length cp).ownBlock≠some g) y ([.int .i64 y.kind,.string (mkB y.text),.slice a0 y.names.length k0,.int .i64 y.ex.kind,.int .i64 y.ex.num,.string (mkB y.ex.text),.slice a1 y.ex.kids.length k1,.slice a2 y.ex.names.length k2,.slice a3 y.body.length k3,.slice a4 y.els.length k4]:List Value)∧PsA P T (w1.alloc (.cells #[.int .i64 y.kind,.string (mkB y.text),.slice a0 y.names.length k0,.int .i64 y.ex.kind,.int .i64 y.ex.num,.string (mkB y.ex.text),.slice a1 y.ex.kids.length k1,.slice a2 y.ex.names.length k2,.slice a3 y.body.length k3,.slice a4 y.els.length k4] 40)) q∧KP P W (w1.alloc (.cells #[.int .i64 y.kind,.string (mkB y.text),.slice a0 y.names.length k0,.int .i64 y.ex.kind,.int .i64 y.ex.num,.string (mkB y.ex.text),.slice a1 y.ex.kids.length k1,.slice a2 y.ex.names.length k2,.slice a3 y.body.length k3,.slice a4 y.els.length k4] 40))):=⟨hrw1.keep (fun g _ hg2=>heap_al w1 _ g hg2),hyS.keep (fun g _ hg2=>heap_al w1 _ g hg2) (fun _ hg _=>hg),hp1.up (alB _ _),hkX⟩
    have hsX:W.heap.size≤(w1.alloc (.cells #[.int .i64 y.kind,.string (mkB y.text),.slice a0 y.names.length k0,.int .i64 y.ex.kind,.int .i64 y.ex.num,.string (mkB y.ex.text),.slice a1 y.ex.kids.length k1,.slice a2 y.ex.names.length k2,.slice a3 y.body.length k3,.slice a4 y.els.length k4] 40)).heap.size:=hkX.size
    have hnews:∀ (j:Nat) (u:Value),([.int .i64 y.kind,.string (mkB y.text),.slice a0 y.names.length k0,.int .i64 y.ex.kind,.int .i64 y.ex.num,.string (mkB y.ex.text),.slice a1 y.ex.kids.length k1,.slice a2 y.ex.names.length k2,.slice a3 y.body.length k3,.slice a4 y.els.length k4]:List Value)[j]? =some u→(w1.alloc (.cells #[.int .i64 y.kind,.string (mkB y.text),.slice a0 y.names.length k0,.int .i64 y.ex.kind,.int .i64 y.ex.num,.string (mkB y.ex.text),.slice a1 y.ex.kids.length k1,.slice a2 y.ex.names.length k2,.slice a3 y.body.length k3,.slice a4 y.els.length k4] 40)).cell? ((⟨w1.heap.size,0,none⟩:Addr).add j)=some u:=fun j u hu=>World.news_of_block (heap_alloc_new w1 _) j u hu
    have hone:=hyS.one
    clear hyS hrw1 hob hlo hy1 hp1 hk1 hrw hps hk HD hkX
    go_wp2_with (first
     |(refine wpList_append_lies (w1.alloc (.cells #[.int .i64 y.kind,.string (mkB y.text),.slice a0 y.names.length k0,.int .i64 y.ex.kind,.int .i64 y.ex.num,.string (mkB y.ex.text),.slice a1 y.ex.kids.length k1,.slice a2 y.ex.names.length k2,.slice a3 y.body.length k3,.slice a4 y.els.length k4] 40)) (by rfl) (Operand.tmp 10) (Operand.tmp 13) 28 (by rfl) W.heap.size 40 i0 (.agg #[.int .i64 0,.string ⟨#[]⟩,.slice none 0 0,.int .i64 0,.int .i64 0,.string ⟨#[]⟩,.slice none 0 0,.slice none 0 0,.slice none 0 0,.slice none 0 0]) 10 176 Tryz.underlying28 hi hz0 hz1 hz2 rfl (by decide) (.slice ao l.length cp) l.length vs.flatten (by rfl) HX.out.1.row ⟨w1.heap.size,0,none⟩ 1 1 ([.int .i64 y.kind,.string (mkB y.text),.slice a0 y.names.length k0,.int .i64 y.ex.kind,.int .i64 y.ex.num,.string (mkB y.ex.text),.slice a1 y.ex.kids.length k1,.slice a2 y.ex.names.length k2,.slice a3 y.body.length k3,.slice a4 y.els.length k4]:List Value) (by rfl) rfl hnews hone (by decide) (by unfold maxLen;omega) (by omega) hsX (w1.alloc (.cells #[.int .i64 y.kind,.string (mkB y.text),.slice a0 y.names.length k0,.int .i64 y.ex.kind,.int .i64 y.ex.num,.string (mkB y.ex.text),.slice a1 y.ex.kids.length k1,.slice a2 y.ex.names.length k2,.slice a3 y.body.length k3,.slice a4 y.els.length k4] 40)).heap.size rfl ?_;intro g' cap' w2 hown2 hgrow hat hltg)
     |fail)
    have hPn:(Value.slice ao l.length cp).ownBlock≠some P:=fun e=>by have:=(HX.out.1.row.lt P e).1;omega
    have hTn:(Value.slice ao l.length cp).ownBlock≠some T:=fun e=>by have:=(HX.out.1.row.lt T e).1;omega
    have hp2:PsA P T w2 q:=HX.out.2.2.1.keep (hgrow.block P HX.out.2.2.1.lt (fun e=>hPn e.symm)) (hgrow.block T HX.out.2.2.1.ltT (fun e=>hTn e.symm))
    have hk2:KP P W w2:=HX.out.2.2.2.trans' hgrow (fun g hg e=>by have:=(HX.out.1.row.lt g e.symm).1;omega)
    have HJ:Hid (SoI P T W.heap.size W St z (.slice (some ⟨g',0,none⟩) (l.length+1) cap') w2):=⟨l++[y],q,f,_,hj3,hp2,hk2,HX.out.1.push HX.out.2.1 hgrow hat hown2⟩
    have htk2:=hp2.tk
    refine⟨⟨_,rfl,HJ⟩,by rw[htk2,htk];exact hle2⟩
theorem stD_any {P T:Nat}{E:Ps→Px Ex}(hE:MethC P T 70 E):∀ n,MethS P T 33 (stD E n)
 |0=>fun W p z _ _ hz=>by cases hz
 |n+1=>by
  have hB:=block_any (stD_any hE n)
  exact fun W p z h hr hz=>statement_any (small_any hE) (condition_any hE hB) (loop_any hE hB) (definition_any hB) W p z h hr hz
end Go.Proofs.YtcaeeackccgclaaGreatDoor
namespace Go.Proofs.YtcaeeackccgclaaGreatDoor
open Go.RowKit Go.Shelf
theorem xRp:Builder.Extra Tryz.prog laysRp_ren where
 sizeBuilder:=by kernel_rfl
 liesBuilder:=by kernel_rfl
 t5:=laysRp.t5
 a5:=laysRp.a5
 z5:=laysRp.z5
 v5:=laysRp.v5
 infoByte:=by kernel_rfl
 cellsByte:=by kernel_rfl
 sizeByte:=by kernel_rfl
 neB5:=by decide
theorem xJn:Builder.Extra Tryz.prog laysJn_ren where
 sizeBuilder:=by kernel_rfl
 liesBuilder:=by kernel_rfl
 t5:=laysRp.t5
 a5:=laysRp.a5
 z5:=laysRp.z5
 v5:=laysRp.v5
 infoByte:=by kernel_rfl
 cellsByte:=by kernel_rfl
 sizeByte:=by kernel_rfl
 neB5:=by decide
theorem rep_l:∀ d:Nat,Lib.repeatL [32,32,32,32] d=List.replicate (4*d) 32
 |0=>rfl
 |d+1=>by
  show 32::32::32::32::Lib.repeatL [32,32,32,32] d=_
  rw[rep_l d]
  rfl
theorem rep_w (d:Nat)(hd:d≤1000000)(w:World):Calls Tryz.prog 24 #[.string ⟨#[32,32,32,32]⟩,.int .i64 d] w fun e w'=>e= .returned (.string ⟨(List.replicate (4*d) (32:UInt8)).toArray⟩)∧Below w.heap.size w w':=by
 refine(Any.strings_Repeat laysRp xRp ⟨#[32,32,32,32]⟩ d w (by omega) (by show 4*d≤_;omega)).mono ?_
 rintro e w' ⟨rfl,h⟩
 refine⟨?_,h⟩
 rw[←rep_l d]
theorem join_jT:∀ (l:List (List UInt8)),Lib.join l [44,32]=jT true l
 |[]=>rfl
 |x::r=>by
  rw[Lib.join_cons]
  show _=x++jT false r
  congr 1
  clear x
  induction r with
  |nil=>rfl
  |cons y r ih=>
   show([44,32]++y)++Lib.joinTail [44,32] r=(44::32::y)++jT false r
   rw[ih]
   rfl
theorem join_w {w:World}{a:Option Addr}{c:Nat}{names:List (List UInt8)}(h:w.ownsRow 0 9 1 (.slice a names.length c) names.length (names.map sv))(hlen:(jT true names).length≤1000000000)(hn:names.length≤1000000000):
  Calls Tryz.prog 25 #[.slice a names.length c,.string ⟨#[44,32]⟩] w fun e w'=>e= .returned (.string ⟨(jT true names).toArray⟩)∧Below w.heap.size w w':=by
 by_cases h0:names.length=0
 ·have e:names=[]:=List.length_eq_zero_iff.1 h0
  subst e
  refine(Any.strings_Join_none laysJn xJn a c ⟨#[44,32]⟩ w).mono ?_
  rintro e w' ⟨rfl,rfl⟩
  exact⟨rfl,Below.refl _ _⟩
 ·obtain⟨g,cap,e,hcap,hc⟩:=row_form h (by omega)
  cases e
  have hg:g<w.heap.size:=(h.lt g rfl).2
  have hm:(names.map mkB).map (·.data.toList)=names:=by
   rw[List.map_map]
   have:((fun x:ByteArray=>x.data.toList)∘mkB)=id:=by
    funext x
    show(⟨x.toArray⟩:ByteArray).data.toList=x
    simp
   rw[this,List.map_id]
  have hj:=Any.strings_Join laysJn xJn g 0 c (names.map mkB) ⟨#[44,32]⟩ w (fun j x hx=>by
   rw[List.getElem?_map]at hx
   cases hn:names[j]? with
   |none=>rw[hn]at hx;cases hx
   |some t=>
    rw[hn]at hx
    cases hx
    have hj:j<names.length:=(List.getElem?_eq_some_iff.1 hn).1
    rw[Nat.zero_add,hc j (by omega),List.getElem?_map,hn]
    rfl) hg (by rw[List.length_map];omega) (by rw[List.length_map];exact hcap) (by rw[hm];show(Lib.join names [44,32]).length≤_;rw[join_jT];omega)
  rw[hm,List.length_map]at hj
  refine hj.mono ?_
  rintro e w' ⟨rfl,hb⟩
  refine⟨?_,hb⟩
  show Ending.returned (.string ⟨(Lib.join names [44,32]).toArray⟩)=_
  rw[join_jT]
theorem bel_kp {B b:Nat}{z:Int}{l:List UInt8}{w w':World}(h:WrIs B b z (Lib.byteCells l) w)(hB:B≤w.heap.size)(hb:Below w.heap.size w w'):WrIs B b z (Lib.byteCells l) w'∧Kp B b w w'∧B≤w'.heap.size:=
 ⟨h.up hb.block,⟨⟨hb.os,hb.tape,hb.output,hb.size,fun g hg=>hb.block g (Nat.lt_of_lt_of_le hg hB)⟩,fun k _ hk _ _=>(hb.block k (Array.getElem?_eq_some_iff.1 hk).1).trans hk⟩,Nat.le_trans hB hb.size⟩
theorem WrIs.c2 {B b:Nat}{n:Int}{bs:List Value}{w:World}(h:WrIs B b n bs w):w.cell? ⟨b,2,none⟩=some (.int .i64 n):=by
 rcases h with⟨_,v,h1,_⟩|⟨_,v,h1,_⟩<;>(rw[Lib.cell_of_heap h1];rfl)
theorem begin_w {B b d:Nat}{l:List UInt8}{w:World}(h:WrIs B b (d:Int) (Lib.byteCells l) w)(hB:B≤w.heap.size)(hd:d≤1000000)(hlen:l.length+4*d≤1000000000):
  Calls Tryz.prog 17 #[pt b] w (WpO B b (d:Int) (l++List.replicate (4*d) 32) w):=by
 have c2:=h.c2
 have HR:Hid (Calls Tryz.prog 24 #[.string ⟨#[32,32,32,32]⟩,.int .i64 d] w.drew fun e w'=>e= .returned (.string ⟨(List.replicate (4*d) (32:UInt8)).toArray⟩)∧WrIs B b (d:Int) (Lib.byteCells l) w'∧Kp B b w.drew w'∧B≤w'.heap.size):=(rep_w d hd w.drew).mono fun e w' ⟨q1,q2⟩=>⟨q1,bel_kp (w:=w.drew) h hB q2⟩
 have HW:Hid (∀ V,WrIs B b (d:Int) (Lib.byteCells l) V→B≤V.heap.size→Calls Tryz.prog 23 #[pt b,.string ⟨(List.replicate (4*d) (32:UInt8)).toArray⟩] V fun e w'=>e= .returned (.tuple #[.int .i64 (List.replicate (4*d) (32:UInt8)).length,.nilIface])∧WrIs B b (d:Int) (Lib.byteCells (l++List.replicate (4*d) 32)) w'∧Kp B b V w'∧B≤w'.heap.size):=fun V h1 h2=>ws_any h1 h2 _ (by rw[List.length_replicate];exact hlen)
 clear h hB hlen
 generalize List.replicate (4*d) (32:UInt8)=t at *
 go_enter Tryz.func17,Tryz.ntmps17
 go_wp2_with fail
 go_region_with (first
  |(go_at_call 24;refine HR.out.mono ?_;rintro e w1 ⟨rfl,h1,hk1,hB1⟩;have HW1:=HW.out w1 h1 hB1;clear h1 hB1)
  |(go_at_call 23;refine HW1.mono ?_;rintro e w2 ⟨rfl,h2,hk2,hB2⟩)
  |fail)
 all_goals
  go_wp2
  go_end0
  exact⟨rfl,h2,hk1.un.trans hk2,hB2⟩
theorem kpx_blk {B b:Nat}{z:Int}{l:List UInt8}{S:Nat→Prop}{x:Ex}{c1 c2:Nat}{a2:Option Addr}{w V:World}{g:Nat}(h:Wz B b z l S x (some ⟨g,0,none⟩) c1 a2 c2 w)(hk:Kp B b w V):V.heap[g]? =w.heap[g]? :=by
 obtain⟨kv,nv,vs,e,q1,q2,q3,q4,q5⟩:=h.ex.open
 injection e with _ e
 injection e with _ e
 injection e with _ e
 injection e with e1 e
 subst e1
 rcases q1.2 with⟨hv,_⟩|⟨g',cap,cur,hv,_,hgg,_⟩
 ·cases hv
 ·cases hv
  rw[hgg]
  exact hk.other hgg (h.own _ (q3 _ rfl)) (by decide)
theorem Wz.kid {B b:Nat}{z:Int}{l:List UInt8}{S:Nat→Prop}{x:Ex}{a1 a2:Option Addr}{c1 c2:Nat}{w:World}(h:Wz B b z l S x a1 c1 a2 c2 w)(k:Nat)(hk:k<x.kids.length):
  ∃ g,a1=some ⟨g,0,none⟩∧x.kids.length≤c1∧∃ b1 d1 b2 d2,∀ V,Kp B b w V→Five V g (k*5) x.kids[k] b1 d1 b2 d2∧∀ l',WrIs B b z (Lib.byteCells l') V→Wz B b z l' S x.kids[k] b1 d1 b2 d2 V:=by
 obtain⟨g,rfl,hc,b1,d1,b2,d2,hy,hf⟩:=h.ex.kidF k hk
 refine⟨g,rfl,hc,b1,d1,b2,d2,fun V hV=>⟨?_,fun l' hl=>⟨hl,Nat.le_trans h.size hV.1.size,h.pow,h.tab.kp hV h.pow,hy.kpw hV h.own,h.own⟩⟩⟩
 have hb:∀ o,V.cell? ⟨g,o,none⟩=w.cell? ⟨g,o,none⟩:=fun o=>World.cell?_of_block (kpx_blk h hV)
 exact⟨(hb _).trans hf.1,(hb _).trans hf.2.1,(hb _).trans hf.2.2.1,(hb _).trans hf.2.2.2.1,(hb _).trans hf.2.2.2.2⟩
theorem made1_w {n B b wb eb:Nat}{z:Int}{l:List UInt8}{S:Nat→Prop}{x:Ex}{a1 a2:Option Addr}{c1 c2:Nat}{W:World}(hE:ExW n)(h:Wz B b z l S x a1 c1 a2 c2 W)(hw:W.cell? ⟨wb,0,none⟩=some (pt b))(he:W.cell? ⟨eb,3,none⟩=some (.slice a1 x.kids.length c1))(k:Nat)(hk:k<x.kids.length)(hy:WfE n x.kids[k])(hlen:l.length+(lxB (lE n x.kids[k])).length≤1000000000):
  Calls Tryz.prog 83 #[.int .i64 k,pt wb,pt eb] W (WpO B b z (l++lxB (lE n x.kids[k])) W):=by
 obtain⟨g,rfl,_,b1,d1,b2,d2,hkid⟩:=h.kid k hk
 obtain⟨⟨v0,v1,v2,v3,v4⟩,hX⟩:=hkid W (Kp.refl _ _ _)
 have hki:(k:Int)<(x.kids.length:Int):=by omega
 clear hkid
 generalize x.kids[k]=y at *
 have HE:Hid (Calls Tryz.prog _ _ _ _):=hE B b z l S y b1 d1 b2 d2 W.drew (hX l h.wr).drew hy hlen
 clear hX h hE hy
 unfold fa at *
 go_enter Tryz.func83,Tryz.ntmps83
 go_wp2_with fail
 go_region_with (first
  |(go_at_call 39;refine HE.out.mono ?_;rintro e w2 ⟨rfl,h2,hk2,hB2⟩)
  |fail)
 all_goals
  go_wp2
  go_end0
  exact⟨rfl,h2,hk2.un,hB2⟩
theorem made2_w {n B b wb eb:Nat}{z:Int}{l:List UInt8}{S:Nat→Prop}{x:Ex}{a1 a2:Option Addr}{c1 c2:Nat}{W:World}(hE:ExW n)(h:Wz B b z l S x a1 c1 a2 c2 W)(hw:∀ V,Kp B b W V→V.cell? ⟨wb,0,none⟩=some (pt b)∧V.cell? ⟨eb,3,none⟩=some (.slice a1 x.kids.length c1))(k j j2:Nat)(hj:j=2*k)(hj2:j2=j+1)(hk:j2<x.kids.length)(hk0:j<x.kids.length)(hy:WfE n x.kids[j])(hz:WfE n x.kids[j2])(hn:x.kids.length≤1000000000)(hlen:l.length+(lxB (lE n x.kids[j])).length+2+(lxB (lE n x.kids[j2])).length≤1000000000):
  Calls Tryz.prog 84 #[.int .i64 k,pt wb,pt eb] W (WpO B b z (l++lxB (lE n x.kids[j])++[58,32]++lxB (lE n x.kids[j2])) W):=by
 obtain⟨g,rfl,_,b1,d1,b2,d2,hkid⟩:=h.kid j hk0
 obtain⟨g',e,_,b3,d3,b4,d4,hkid2⟩:=h.kid j2 hk
 cases e
 obtain⟨⟨v0,v1,v2,v3,v4⟩,hX⟩:=hkid W (Kp.refl _ _ _)
 obtain⟨p0,p1⟩:=hw W (Kp.refl _ _ _)
 have hki:(j:Int)<(x.kids.length:Int):=by omega
 have hki2:(j2:Int)<(x.kids.length:Int):=by omega
 have q5:IntKind.i64.wrap (2*(k:Int))=(j:Int):=by rw[IntKind.wrap_i64];omega
 have q6:IntKind.i64.wrap ((j:Int)+1)=(j2:Int):=by rw[IntKind.wrap_i64];omega
 generalize x.kids[j]=y at *
 generalize x.kids[j2]=y2 at *
 have HE:Hid (Calls Tryz.prog _ _ _ _):=hE B b z l S y b1 d1 b2 d2 W.drew (hX l h.wr).drew hy (by omega)
 have HB:Hid (∀ V,Kp B b W V→WrIs B b z (Lib.byteCells (l++lxB (lE n y))) V→(V.cell? ⟨wb,0,none⟩=some (pt b)∧V.cell? ⟨eb,3,none⟩=some (.slice (some ⟨g,0,none⟩) x.kids.length c1))∧Five V g (j2*5) y2 b3 d3 b4 d4∧Calls Tryz.prog 27 #[pt b,.agg (fa y2 b3 d3 b4 d4),.string ⟨#[58,32]⟩] V.drew (WpO B b z (l++lxB (lE n y)++[58,32]++lxB (lE n y2)) V.drew)):=fun V hV hl=>⟨hw V hV,(hkid2 V hV).1,before_w hE ((hkid2 V hV).2 _ hl).drew hz [58,32] (by rw[List.length_append];exact hlen)⟩
 clear hkid hkid2 hX h hE hy hz hw hj hj2
 unfold fa at *
 go_enter Tryz.func84,Tryz.ntmps84
 go_wp2_with fail
 go_region_with (first
  |(go_at_call 39;refine HE.out.mono ?_;rintro e w2 ⟨rfl,h2,hk2,hB2⟩;obtain⟨⟨s0,s1⟩,⟨f0,f1,f2,f3,f4⟩,HB2⟩:=HB.out w2 hk2.un h2;clear HB HE)
  |fail)
 all_goals
  go_wp2_with fail
  go_region_with (first
   |(go_at_call 27;refine HB2.mono ?_;rintro e w3 ⟨rfl,h3,hk3,hB3⟩)
   |fail)
  all_goals
   go_wp2
   go_end0
   exact⟨rfl,h3,hk2.un.trans hk3.un,hB3⟩
theorem handed1_w {n B b ub wb nb lb g u k m cc nn c2:Nat}{z:Int}{l:List UInt8}{S:Nat→Prop}{y:Ex}{b1 b2 a2:Option Addr}{d1 d2:Nat}{W:World}(nm:Option (List UInt8))(hE:ExW n)(hm:k<m)(hm2:m≤1000000000)(hu:u≤m)
  (hW:∀ V,Kp B b W V→V.cell? ⟨ub,0,none⟩=some (.int .i64 u)∧V.cell? ⟨wb,0,none⟩=some (pt b)∧V.cell? ⟨nb,0,none⟩=some (.slice a2 nn c2)∧V.cell? ⟨lb,0,none⟩=some (.slice (some ⟨g,5,none⟩) m cc))
  (hY:∀ V,Kp B b W V→Five V g (5+k*5) y b1 d1 b2 d2∧∀ l',WrIs B b z (Lib.byteCells l') V→Wz B b z l' S y b1 d1 b2 d2 V)
  (hnm:match nm with|none=>k<u|some t=>u≤k∧∃ gn j,k=u+j∧j<nn∧a2=some ⟨gn,0,none⟩∧W.cell? ⟨gn,j,none⟩=some (.string (mkB t)))
  (h:WrIs B b z (Lib.byteCells l) W) (hB:B≤W.heap.size) (hy:WfE n y) (hlen:l.length+(lxB (lH (lE n) (nm,y))).length≤1000000000):
  Calls Tryz.prog 115 #[.int .i64 k,pt ub,pt wb,pt nb,pt lb] W (WpO B b z (l++lxB (lH (lE n) (nm,y))) W):=by
 obtain⟨p0,p1,p2,p3⟩:=hW W (Kp.refl _ _ _)
 have hki:(k:Int)<(m:Int):=by omega
 cases nm with
 |none=>
  have hlen:l.length+(lxB (lE n y)).length≤1000000000:=hlen
  show Calls _ _ _ _ (WpO B b z (l++lxB (lE n y)) W)
  obtain⟨⟨v0,v1,v2,v3,v4⟩,hX⟩:=hY W (Kp.refl _ _ _)
  have hku:¬(u:Int)≤(k:Int):=by have hnm:k<u:=hnm;omega
  have HE:Hid (Calls Tryz.prog _ _ _ _):=hE B b z l S y b1 d1 b2 d2 W.drew (hX l h).drew hy hlen
  clear hW hY hnm h hB hE hX hy hlen
  unfold fa at *
  go_enter Tryz.func115,Tryz.ntmps115
  go_wp2_with fail
  go_region_with (first
   |(go_at_call 39;refine HE.out.mono ?_;rintro e w2 ⟨rfl,h2,hk2,hB2⟩)
   |fail)
  all_goals
   go_wp2
   go_end0
   exact⟨rfl,h2,hk2.un,hB2⟩
 |some t=>
  obtain⟨huk,gn,j,hj,hjn,rfl,hc⟩:=hnm
  have e1:lxB (lH (lE n) (some t,y))=(t++[61])++lxB (lE n y):=by
   show t++(61::lxB (lE n y))=_
   simp
  rw[e1]at hlen ⊢
  rw[List.length_append,List.length_append,List.length_singleton]at hlen
  have hku:(u:Int)≤(k:Int):=by omega
  have hjni:(j:Int)<(nn:Int):=by omega
  have q5:IntKind.i64.wrap ((k:Int)-(u:Int))=(j:Int):=by rw[IntKind.wrap_i64];omega
  have hsum:¬9223372036854775807<(mkB t).size+1:=by rw[mk_size];omega
  have hap:(mkB t++⟨#[61]⟩:ByteArray)=⟨(t++[61]).toArray⟩:=by
   apply ByteArray.ext
   simp[mkB]
  have HS:Hid (Calls Tryz.prog _ _ _ _):=ws_any (w:=W.drew) h hB (t++[61]) (by rw[List.length_append];show l.length+(t.length+1)≤_;omega)
  have HE:Hid (∀ V,Kp B b W V→WrIs B b z (Lib.byteCells (l++(t++[61]))) V→(V.cell? ⟨ub,0,none⟩=some (.int .i64 u)∧V.cell? ⟨wb,0,none⟩=some (pt b)∧V.cell? ⟨nb,0,none⟩=some (.slice (some ⟨gn,0,none⟩) nn c2)∧V.cell? ⟨lb,0,none⟩=some (.slice (some ⟨g,5,none⟩) m cc))∧Five V g (5+k*5) y b1 d1 b2 d2∧Calls Tryz.prog 39 #[pt b,.agg (fa y b1 d1 b2 d2)] V.drew (WpO B b z (l++(t++[61])++lxB (lE n y)) V.drew)):=fun V hV hl=>⟨hW V hV,(hY V hV).1,hE B b z _ S y b1 d1 b2 d2 V.drew ((hY V hV).2 _ hl).drew hy (by rw[List.length_append,List.length_append,List.length_singleton];omega)⟩
  clear hW hY h hB hE hy hlen e1 hj huk hjn
  rw[←List.append_assoc]
  unfold fa at *
  go_enter Tryz.func115,Tryz.ntmps115
  go_wp2_with fail
  go_region_with (first
   |(go_at_call 23;refine HS.out.mono ?_;rintro e w2 ⟨rfl,h2,hk2,hB2⟩;obtain⟨⟨s0,s1,s2,s3⟩,⟨f0,f1,f2,f3,f4⟩,HE2⟩:=HE.out w2 hk2.un h2;clear HE HS)
   |fail)
  all_goals
   go_wp2_with fail
   go_region_with (first
    |(go_at_call 39;refine HE2.mono ?_;rintro e w3 ⟨rfl,h3,hk3,hB3⟩)
    |fail)
   all_goals
    go_wp2
    go_end0
    exact⟨rfl,h3,hk2.un.trans hk3.un,hB3⟩
theorem args_len {names:List (List UInt8)}{l:List Ex}(hn:names.length≤l.length):(argsL names l).length=l.length:=by
 unfold argsL
 rw[List.length_append,List.length_map,List.length_take,List.length_zipWith,List.length_drop]
 omega
theorem args_at {names:List (List UInt8)}{l:List Ex}(hn:names.length≤l.length)(k:Nat)(hk:k<l.length):(k<l.length-names.length∧(argsL names l)[k]? =some (none,l[k]))∨∃ j,∃ hj:j<names.length,k=l.length-names.length+j∧(argsL names l)[k]? =some (some names[j],l[k]):=by
 unfold argsL
 have hl:((l.take (l.length-names.length)).map fun e=>((none,e):Option (List UInt8)×Ex)).length=l.length-names.length:=by
  rw[List.length_map,List.length_take]
  omega
 by_cases h:k<l.length-names.length
 ·refine .inl ⟨h,?_⟩
  rw[List.getElem?_append_left (by rw[hl];exact h),List.getElem?_map,List.getElem?_take_of_lt h,List.getElem?_eq_getElem hk]
  rfl
 ·refine .inr ⟨k-(l.length-names.length),by omega,by omega,?_⟩
  rw[List.getElem?_append_right (by rw[hl];omega),hl,List.getElem?_zipWith,List.getElem?_drop,List.getElem?_eq_getElem (show k-(l.length-names.length)<names.length by omega),show l.length-names.length+(k-(l.length-names.length))=k from by omega,List.getElem?_eq_getElem hk]
def mdH (b u:Nat)(lv nv:Value)(w:World):World:=(((w.alloc (.cells #[pt b] 54)).alloc (.cells #[lv] 36)).alloc (.cells #[nv] 35)).alloc (.cells #[.int .i64 u] 3)
theorem mdH_facts {B b u:Nat}{lv nv:Value}{w:World}(hB:B≤w.heap.size)(hb:b<w.heap.size):Kp B b w (mdH b u lv nv w)∧(∀ g,g<w.heap.size→(mdH b u lv nv w).heap[g]? =w.heap[g]?)∧∀ V,Kp B b (mdH b u lv nv w) V→V.cell? ⟨w.heap.size+3,0,none⟩=some (.int .i64 u)∧V.cell? ⟨w.heap.size,0,none⟩=some (pt b)∧V.cell? ⟨w.heap.size+2,0,none⟩=some nv∧V.cell? ⟨w.heap.size+1,0,none⟩=some lv:=by
 obtain⟨w1,e1⟩:∃ w1,w1=w.alloc (.cells #[pt b] 54):=⟨_,rfl⟩
 obtain⟨w2,e2⟩:∃ w2,w2=w1.alloc (.cells #[lv] 36):=⟨_,rfl⟩
 obtain⟨w3,e3⟩:∃ w3,w3=w2.alloc (.cells #[nv] 35):=⟨_,rfl⟩
 obtain⟨w4,e4⟩:∃ w4,w4=w3.alloc (.cells #[.int .i64 u] 3):=⟨_,rfl⟩
 have hm:mdH b u lv nv w=w4:=by rw[e4,e3,e2,e1];rfl
 have s1:w1.heap.size=w.heap.size+1:=by rw[e1];exact World.size_alloc _ _
 have s2:w2.heap.size=w.heap.size+2:=by rw[e2,World.size_alloc,s1]
 have s3:w3.heap.size=w.heap.size+3:=by rw[e3,World.size_alloc,s2]
 have o1:∀ g,g<w.heap.size→w1.heap[g]? =w.heap[g]? :=fun g hg=>by rw[e1];exact heap_al _ _ _ hg
 have o2:∀ g,g<w.heap.size+1→w2.heap[g]? =w1.heap[g]? :=fun g hg=>by rw[e2];exact heap_al _ _ _ (by omega)
 have o3:∀ g,g<w.heap.size+2→w3.heap[g]? =w2.heap[g]? :=fun g hg=>by rw[e3];exact heap_al _ _ _ (by omega)
 have o4:∀ g,g<w.heap.size+3→w4.heap[g]? =w3.heap[g]? :=fun g hg=>by rw[e4];exact heap_al _ _ _ (by omega)
 rw[hm]
 have h0:w4.heap[w.heap.size]? =some (.cells #[pt b] 54 (0,0)):=by
  rw[o4 _ (by omega),o3 _ (by omega),o2 _ (by omega),e1]
  exact heap_alloc_new w _
 have h1:w4.heap[w.heap.size+1]? =some (.cells #[lv] 36 (0,0)):=by
  rw[o4 _ (by omega),o3 _ (by omega),e2,←s1]
  exact heap_alloc_new w1 _
 have h2:w4.heap[w.heap.size+2]? =some (.cells #[nv] 35 (0,0)):=by
  rw[o4 _ (by omega),e3,←s2]
  exact heap_alloc_new w2 _
 have h3:w4.heap[w.heap.size+3]? =some (.cells #[.int .i64 u] 3 (0,0)):=by
  rw[e4,←s3]
  exact heap_alloc_new w3 _
 have k4:Kp B b w w4:=by
  rw[e4,e3,e2,e1]
  exact(((Kp.al b hB _).trans (Kp.al b (by rw[World.size_alloc];omega) _)).trans (Kp.al b (by rw[World.size_alloc,World.size_alloc];omega) _)).trans (Kp.al b (by rw[World.size_alloc,World.size_alloc,World.size_alloc];omega) _)
 refine⟨k4,fun g hg=>?_,fun V hV=>⟨box_of (hV.other h3 (by omega) (by decide)),box_of (hV.other h0 (by omega) (by decide)),box_of (hV.other h2 (by omega) (by decide)),box_of (hV.other h1 (by omega) (by decide))⟩⟩
 rw[o4 _ (by omega),o3 _ (by omega),o2 _ (by omega),o1 _ hg]
theorem handed_w {n B b g m cc o:Nat}{z:Int}{l:List UInt8}{S:Nat→Prop}{x c:Ex}{rest:List Ex}{a2:Option Addr}{c1 c2:Nat}{w:World}(hE:ExW n)(hk:x.kids=c::rest)(hm:m=rest.length)(ho5:m≠0→o=5)(h:Wz B b z l S x (some ⟨g,0,none⟩) c1 a2 c2 w)(hn:x.names.length≤m)(hm2:m≤1000000000)(hw:∀ e∈rest,WfE n e)(hlen:l.length+2+(jT true ((argsL x.names rest).map fun a=>lxB (lH (lE n) a))).length≤1000000000):
  Calls Tryz.prog 87 #[pt b,.slice (some ⟨g,o,none⟩) m cc,.slice a2 x.names.length c2] w (WpO B b z (l++[40]++jT true ((argsL x.names rest).map fun a=>lxB (lH (lE n) a))++[41]) w):=by
 obtain⟨outs,ho⟩:∃ outs,outs=(argsL x.names rest).map fun a=>lxB (lH (lE n) a):=⟨_,rfl⟩
 rw[←ho]at hlen ⊢
 have hol:outs.length=m:=by rw[ho,List.length_map,args_len (by omega),hm]
 obtain⟨hk0,hold,hbox⟩:=mdH_facts (u:=m-x.names.length) (lv:= .slice (some ⟨g,o,none⟩) m cc) (nv:= .slice a2 x.names.length c2) h.size h.wr.lt
 obtain⟨W0,hW0⟩:∃ W0,W0=mdH b (m-x.names.length) (.slice (some ⟨g,o,none⟩) m cc) (.slice a2 x.names.length c2) w:=⟨_,rfl⟩
 rw[←hW0]at hk0 hold hbox
 have hX:Wz B b z l S x (some ⟨g,0,none⟩) c1 a2 c2 W0:=h.kp hk0 (h.wr.up hold)
 have HL:Calls Tryz.prog 58 #[pt b,.string ⟨#[40]⟩,.int .i64 m,.string ⟨#[41]⟩,.func (.func 115) #[] #[pt (w.heap.size+3),pt w.heap.size,pt (w.heap.size+2),pt (w.heap.size+1)]] W0 (WpO B b z (l++[40]++jT true outs++[41]) W0):=by
  rw[←hol]
  refine listed_w (op:=[40]) (cl:=[41]) 115 #[pt (w.heap.size+3),pt w.heap.size,pt (w.heap.size+2),pt (w.heap.size+1)] (enters_of Tryz.func115 (by kernel_rfl) rfl) hX.wr hX.size (by omega) (by show l.length+1+_+1≤_;omega) fun k hk1 W l' hkW hW hBW hl2=>?_
  have hkr:k<rest.length:=by omega
  obtain rfl:=ho5 (by omega)
  have hkx:k+1<x.kids.length:=by rw[hk,List.length_cons];omega
  have ey:x.kids[k+1]=rest[k]:=by simp[hk]
  obtain⟨g',eg,_,b1,d1,b2,d2,hkid⟩:=hX.kid (k+1) hkx
  cases eg
  rw[ey]at hkid
  have hmem:WfE n rest[k]:=hw _ (List.getElem_mem hkr)
  have hY:∀ V,Kp B b W V→Five V g (5+k*5) rest[k] b1 d1 b2 d2∧∀ l',WrIs B b z (Lib.byteCells l') V→Wz B b z l' S rest[k] b1 d1 b2 d2 V:=fun V hV=>by
   have:=hkid V (hkW.trans hV)
   rw[show(k+1)*5=5+k*5 from by omega]at this
   exact this
  have hB4:=fun V (hV:Kp B b W V)=>hbox V (hkW.trans hV)
  rcases args_at (names:=x.names) (l:=rest) (by omega) k hkr with⟨h1,h2⟩|⟨j,hj,h1,h2⟩
  ·have eo:outs[k]=lxB (lH (lE n) (none,rest[k])):=by
    have:outs[k]? =some (lxB (lH (lE n) (none,rest[k]))):=by rw[ho,List.getElem?_map,h2];rfl
    rw[List.getElem?_eq_getElem hk1]at this
    exact Option.some.inj this
   rw[eo]at hl2 ⊢
   exact handed1_w none hE (m:=m) (u:=m-x.names.length) (by omega) hm2 (by omega) hB4 hY (by show k<m-x.names.length;omega) hW hBW hmem hl2
  ·have eo:outs[k]=lxB (lH (lE n) (some x.names[j],rest[k])):=by
    have:outs[k]? =some (lxB (lH (lE n) (some x.names[j],rest[k]))):=by rw[ho,List.getElem?_map,h2];rfl
    rw[List.getElem?_eq_getElem hk1]at this
    exact Option.some.inj this
   obtain⟨gn,e2,hc⟩:=(hX.kp hkW hW).ex.nameF j hj
   rw[eo]at hl2 ⊢
   exact handed1_w (some x.names[j]) hE (m:=m) (u:=m-x.names.length) (by omega) hm2 (by omega) hB4 hY ⟨by omega,gn,j,by omega,hj,e2,hc⟩ hW hBW hmem hl2
 have hub:IntKind.i64.wrap ((m:Int)-(x.names.length:Int))=((m-x.names.length:Nat):Int):=by rw[IntKind.wrap_i64];omega
 obtain⟨u,hu⟩:∃ u,u=m-x.names.length:=⟨_,rfl⟩
 rw[←hu]at hub hbox hW0
 obtain⟨p0,p1,p2,p3⟩:=hbox W0 (Kp.refl _ _ _)
 have HK:Hid (Kp B b w W0):=hk0
 clear hu ho5 h hX hk0 hold hbox ho hol hw hE hk hm hlen hn
 unfold mdH at hW0
 subst hW0
 go_enter Tryz.func87,Tryz.ntmps87
 go_wp2_with fail
 refine HL.mono ?_
 rintro e w2 ⟨rfl,h2,hk2,hB2⟩
 go_wp2
 go_end0
 exact⟨rfl,h2,HK.out.trans hk2,hB2⟩
end Go.Proofs.YtcaeeackccgclaaGreatDoor
