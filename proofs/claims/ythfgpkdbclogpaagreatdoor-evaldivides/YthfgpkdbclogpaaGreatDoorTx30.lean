/- 30. -/
import Derived.Test.YthfgpkdbclogpaaGreatDoorTx29
set_option maxHeartbeats 40000000
set_option maxRecDepth 100000
namespace Go.Proofs.YthfgpkdbclogpaaGreatDoor
open Go.RowKit Go.Shelf
attribute [local go_sem ↓] fld0 fld1 fld2 fld3
theorem PsA.blkTo {P T:Nat}{w:World}{p:Ps}(h:PsA P T w p)(d:Nat)(hd:d≤1000000):PsA P T (w.setCell ⟨P,2,none⟩ (.int .i64 d)) {p with blk:=d}:=by
 obtain⟨a,c,o,h1,h2,h3,h4,h5,h6,h7,h8,h9⟩:=h
 refine⟨a,c,o,?_,h2,h3,h4,fun j hj=>?_,h6,by simp[World.setCell];exact h7,h8,hd⟩
 ·rw[Go.Joins.block_setCell h1];rfl
 ·rw[←h5 j hj]
  have e2:=Below.heap_setCell w ⟨P,2,none⟩ (.int .i64 d) T h6
  simp[World.cell?,e2]
theorem PsA.blkLe {P T:Nat}{w:World}{p:Ps}(h:PsA P T w p):p.blk≤1000000:=by
 obtain⟨a,c,o,h1,h2,h3,h4,h5,h6,h7,h8,h9⟩:=h
 exact h9
theorem PsA.d2 {P T:Nat}{w:World}{p:Ps}(h:PsA P T w p):w.cell? ⟨P,2,none⟩=some (.int .i64 p.blk):=by
 obtain⟨a,c,o,h1,_⟩:=h
 rw[Lib.cell_of_heap h1]
 rfl
def MethB (P T Y:Nat)(m:Ps→Px (List Sm)):Prop:=∀ W p z,PsA P T W p→ErrR W→m p=some z→Calls Tryz.prog Y #[pt P] W (PoA P T (VL W.heap.size) W z)
def BlI (P T n:Nat)(w:World)(St:Ps→Px Sm)(K:List Sm→Ps→Px (List Sm))(z:Except Ft (List Sm×Ps))(v:Value)(wr:World):Prop:=∃ l p f vs,bnd (blL St f l p) K=some z∧PsA P T wr p∧KP P w wr∧RwS n wr l v vs
def blK:List Sm→Ps→Px (List Sm):=fun l q=>iff (decide (1≤q.blk)) (bnd (tkK 8 q.bout) fun _ q=>ok l q)
theorem block_any {P T:Nat}{St:Ps→Px Sm}(hSt:MethS P T 175 St):MethB P T 248 (blF St):=by
 intro W p z h hr hz
 obtain⟨i0,hi,hz0,hz1,hz2⟩:=info_p infSt
 have hPl:=h.lt
 have hTl:=h.ltT
 have HE:Hid (MethS P T 175 St):=hSt
 have HEr:Hid (∀ W',KP P W W'→ErrR W'):=fun W' hk=>hr.kp (hr.ne h) hk
 clear hSt hr
 go_enter Tryz.func248,Tryz.ntmps248
 rcases bnd_some hz with⟨x,hx,rfl⟩|⟨_,p1,hx,hz1⟩
 ·have HT:=takeSign_any h [58] hx
  go_wp2_with fail
  refine HT.mono ?_
  rintro e1 w1 hpo
  obtain⟨rfl,hk1⟩:=bad_panic hpo (KP.refl P W)
  exact⟨rfl,rfl,hk1⟩
 have HT:=takeSign_any h [58] hx
 go_wp2_with fail
 refine HT.mono ?_
 rintro e1 w1 ⟨v1,rfl,rfl,h1,hk1⟩
 clear HT h hz hx
 rcases bnd_some hz1 with⟨x,hx,rfl⟩|⟨_,p2,hx,hz2⟩
 ·have HT:=take2_any h1 6 (by decide) hx
  go_wp2_with fail
  refine HT.mono ?_
  rintro e2 w2 hpo
  obtain⟨rfl,hk2⟩:=bad_panic hpo hk1
  exact⟨rfl,rfl,hk2⟩
 have HT:=take2_any h1 6 (by decide) hx
 go_wp2_with fail
 refine HT.mono ?_
 rintro e2 w2 ⟨v2,rfl,rfl,h2,hj2⟩
 have hk2:=hk1.trans hj2
 clear HT h1 hz1 hx hj2 hk1
 rcases bnd_some hz2 with⟨x,hx,rfl⟩|⟨_,p3,hx,hz3⟩
 ·have HT:=take2_any h2 7 (by decide) hx
  go_wp2_with fail
  refine HT.mono ?_
  rintro e3 w3 hpo
  obtain⟨rfl,hk3⟩:=bad_panic hpo hk2
  exact⟨rfl,rfl,hk3⟩
 have HT:=take2_any h2 7 (by decide) hx
 go_wp2_with fail
 refine HT.mono ?_
 rintro e3 w3 ⟨v3,rfl,rfl,h3,hj3⟩
 have hk3:=hk2.trans hj3
 clear HT h2 hz2 hx hj3 hk2
 obtain⟨hd,hz4⟩:=iff_some hz3
 have hd3:p3.blk<1000:=of_decide_eq_true hd
 have b3:=h3.d2
 have f3:=h3.fz 2
 have hw3:IntKind.i64.wrap ((p3.blk:Int)+1)=((p3.blk+1:Nat):Int):=by rw[IntKind.wrap_i64];omega
 have h4:PsA P T (w3.setCell ⟨P,2,none⟩ (.int .i64 ((p3.blk+1:Nat):Int))) p3.bin:=h3.blkTo (p3.blk+1) (by omega)
 have hk4:KP P W (w3.setCell ⟨P,2,none⟩ (.int .i64 ((p3.blk+1:Nat):Int))):=hk3.setCell 2 _
 have HJ:Hid (BlI P T W.heap.size W St blK z (.slice none 0 0) (w3.setCell ⟨P,2,none⟩ (.int .i64 ((p3.blk+1:Nat):Int)))):=⟨[],p3.bin,_,[],hz4,h4,hk4,World.ownsRow_nil _ _ _ _,trivial⟩
 clear h3 hk3 h4 hk4 hz3 hz4 hd hd3
 obtain⟨K,hK⟩:∃ K,K=blK:=⟨_,rfl⟩
 have HK:Hid (K=blK):=hK
 rw[←hK]at HJ
 clear hK
 generalize((p3.blk+1:Nat):Int)=d1 at *
 go_wp2
 clear b3 f3 hw3
 generalize w3.setCell ⟨P,2,none⟩ (.int .i64 d1)=w4 at *
 go_loopw [3] (fun u wr=>∃ v:Value,u=v∧Hid (BlI P T W.heap.size W St K z v wr)) (fun _ wr=>tkLen P wr)
 case atStart=>exact⟨_,rfl,HJ⟩
 case round=>
  obtain⟨v,rfl,hrel⟩:=hrel
  obtain⟨l,p',f,vs,hj,hps,hk,hrw⟩:=hrel.out
  obtain⟨ao,cp,rfl⟩:=row_shape hrw.row
  clear hrel HJ
  cases f with
  |zero=>cases hj
  |succ f=>
  unfold blL at hj
  have htk:=hps.tk
  have HS:=sees2_any hps 8
  cases hb:p'.nx.kind==8 with
  |true=>
   rw[hb]at HS
   simp only[hb,cond_true]at hj
   rw[HK.out]at hj
   replace hj:iff (decide (1≤p'.blk)) (bnd (tkK 8 p'.bout) fun _ q=>ok l q)=some z:=hj
   obtain⟨hd,hj2⟩:=iff_some hj
   have hd1:1≤p'.blk:=of_decide_eq_true hd
   go_wp2_with fail
   refine HS.mono ?_
   rintro e5 w5 ⟨rfl,hb5⟩
   have h5:=hps.up hb5
   have hk5:=hk.trans (KP.of_below (P:=P) hb5)
   have hrw5:=hrw.keep (fun g _ hg2=>hb5.block g hg2)
   have b5:=h5.d2
   have f5:=h5.fz 2
   have hw5:IntKind.i64.wrap ((p'.blk:Int)-1)=((p'.blk-1:Nat):Int):=by rw[IntKind.wrap_i64];have:=h5.blkLe;omega
   have h6:PsA P T (w5.setCell ⟨P,2,none⟩ (.int .i64 ((p'.blk-1:Nat):Int))) p'.bout:=h5.blkTo (p'.blk-1) (by have:=h5.blkLe;omega)
   have hk6:KP P W (w5.setCell ⟨P,2,none⟩ (.int .i64 ((p'.blk-1:Nat):Int))):=hk5.setCell 2 _
   have hrw6:RwS W.heap.size (w5.setCell ⟨P,2,none⟩ (.int .i64 ((p'.blk-1:Nat):Int))) l (.slice ao l.length cp) vs:=hrw5.keep (fun g hg _=>Below.heap_setCell _ ⟨P,2,none⟩ _ g (by show ¬g=P;omega))
   clear hps hk hrw hb5 h5 hk5 hrw5 HS hd hj
   rcases bnd_some hj2 with⟨x,hx,rfl⟩|⟨_,q7,hx,hj3⟩
   ·have HT:=take2_any h6 8 (by decide) hx
    generalize((p'.blk-1:Nat):Int)=d2 at *
    go_wp2_with fail
    refine HT.mono ?_
    rintro e7 w7 hpo
    obtain⟨rfl,hk7⟩:=bad_panic hpo hk6
    exact⟨rfl,rfl,hk7⟩
   ·have HT:=take2_any h6 8 (by decide) hx
    cases hj3
    generalize((p'.blk-1:Nat):Int)=d2 at *
    go_wp2_with fail
    refine HT.mono ?_
    rintro e7 w7 ⟨v7,rfl,rfl,h7,hj7⟩
    have HZ:Hid (PoA P T (VL W.heap.size) W (.ok (l,q7)) (.returned (.slice ao l.length cp)) w7):=⟨_,rfl,⟨vs,hrw6.keep (fun g hg hg2=>hj7.blk g hg2 (by omega))⟩,h7,hk6.trans hj7⟩
    clear h6 hk6 hrw6 b5 f5 hw5 HT h7 hj7 hj2 hx
    go_wp2
    go_ret
    exact HZ.out
  |false=>
   rw[hb]at HS
   simp only[hb,cond_false]at hj
   replace hj:bnd (iff (decide (l.length<1000000)) (bnd (St p') fun s q=>iff (less q p') (blL St f (l++[s]) q))) K=some z:=hj
   have hn:decide (l.length<1000000)=true:=by
    cases hd:decide (l.length<1000000)with
    |true=>rfl
    |false=>rw[hd]at hj;cases hj
   have hn1:l.length<1000000:=of_decide_eq_true hn
   rw[hn]at hj
   replace hj:bnd (bnd (St p') fun s q=>iff (less q p') (blL St f (l++[s]) q)) K=some z:=hj
   clear hn
   go_wp2_with fail
   refine HS.mono ?_
   rintro e5 w5 ⟨rfl,hb5⟩
   replace hrw:=hrw.keep (fun g _ hg2=>hb5.block g hg2)
   replace hk:=hk.trans (KP.of_below (P:=P) hb5)
   replace hps:=hps.up hb5
   clear HS
   have hj2:(∃ x,St p'=some (.error x)∧z= .error x)∨∃ y q,St p'=some (.ok (y,q))∧less q p'=true∧bnd (blL St f (l++[y]) q) K=some z:=by
    rcases bnd_some hj with⟨x,hx,rfl⟩|⟨y,q,hx,hq⟩
    ·rcases bnd_some hx with⟨x2,hx2,e⟩|⟨y2,q2,hx2,e⟩
     ·cases e;exact .inl ⟨x,hx2,rfl⟩
     ·obtain⟨e1,e2⟩:=iff_some e
      exact .inr ⟨y2,q2,hx2,e1,by rw[e2];rfl⟩
    ·rcases bnd_some hx with⟨x2,hx2,e⟩|⟨y2,q2,hx2,e⟩
     ·cases e
     ·obtain⟨e1,e2⟩:=iff_some e
      exact .inr ⟨y2,q2,hx2,e1,by rw[e2];exact hq⟩
   clear hj
   rcases hj2 with⟨x,hx,rfl⟩|⟨y,q,hx,hle,hj3⟩
   ·have HD:=HE.out w5 _ _ hps (HEr.out _ hk) hx
    clear hps hrw hx hb5
    go_wp2_with (go_at_call 175;refine HD.mono ?_;rintro e1 w1 hpo;obtain⟨rfl,hk1⟩:=bad_panic hpo hk)
    exact⟨rfl,rfl,hk1⟩
   ·have HD:=HE.out w5 _ _ hps (HEr.out _ hk) hx
    have hle2:q.toks.length<p'.toks.length:=of_decide_eq_true hle
    clear hx hle
    go_wp2_with fail
    refine HD.mono ?_
    rintro e1 w1 ⟨v1,rfl,⟨cy,rfl,hy1⟩,hp1,hk1⟩
    obtain⟨a0,k0,a1,k1,a2,k2,a3,k3,a4,k4,hcy⟩:=hy1.form
    have hlo:W.heap.size≤w5.heap.size:=hk.size
    have hob:=fun g (hg:(Value.slice ao l.length cp).ownBlock=some g)=>(hrw.row.lt g hg).2
    have hrw1:=hrw.keep (w':=w1) (fun g hg hg2=>hk1.blk g hg2 (by omega))
    have hyS:SmA w1 (fun g=>W.heap.size≤g∧(Value.slice ao l.length cp).ownBlock≠some g) y cy:=hy1.mono (fun g hg _=>⟨by omega,fun e=>by have:=hob g e;omega⟩)
    subst hcy
    have hkX:KP P W (w1.alloc (.cells #[.int .i64 y.kind,.string (mkB y.text),.slice a0 y.names.length k0,.int .i64 y.ex.kind,.int .i64 y.ex.num,.string (mkB y.ex.text),.slice a1 y.ex.kids.length k1,.slice a2 y.ex.names.length k2,.slice a3 y.body.length k3,.slice a4 y.els.length k4] 164)):=(hk.trans hk1).trans (KP.al P w1 _)
    have HX:Hid (RwS W.heap.size (w1.alloc (.cells #[.int .i64 y.kind,.string (mkB y.text),.slice a0 y.names.length k0,.int .i64 y.ex.kind,.int .i64 y.ex.num,.string (mkB y.ex.text),.slice a1 y.ex.kids.length k1,.slice a2 y.ex.names.length k2,.slice a3 y.body.length k3,.slice a4 y.els.length k4] 164)) l (.slice ao l.length cp) vs∧SmA (w1.alloc (.cells #[.int .i64 y.kind,.string (mkB y.text),.slice a0 y.names.length k0,.int .i64 y.ex.kind,.int .i64 y.ex.num,.string (mkB y.ex.text),.slice a1 y.ex.kids.length k1,.slice a2 y.ex.names.length k2,.slice a3 y.body.length k3,.slice a4 y.els.length k4] 164)) (fun g=>W.heap.size≤g∧(Value.slice ao l.length cp).ownBlock≠some g) y ([.int .i64 y.kind,.string (mkB y.text),.slice a0 y.names.length k0,.int .i64 y.ex.kind,.int .i64 y.ex.num,.string (mkB y.ex.text),.slice a1 y.ex.kids.length k1,.slice a2 y.ex.names.length k2,.slice a3 y.body.length k3,.slice a4 y.els.length k4]:List Value)∧PsA P T (w1.alloc (.cells #[.int .i64 y.kind,.string (mkB y.text),.slice a0 y.names.length k0,.int .i64 y.ex.kind,.int .i64 y.ex.num,.string (mkB y.ex.text),.slice a1 y.ex.kids.length k1,.slice a2 y.ex.names.length k2,.slice a3 y.body.length k3,.slice a4 y.els.length k4] 164)) q∧KP P W (w1.alloc (.cells #[.int .i64 y.kind,.string (mkB y.text),.slice a0 y.names.length k0,.int .i64 y.ex.kind,.int .i64 y.ex.num,.string (mkB y.ex.text),.slice a1 y.ex.kids.length k1,.slice a2 y.ex.names.length k2,.slice a3 y.body.length k3,.slice a4 y.els.length k4] 164))):=⟨hrw1.keep (fun g _ hg2=>heap_al w1 _ g hg2),hyS.keep (fun g _ hg2=>heap_al w1 _ g hg2) (fun _ hg _=>hg),hp1.up (alB _ _),hkX⟩
    have hsX:W.heap.size≤(w1.alloc (.cells #[.int .i64 y.kind,.string (mkB y.text),.slice a0 y.names.length k0,.int .i64 y.ex.kind,.int .i64 y.ex.num,.string (mkB y.ex.text),.slice a1 y.ex.kids.length k1,.slice a2 y.ex.names.length k2,.slice a3 y.body.length k3,.slice a4 y.els.length k4] 164)).heap.size:=hkX.size
    have hnews:∀ (j:Nat) (u:Value),([.int .i64 y.kind,.string (mkB y.text),.slice a0 y.names.length k0,.int .i64 y.ex.kind,.int .i64 y.ex.num,.string (mkB y.ex.text),.slice a1 y.ex.kids.length k1,.slice a2 y.ex.names.length k2,.slice a3 y.body.length k3,.slice a4 y.els.length k4]:List Value)[j]? =some u→(w1.alloc (.cells #[.int .i64 y.kind,.string (mkB y.text),.slice a0 y.names.length k0,.int .i64 y.ex.kind,.int .i64 y.ex.num,.string (mkB y.ex.text),.slice a1 y.ex.kids.length k1,.slice a2 y.ex.names.length k2,.slice a3 y.body.length k3,.slice a4 y.els.length k4] 164)).cell? ((⟨w1.heap.size,0,none⟩:Addr).add j)=some u:=fun j u hu=>World.news_of_block (heap_alloc_new w1 _) j u hu
    have hone:=hyS.one
    clear hyS hrw1 hob hlo hy1 hp1 hk1 hrw hps hk HD hkX
    go_wp2_with (first
     |(refine wpList_append_lies (w1.alloc (.cells #[.int .i64 y.kind,.string (mkB y.text),.slice a0 y.names.length k0,.int .i64 y.ex.kind,.int .i64 y.ex.num,.string (mkB y.ex.text),.slice a1 y.ex.kids.length k1,.slice a2 y.ex.names.length k2,.slice a3 y.body.length k3,.slice a4 y.els.length k4] 164)) (by rfl) (Operand.tmp 20) (Operand.tmp 23) 100 (by rfl) W.heap.size 164 i0 (.agg #[.int .i64 0,.string ⟨#[]⟩,.slice none 0 0,.int .i64 0,.int .i64 0,.string ⟨#[]⟩,.slice none 0 0,.slice none 0 0,.slice none 0 0,.slice none 0 0]) 10 176 Tryz.underlying100 hi hz0 hz1 hz2 rfl (by decide) (.slice ao l.length cp) l.length vs.flatten (by rfl) HX.out.1.row ⟨w1.heap.size,0,none⟩ 1 1 ([.int .i64 y.kind,.string (mkB y.text),.slice a0 y.names.length k0,.int .i64 y.ex.kind,.int .i64 y.ex.num,.string (mkB y.ex.text),.slice a1 y.ex.kids.length k1,.slice a2 y.ex.names.length k2,.slice a3 y.body.length k3,.slice a4 y.els.length k4]:List Value) (by rfl) rfl hnews hone (by decide) (by unfold maxLen;omega) (by omega) hsX (w1.alloc (.cells #[.int .i64 y.kind,.string (mkB y.text),.slice a0 y.names.length k0,.int .i64 y.ex.kind,.int .i64 y.ex.num,.string (mkB y.ex.text),.slice a1 y.ex.kids.length k1,.slice a2 y.ex.names.length k2,.slice a3 y.body.length k3,.slice a4 y.els.length k4] 164)).heap.size rfl ?_;intro g' cap' w2 hown2 hgrow hat hltg)
     |fail)
    have hPn:(Value.slice ao l.length cp).ownBlock≠some P:=fun e=>by have:=(HX.out.1.row.lt P e).1;omega
    have hTn:(Value.slice ao l.length cp).ownBlock≠some T:=fun e=>by have:=(HX.out.1.row.lt T e).1;omega
    have hp2:PsA P T w2 q:=HX.out.2.2.1.keep (hgrow.block P HX.out.2.2.1.lt (fun e=>hPn e.symm)) (hgrow.block T HX.out.2.2.1.ltT (fun e=>hTn e.symm))
    have hk2:KP P W w2:=HX.out.2.2.2.trans' hgrow (fun g hg e=>by have:=(HX.out.1.row.lt g e.symm).1;omega)
    have HJ:Hid (BlI P T W.heap.size W St K z (.slice (some ⟨g',0,none⟩) (l.length+1) cap') w2):=⟨l++[y],q,f,_,hj3,hp2,hk2,HX.out.1.push HX.out.2.1 hgrow hat hown2⟩
    have htk2:=hp2.tk
    refine⟨⟨_,rfl,HJ⟩,by rw[htk2,htk];exact hle2⟩
end Go.Proofs.YthfgpkdbclogpaaGreatDoor
namespace Go.Proofs.YthfgpkdbclogpaaGreatDoor
open Go.RowKit Go.Shelf
attribute [local go_sem ↓] fld0 fld1 fld2 fld3
theorem VL.up {n:Nat}{w w':World}{l:List Sm}{v:Value}(h:VL n w l v)(hk:∀ g,n≤g→g<w.heap.size→w'.heap[g]? =w.heap[g]?):VL n w' l v:=by
 obtain⟨vs,h1⟩:=h
 exact⟨vs,h1.keep hk⟩
theorem VL.shape {n:Nat}{w:World}{l:List Sm}{v:Value}(h:VL n w l v):∃ ao cp,v= .slice ao l.length cp:=by
 obtain⟨vs,h1⟩:=h
 exact row_shape h1.row
theorem VL.le {n m:Nat}{w:World}{l:List Sm}{v:Value}(h:VL n w l v)(hm:m≤n):VL m w l v:=by
 obtain⟨vs,h1⟩:=h
 exact⟨vs,row_mono h1.row hm,h1.fa.mono fun _ _ f=>f.mono fun g hg _=>⟨by omega,hg.2⟩⟩
theorem VL.nil (n:Nat)(w:World):VL n w [] (.slice none 0 0):=⟨[],World.ownsRow_nil _ _ _ _,trivial⟩
theorem sm_of {w:World}{R k:Nat}{t:List UInt8}{ns:List (List UInt8)}{e:Ex}{b s:List Sm}{nv bv ev:Value}{ce:List Value}(hx:ExA w (fun g=>R<g) e ce)(hn:w.ownsRow 0 9 1 nv ns.length (ns.map sv))(hng:∀ g,nv.ownBlock=some g→R<g)(hb:VL (R+1) w b bv)(hs:VL (R+1) w s ev):
  SmA w (fun g=>R≤g∧g≠R) ⟨k,t,ns,e,b,s⟩ (.int .i64 k::sv t::nv::(ce++[bv,ev])):=by
 obtain⟨bs,hb⟩:=hb
 obtain⟨es,hs⟩:=hs
 exact SmA.make (x:=⟨k,t,ns,e,b,s⟩) (hx.mono fun g hg _=>⟨Nat.le_of_lt hg,Nat.ne_of_gt hg⟩) hn (row_mono hb.row (Nat.zero_le _)) (row_mono hs.row (Nat.zero_le _)) (fun g hg=>⟨Nat.le_of_lt (hng g hg),Nat.ne_of_gt (hng g hg)⟩) (fun g hg=>by have:=(hb.row.lt g hg).1;exact⟨by omega,by omega⟩) (fun g hg=>by have:=(hs.row.lt g hg).1;exact⟨by omega,by omega⟩) (hb.fa.mono fun _ _ f=>f.mono fun g hg _=>⟨by omega,by omega⟩) (hs.fa.mono fun _ _ f=>f.mono fun g hg _=>⟨by omega,by omega⟩)
theorem condition_any {P T:Nat}{E:Ps→Px Ex}{B:Ps→Px (List Sm)}(hE:MethC P T 247 E)(hB:MethB P T 248 B):MethS P T 216 (condS E B):=by
 intro W p z h hr hz
 have hPl:=h.lt
 have hTl:=h.ltT
 have h0:=h.up (alB W sz)
 have hk0:=KP.al P W sz
 have hr0:=heap_alloc_new W sz
 have HE:Hid (MethC P T 247 E):=hE
 have HB:Hid (MethB P T 248 B):=hB
 have HEr:Hid (∀ W',KP P W W'→ErrR W'):=fun W' hk=>hr.kp (hr.ne h) hk
 clear h hE hB hr
 go_enter Tryz.func216,Tryz.ntmps216
 rcases bnd_some hz with⟨x,hx,rfl⟩|⟨_,p1,hx,hz1⟩
 ·have HT:=takeSign_any h0 [105,102] hx
  go_wp2_with fail
  refine HT.mono ?_
  rintro eX wX hpo
  obtain⟨rfl,hkX⟩:=bad_panic hpo hk0
  exact⟨rfl,rfl,hkX⟩
 have HT:=takeSign_any h0 [105,102] hx
 go_wp2_with fail
 refine HT.mono ?_
 rintro e1 w1 ⟨v1,rfl,rfl,h1,hj1⟩
 have hk1:=hk0.trans hj1
 have hr1:=hj1.heapEq hr0 (by omega)
 have hs1:W.heap.size<w1.heap.size:=(Array.getElem?_eq_some_iff.1 hr1).1
 clear HT hz hx hj1 hk0 h0 hr0
 rcases bnd_some hz1 with⟨x,hx,rfl⟩|⟨y,p2,hx,hz2⟩
 ·have HT:=HE.out w1 _ _ h1 hx
  go_wp2_with fail
  refine HT.mono ?_
  rintro eX wX hpo
  obtain⟨rfl,hkX⟩:=bad_panic hpo hk1
  exact⟨rfl,rfl,hkX⟩
 have HT:=HE.out w1 _ _ h1 hx
 go_wp2_with fail
 refine HT.mono ?_
 rintro e2 w2 ⟨v2,rfl,⟨ce,rfl,hx2⟩,h2,hj2⟩
 obtain⟨b1,d1,b2,d2,rfl⟩:=hx2.form
 have hk2:=hk1.trans hj2
 have hr2:=hj2.heapEq hr1 (by omega)
 have hs2:W.heap.size<w2.heap.size:=(Array.getElem?_eq_some_iff.1 hr2).1
 have sv3:SV (w2.alloc (.cells #[.int .i64 7,.string ⟨#[]⟩,.slice none 0 0,.int .i64 y.kind,.int .i64 y.num,.string (mkB y.text),.slice b1 y.kids.length d1,.slice b2 y.names.length d2,.slice none 0 0,.slice none 0 0] 164)) w2.heap.size [.int .i64 7,.string ⟨#[]⟩,.slice none 0 0,.int .i64 y.kind,.int .i64 y.num,.string (mkB y.text),.slice b1 y.kids.length d1,.slice b2 y.names.length d2,.slice none 0 0,.slice none 0 0]:=SV.new w2 rfl
 have h3:=h2.up (alB w2 (.cells #[.int .i64 7,.string ⟨#[]⟩,.slice none 0 0,.int .i64 y.kind,.int .i64 y.num,.string (mkB y.text),.slice b1 y.kids.length d1,.slice b2 y.names.length d2,.slice none 0 0,.slice none 0 0] 164))
 have hk3:=hk2.trans (KP.al P w2 (.cells #[.int .i64 7,.string ⟨#[]⟩,.slice none 0 0,.int .i64 y.kind,.int .i64 y.num,.string (mkB y.text),.slice b1 y.kids.length d1,.slice b2 y.names.length d2,.slice none 0 0,.slice none 0 0] 164))
 have HA:Hid ((w2.alloc (.cells #[.int .i64 7,.string ⟨#[]⟩,.slice none 0 0,.int .i64 y.kind,.int .i64 y.num,.string (mkB y.text),.slice b1 y.kids.length d1,.slice b2 y.names.length d2,.slice none 0 0,.slice none 0 0] 164)).heap[W.heap.size]? =some sz∧ExA (w2.alloc (.cells #[.int .i64 7,.string ⟨#[]⟩,.slice none 0 0,.int .i64 y.kind,.int .i64 y.num,.string (mkB y.text),.slice b1 y.kids.length d1,.slice b2 y.names.length d2,.slice none 0 0,.slice none 0 0] 164)) (fun g=>W.heap.size<g∧g<w2.heap.size) y [.int .i64 y.kind,.int .i64 y.num,.string (mkB y.text),.slice b1 y.kids.length d1,.slice b2 y.names.length d2]∧(w2.alloc (.cells #[.int .i64 7,.string ⟨#[]⟩,.slice none 0 0,.int .i64 y.kind,.int .i64 y.num,.string (mkB y.text),.slice b1 y.kids.length d1,.slice b2 y.names.length d2,.slice none 0 0,.slice none 0 0] 164)).heap.size=w2.heap.size+1):=⟨(heap_al _ _ _ hs2).trans hr2,hx2.keep (fun g _ hg2=>heap_al w2 _ g hg2) (fun g hg hg2=>⟨by omega,hg2⟩),World.size_alloc _ _⟩
 obtain⟨w3,hw3⟩:∃ w3,w3=w2.alloc (.cells #[.int .i64 7,.string ⟨#[]⟩,.slice none 0 0,.int .i64 y.kind,.int .i64 y.num,.string (mkB y.text),.slice b1 y.kids.length d1,.slice b2 y.names.length d2,.slice none 0 0,.slice none 0 0] 164):=⟨_,rfl⟩
 rw[←hw3]at sv3 h3 hk3 HA
 have HW3:Hid (w3=w2.alloc (.cells #[.int .i64 7,.string ⟨#[]⟩,.slice none 0 0,.int .i64 y.kind,.int .i64 y.num,.string (mkB y.text),.slice b1 y.kids.length d1,.slice b2 y.names.length d2,.slice none 0 0,.slice none 0 0] 164)):=hw3
 clear hw3
 generalize hLb:w2.heap.size=Lb at *
 clear HT hz1 hx hj2 hk1 h1 hr1 hr2 hx2 h2 hk2
 rcases bnd_some hz2 with⟨x,hx,rfl⟩|⟨bl,p3,hx,hz3⟩
 ·have HT:=HB.out w3 _ _ h3 (HEr.out _ hk3) hx
  go_wp2_with fail
  rw[←HW3.out]
  refine HT.mono ?_
  rintro eX wX hpo
  obtain⟨rfl,hkX⟩:=bad_panic hpo hk3
  exact⟨rfl,rfl,hkX⟩
 have HT:=HB.out w3 _ _ h3 (HEr.out _ hk3) hx
 go_wp2_with fail
 rw[←HW3.out]
 refine HT.mono ?_
 rintro e4 w4 ⟨bv,rfl,hv4,h4,hj4⟩
 obtain⟨ba,bc,rfl⟩:=hv4.shape
 have hsz3:=HA.out.2.2
 have sv4:=sv3.keep (hj4.blk Lb sv3.lt (by omega))
 have f4:=sv4.fz 8
 have c4:=sv4.at_ 8 rfl
 have sv5:=sv4.set 8 (.slice ba bl.length bc)
 have hs4:=hj4.size
 have h5:PsA P T (w4.setCell ⟨Lb,8,none⟩ (.slice ba bl.length bc)) p3:=h4.keep (Below.heap_setCell _ ⟨Lb,8,none⟩ _ P (by show ¬P=Lb;omega)) (Below.heap_setCell _ ⟨Lb,8,none⟩ _ T (by show ¬T=Lb;omega))
 have hk5:KP P W (w4.setCell ⟨Lb,8,none⟩ (.slice ba bl.length bc)):=(hk3.trans hj4).setIn (by omega) 8 _
 have hg5:∀ g,g≠Lb→(w4.setCell ⟨Lb,8,none⟩ (.slice ba bl.length bc)).heap[g]? =w4.heap[g]? :=fun g hg=>Below.heap_setCell _ ⟨Lb,8,none⟩ _ g hg
 have HA5:Hid ((w4.setCell ⟨Lb,8,none⟩ (.slice ba bl.length bc)).heap[W.heap.size]? =some sz∧ExA (w4.setCell ⟨Lb,8,none⟩ (.slice ba bl.length bc)) (fun g=>W.heap.size<g∧g<Lb) y [.int .i64 y.kind,.int .i64 y.num,.string (mkB y.text),.slice b1 y.kids.length d1,.slice b2 y.names.length d2]∧Lb<(w4.setCell ⟨Lb,8,none⟩ (.slice ba bl.length bc)).heap.size∧VL (Lb+1) (w4.setCell ⟨Lb,8,none⟩ (.slice ba bl.length bc)) bl (.slice ba bl.length bc)):=⟨(hg5 _ (by omega)).trans (hj4.heapEq HA.out.1 (by omega)),HA.out.2.1.keep (fun g hg hg2=>(hg5 g (by omega)).trans (hj4.blk g hg2 (by omega))) (fun _ hg _=>hg),by rw[size_set];omega,by rw[←hsz3];exact hv4.up fun g hg _=>hg5 g (by omega)⟩
 clear sv3 sv4 hv4 h4 hj4 hz2 hx hk3 h3 HA hs4 hsz3 hg5
 go_wp2_with fail
 clear f4 c4
 simp only[List.set_cons_zero,List.set_cons_succ]at sv5
 generalize w4.setCell ⟨Lb,8,none⟩ (.slice ba bl.length bc)=w5 at *
 cases hb:p3.sees [[101,108,115,101]]with
 |false=>
  simp only[hb,cond_false]at hz3
  cases hz3
  refine(passSign_no h5 (x:=[101,108,115,101]) hb).mono ?_
  rintro e6 w6 ⟨rfl,hj6,h6⟩
  have hl5:=HA5.out.2.2.1
  have sv6:=sv5.keep (hj6.blk Lb hl5 (by omega))
  have hr6:=hj6.heapEq HA5.out.1 (by omega)
  have hx6:ExA w6 (fun g=>W.heap.size<g) y [.int .i64 y.kind,.int .i64 y.num,.string (mkB y.text),.slice b1 y.kids.length d1,.slice b2 y.names.length d2]:=HA5.out.2.1.keep (fun g hg hg2=>hj6.blk g hg2 (by omega)) (fun _ hg _=>hg.1)
  have hv6:VL (W.heap.size+1) w6 bl (.slice ba bl.length bc):=(HA5.out.2.2.2.up fun g hg hg2=>hj6.blk g hg2 (by omega)).le (by omega)
  have hsm:SmA w6 (fun g=>W.heap.size≤g∧g≠W.heap.size) ⟨7,[],[],y,bl,[]⟩ [.int .i64 7,.string ⟨#[]⟩,.slice none 0 0,.int .i64 y.kind,.int .i64 y.num,.string (mkB y.text),.slice b1 y.kids.length d1,.slice b2 y.names.length d2,.slice ba bl.length bc,.slice none 0 0]:=sm_of (k:=7) (t:=[]) (ns:=[]) hx6 (World.ownsRow_nil _ _ _ _) (fun g hg=>by cases hg) hv6 (VL.nil _ _)
  obtain⟨t2,i2,o2,l2,j2⟩:=fin10 hr6 rfl hsm
  have HZ:Hid (PoA P T (VS W.heap.size) W _ (.returned (.agg (([.int .i64 7,.string ⟨#[]⟩,.slice none 0 0,.int .i64 y.kind,.int .i64 y.num,.string (mkB y.text),.slice b1 y.kids.length d1,.slice b2 y.names.length d2,.slice ba bl.length bc,.slice none 0 0]:List Value)).toArray)) (w6.setCells W.heap.size 0 [.int .i64 7,.string ⟨#[]⟩,.slice none 0 0,.int .i64 y.kind,.int .i64 y.num,.string (mkB y.text),.slice b1 y.kids.length d1,.slice b2 y.names.length d2,.slice ba bl.length bc,.slice none 0 0])):=poS_fin (Nat.le_refl _) hsm (fun g hg=>hg) h6 (hk5.trans hj6) hPl hTl
  have HG:Hid _:=(⟨sv6.2.1,j2,t2,i2,o2,l2⟩:_∧_∧_∧_∧_∧_)
  clear t2 i2 o2 l2 j2 hsm hv6 hx6 hr6 sv6 hj6 h6 hk5 h5 sv5 HA5
  go_wp2_with (first
   |(refine wpList_load_mid rfl 164 (Operand.tmp 3) rfl Lb 0 rfl _ _ HG.out.1 Tryz.underlying164 rfl HG.out.2.1 ?_)
   |(refine wpList_store_mid rfl 164 (Operand.tmp 2) (Operand.tmp 17) rfl W.heap.size 0 _ rfl rfl HG.out.2.2.1 HG.out.2.2.2.1 HG.out.2.2.2.2.1 ?_)
   |fail)
  refine bodyPost_ret (v:= .agg _) (res_one Tryz.results216 _ _ rfl HG.out.2.2.2.2.2) rfl HZ.out
 |true=>
  simp only[hb,cond_true]at hz3
  refine(passSign_yes h5 (x:=[101,108,115,101]) hb).mono ?_
  rintro e6 w6 ⟨rfl,hj6,h6⟩
  have hl5:=HA5.out.2.2.1
  have hk6:=hk5.trans hj6
  rcases bnd_some hz3 with⟨x,hx,rfl⟩|⟨es,p7,hx,hz4⟩
  ·have HT:=HB.out w6 _ _ h6 (HEr.out _ hk6) hx
   go_wp2_with fail
   refine HT.mono ?_
   rintro eX wX hpo
   obtain⟨rfl,hkX⟩:=bad_panic hpo hk6
   exact⟨rfl,rfl,hkX⟩
  have HT:=HB.out w6 _ _ h6 (HEr.out _ hk6) hx
  cases hz4
  go_wp2_with fail
  refine HT.mono ?_
  rintro e7 w7 ⟨ev,rfl,hv7,h7,hj7⟩
  obtain⟨ea,ec,rfl⟩:=hv7.shape
  have hj:=hj6.trans hj7
  have hs6:=hj6.size
  have hs7:=hj7.size
  have sv7:=sv5.keep (hj.blk Lb hl5 (by omega))
  have f7:=sv7.fz 9
  have c7:=sv7.at_ 9 rfl
  have sv8:=sv7.set 9 (.slice ea es.length ec)
  simp only[List.set_cons_zero,List.set_cons_succ]at sv8
  have hg8:∀ g,g≠Lb→(w7.setCell ⟨Lb,9,none⟩ (.slice ea es.length ec)).heap[g]? =w7.heap[g]? :=fun g hg=>Below.heap_setCell _ ⟨Lb,9,none⟩ _ g hg
  have hr8:(w7.setCell ⟨Lb,9,none⟩ (.slice ea es.length ec)).heap[W.heap.size]? =some sz:=(hg8 _ (by omega)).trans (hj.heapEq HA5.out.1 (by omega))
  have hx8:ExA (w7.setCell ⟨Lb,9,none⟩ (.slice ea es.length ec)) (fun g=>W.heap.size<g) y [.int .i64 y.kind,.int .i64 y.num,.string (mkB y.text),.slice b1 y.kids.length d1,.slice b2 y.names.length d2]:=HA5.out.2.1.keep (fun g hg hg2=>(hg8 g (by omega)).trans (hj.blk g hg2 (by omega))) (fun _ hg _=>hg.1)
  have hv8:VL (W.heap.size+1) (w7.setCell ⟨Lb,9,none⟩ (.slice ea es.length ec)) bl (.slice ba bl.length bc):=(HA5.out.2.2.2.up fun g hg hg2=>(hg8 g (by omega)).trans (hj.blk g hg2 (by omega))).le (by omega)
  have he8:VL (W.heap.size+1) (w7.setCell ⟨Lb,9,none⟩ (.slice ea es.length ec)) es (.slice ea es.length ec):=(hv7.up fun g hg _=>hg8 g (by omega)).le (by omega)
  have h8:PsA P T (w7.setCell ⟨Lb,9,none⟩ (.slice ea es.length ec)) p7:=h7.keep (hg8 P (by omega)) (hg8 T (by omega))
  have hk8:KP P W (w7.setCell ⟨Lb,9,none⟩ (.slice ea es.length ec)):=(hk5.trans hj).setIn (by omega) 9 _
  have hsm:SmA (w7.setCell ⟨Lb,9,none⟩ (.slice ea es.length ec)) (fun g=>W.heap.size≤g∧g≠W.heap.size) ⟨7,[],[],y,bl,es⟩ [.int .i64 7,.string ⟨#[]⟩,.slice none 0 0,.int .i64 y.kind,.int .i64 y.num,.string (mkB y.text),.slice b1 y.kids.length d1,.slice b2 y.names.length d2,.slice ba bl.length bc,.slice ea es.length ec]:=sm_of (k:=7) (t:=[]) (ns:=[]) hx8 (World.ownsRow_nil _ _ _ _) (fun g hg=>by cases hg) hv8 he8
  obtain⟨t2,i2,o2,l2,j2⟩:=fin10 hr8 rfl hsm
  have HZ:Hid (PoA P T (VS W.heap.size) W _ (.returned (.agg (([.int .i64 7,.string ⟨#[]⟩,.slice none 0 0,.int .i64 y.kind,.int .i64 y.num,.string (mkB y.text),.slice b1 y.kids.length d1,.slice b2 y.names.length d2,.slice ba bl.length bc,.slice ea es.length ec]:List Value)).toArray)) ((w7.setCell ⟨Lb,9,none⟩ (.slice ea es.length ec)).setCells W.heap.size 0 [.int .i64 7,.string ⟨#[]⟩,.slice none 0 0,.int .i64 y.kind,.int .i64 y.num,.string (mkB y.text),.slice b1 y.kids.length d1,.slice b2 y.names.length d2,.slice ba bl.length bc,.slice ea es.length ec])):=poS_fin (Nat.le_refl _) hsm (fun g hg=>hg) h8 hk8 hPl hTl
  have HG:Hid _:=(⟨sv8.2.1,j2,t2,i2,o2,l2⟩:_∧_∧_∧_∧_∧_)
  clear t2 i2 o2 l2 j2 hsm hv8 he8 hx8 hr8 sv8 sv7 hj hj6 hj7 h6 h7 h8 hk5 hk6 hk8 h5 sv5 HA5 HT hv7 hg8
  go_wp2_with (first
   |(refine wpList_load_mid rfl 164 (Operand.tmp 3) rfl Lb 0 rfl _ _ HG.out.1 Tryz.underlying164 rfl HG.out.2.1 ?_)
   |(refine wpList_store_mid rfl 164 (Operand.tmp 2) (Operand.tmp 17) rfl W.heap.size 0 _ rfl rfl HG.out.2.2.1 HG.out.2.2.2.1 HG.out.2.2.2.2.1 ?_)
   |fail)
  refine bodyPost_ret (v:= .agg _) (res_one Tryz.results216 _ _ rfl HG.out.2.2.2.2.2) rfl HZ.out
end Go.Proofs.YthfgpkdbclogpaaGreatDoor
