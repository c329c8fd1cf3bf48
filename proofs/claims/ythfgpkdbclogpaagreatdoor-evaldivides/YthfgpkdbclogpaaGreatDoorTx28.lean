/- 28. -/
import Derived.Laws.OwnMore
import Derived.Deep.RegionHeld3
import Derived.Test.YthfgpkdbclogpaaGreatDoorTx27
set_option maxHeartbeats 40000000
set_option maxRecDepth 100000
namespace Go.Proofs.YthfgpkdbclogpaaGreatDoor
open Go.RowKit Go.Shelf
structure FrL (P lo Eb:Nat)(W0 W:World):Prop where
 os:W.os=W0.os
 tape:W.tape=W0.tape
 output:W.output=W0.output
 size:lo≤W.heap.size
 blk:∀ g,g<lo→g≠P→g≠Eb→W.heap[g]? =W0.heap[g]?
theorem FrL.kp {P lo Eb:Nat}{W0 W w':World}(h:FrL P lo Eb W0 W)(k:KP P W w'):FrL P lo Eb W0 w':=⟨k.os.trans h.os,k.tape.trans h.tape,k.output.trans h.output,Nat.le_trans h.size k.size,fun g h1 h2 h3=>(k.blk g (Nat.lt_of_lt_of_le h1 h.size) h2).trans (h.blk g h1 h2 h3)⟩
structure BuB (Sx:Nat→Prop)(lo Eb:Nat)(W:World)(s:Ex)(kv nv:Value)(vs:List (List Value)):Prop where
 ev:EV W Eb [.int .i64 s.kind,.int .i64 s.num,.string (mkB s.text),kv,nv]
 kr:W.ownsRow lo 162 5 kv s.kids.length vs.flatten
 nr:W.ownsRow lo 9 1 nv s.names.length (s.names.map sv)
 ne:∀ g,kv.ownBlock=some g→nv.ownBlock≠some g
 nk:kv.ownBlock≠some Eb
 nn:nv.ownBlock≠some Eb
 fa:Fa (ExA W (fun g=>(Sx g∨lo≤g)∧g≠Eb∧kv.ownBlock≠some g∧nv.ownBlock≠some g)) s.kids vs
theorem BuB.keep {Sx:Nat→Prop}{lo Eb:Nat}{W w':World}{s:Ex}{kv nv:Value}{vs:List (List Value)}(h:BuB Sx lo Eb W s kv nv vs)(he:w'.heap[Eb]? =W.heap[Eb]?)(hk:∀ g,(Sx g∨lo≤g)→g≠Eb→g<W.heap.size→w'.heap[g]? =W.heap[g]?):BuB Sx lo Eb w' s kv nv vs:=
 ⟨h.ev.keep he,own_heap h.kr fun g hg=>hk g (.inr (h.kr.lt g hg).1) (fun e=>h.nk (e▸hg)) (h.kr.lt g hg).2,own_heap h.nr fun g hg=>hk g (.inr (h.nr.lt g hg).1) (fun e=>h.nn (e▸hg)) (h.nr.lt g hg).2,h.ne,h.nk,h.nn,h.fa.mono fun _ _ f=>f.keep (fun g hg hg2=>hk g hg.1 hg.2.1 hg2) (fun _ hg _=>hg)⟩
theorem BuB.keepK {Sx:Nat→Prop}{P lo Eb:Nat}{W w':World}{s:Ex}{kv nv:Value}{vs:List (List Value)}(h:BuB Sx lo Eb W s kv nv vs)(hk:KP P W w')(hP:P<lo)(hPE:Eb≠P)(hS:∀ g,Sx g→g<lo∧g≠P∧g≠Eb):BuB Sx lo Eb w' s kv nv vs:=
 h.keep (hk.blk _ h.ev.lt hPE) fun g hg _ hg2=>hk.blk g hg2 (by
  rcases hg with hg|hg
  ·exact(hS g hg).2.1
  ·omega)
structure LI (Sx:Nat→Prop)(P T lo Eb:Nat)(W0 W:World)(s:Ex)(p:Ps):Prop where
 ps:PsA P T W p
 fr:FrL P lo Eb W0 W
 bu:∃ kv nv vs,BuB Sx lo Eb W s kv nv vs
theorem LI.kp {Sx:Nat→Prop}{P T lo Eb:Nat}{W0 W w':World}{s:Ex}{p p':Ps}(h:LI Sx P T lo Eb W0 W s p)(k:KP P W w')(hp:PsA P T w' p')(hP:P<lo)(hPE:Eb≠P)(hS:∀ g,Sx g→g<lo∧g≠P∧g≠Eb):LI Sx P T lo Eb W0 w' s p':=by
 obtain⟨kv,nv,vs,hb⟩:=h.bu
 exact⟨hp,h.fr.kp k,kv,nv,vs,hb.keepK k hP hPE hS⟩
theorem li_liv {Sx:Nat→Prop}{P T lo Eb:Nat}{W0:World}(hP:P<lo)(hPE:Eb≠P)(hS:∀ g,Sx g→g<lo∧g≠P∧g≠Eb):Liv P T (LI Sx P T lo Eb W0) (FrL P lo Eb W0):=
 ⟨fun _ _ _ h=>h.ps,fun _ _ _ _ _ h k hp=>h.kp k hp hP hPE hS,fun _ _ _ h=>h.fr,fun _ _ h k=>h.kp k⟩
theorem stored_cells {lo:Nat}{e:TypeId}{size g n cap:Nat}:∀ (cs zs xs:List Value) (w:World),w.ownsRow lo e size (.slice (some ⟨g,0,none⟩) n cap) n (xs++zs)→zs.length=cs.length→(w.setCells g xs.length cs).ownsRow lo e size (.slice (some ⟨g,0,none⟩) n cap) n (xs++cs)
 |[],[],_,_,h,_=>h
 |c::cs,z::zs,xs,w,h,hl=>by
  have h2:=(h.stored xs.length c).1
  have e1:(xs++z::zs).set xs.length c=(xs++[c])++zs:=by simp
  rw[e1]at h2
  have h3:=stored_cells cs zs (xs++[c]) _ h2 (by simpa using hl)
  rw[List.append_assoc]at h3
  show((w.setCell ⟨g,xs.length,none⟩ c).setCells g (xs.length+1) cs).ownsRow lo e size _ n (xs++c::cs)
  simpa using h3
theorem own_cells {w:World}{B:Nat}{e:TypeId}{sz:Nat}{g cap n:Nat}{xs:List Value}(h:w.ownsRow B e sz (.slice (some ⟨g,0,none⟩) n cap) n xs)(o k:Nat)(hk:o+k≤xs.length):w.there g o k:=fun j hj=>by
 rcases h.2 with⟨hv,_⟩|⟨g',cap',cur,hv,_,hg,h1,h2,h3,h4⟩
 ·cases hv
 ·cases hv
  refine⟨?_,Lib.frozen_of_heap hg _⟩
  rw[Lib.cell_of_heap hg]
  have:o+j<cur.size:=by
   have:=congrArg List.length h4
   rw[List.length_take]at this
   have e1:cur.toList.length=cur.size:=by simp
   omega
  simp[this]
theorem BuB.push {Sx:Nat→Prop}{P lo Eb:Nat}{W0 X w2 Wf:World}{s:Ex}{kv nv:Value}{vs:List (List Value)}(h:BuB Sx lo Eb X s kv nv vs){y:Ex}{cy:List Value}(hy:ExA X (fun g=>(Sx g∨lo≤g)∧g≠Eb∧kv.ownBlock≠some g∧nv.ownBlock≠some g) y cy)
  {g' cap':Nat} (hgrow:X.grownBy w2 kv.ownBlock) (hat:kv.ownBlock=some g'∨g'=X.heap.size) (hfr:FrL P lo Eb W0 X)
  (hrow:Wf.ownsRow lo 162 5 (.slice (some ⟨g',0,none⟩) (s.kids.length+1) cap') (s.kids.length+1) (vs.flatten++cy)) (hev:EV Wf Eb [.int .i64 s.kind,.int .i64 s.num,.string (mkB s.text),.slice (some ⟨g',0,none⟩) (s.kids.length+1) cap',nv])
  (hoth:∀ g,g≠Eb→g≠g'→Wf.heap[g]? =w2.heap[g]?) (hos:Wf.os=w2.os) (htape:Wf.tape=w2.tape) (hout:Wf.output=w2.output) (hsz:w2.heap.size≤Wf.heap.size):
  BuB Sx lo Eb Wf (s.kid y) (.slice (some ⟨g',0,none⟩) (s.kids.length+1) cap') nv (vs++[cy])∧FrL P lo Eb W0 Wf∧(∀ g,g<lo→g≠Eb→Wf.heap[g]? =X.heap[g]?):=by
 have hEl:=h.ev.lt
 have hlo:lo≤g':=by
  rcases hat with h1|h1
  ·exact(h.kr.lt _ h1).1
  ·rw[h1];exact hfr.size
 have hgE:g'≠Eb:=by
  rcases hat with h1|h1
  ·exact fun e=>h.nk (e▸h1)
  ·omega
 have hgo:∀ g,g<X.heap.size→kv.ownBlock≠some g→g≠g':=fun g h1 h2 e=>by
  rcases hat with h3|h3
  ·exact h2 (by rw[h3,e])
  ·omega
 have hk:∀ g,g≠Eb→g<X.heap.size→kv.ownBlock≠some g→Wf.heap[g]? =X.heap[g]? :=fun g h1 h2 h3=>(hoth g h1 (hgo g h2 h3)).trans (hgrow.block g h2 fun e=>h3 e.symm)
 have hS2:∀ (x:Ex) (c:List Value),ExA X (fun g=>(Sx g∨lo≤g)∧g≠Eb∧kv.ownBlock≠some g∧nv.ownBlock≠some g) x c→ExA Wf (fun g=>(Sx g∨lo≤g)∧g≠Eb∧(Value.slice (some ⟨g',0,none⟩) (s.kids.length+1) cap').ownBlock≠some g∧nv.ownBlock≠some g) x c:=fun x c hx=>hx.keep (fun g hg hg2=>hk g hg.2.1 hg2 hg.2.2.1) (fun g hg hg2=>⟨hg.1,hg.2.1,fun e=>by
  have e2:g'=g:=by simpa[Value.ownBlock]using e
  exact hgo g hg2 hg.2.2.1 e2.symm,hg.2.2.2⟩)
 have hkn:∀ g,g<lo→kv.ownBlock≠some g:=fun g hg e=>by have:=(h.kr.lt _ e).1;omega
 refine⟨⟨hev,?_,?_,?_,?_,h.nn,?_⟩,⟨hos.trans (hgrow.os.trans hfr.os),htape.trans (hgrow.tape.trans hfr.tape),hout.trans (hgrow.output.trans hfr.output),Nat.le_trans hfr.size (Nat.le_trans hgrow.size hsz),fun g h1 h2 h3=>(hk g h3 (Nat.lt_of_lt_of_le h1 hfr.size) (hkn g h1)).trans (hfr.blk g h1 h2 h3)⟩,fun g h1 h2=>hk g h2 (Nat.lt_of_lt_of_le h1 hfr.size) (hkn g h1)⟩
 ·simpa[Ex.kid]using hrow
 ·exact own_heap h.nr fun g hg=>hk g (fun e=>h.nn (e▸hg)) (h.nr.lt g hg).2 (fun e=>h.ne g e hg)
 ·intro g hg e
  have e2:g'=g:=by simpa[Value.ownBlock]using hg
  subst e2
  rcases hat with h1|h1
  ·exact h.ne _ h1 e
  ·have:=(h.nr.lt _ e).2;omega
 ·intro e
  have e2:g'=Eb:=by simpa[Value.ownBlock]using e
  exact hgE e2
 ·exact(h.fa.mono fun _ _ f=>hS2 _ _ f).snoc (hS2 _ _ hy)
theorem LI.done {Sx:Nat→Prop}{P T lo Eb:Nat}{W0 W:World}{s:Ex}{p:Ps}(h:LI Sx P T lo Eb W0 W s p):∃ c,EV W Eb c∧ExA W (fun g=>(Sx g∨lo≤g)∧g≠Eb) s c:=by
 obtain⟨kv,nv,vs,hb⟩:=h.bu
 refine⟨_,hb.ev,ExA.make (row_mono hb.kr (Nat.zero_le _)) (row_mono hb.nr (Nat.zero_le _)) (fun g hg=>⟨.inr (hb.kr.lt g hg).1,fun e=>hb.nk (e▸hg)⟩) (fun g hg=>⟨.inr (hb.nr.lt g hg).1,fun e=>hb.nn (e▸hg)⟩) (hb.fa.mono fun _ _ f=>f.mono fun g hg _=>⟨hg.1,hg.2.1⟩)⟩
end Go.Proofs.YthfgpkdbclogpaaGreatDoor
namespace Go.Proofs.YthfgpkdbclogpaaGreatDoor
open Go.RowKit Go.Shelf
attribute [local go_sem ↓] fld0 fld1 fld2 fld3
attribute [local go_sem] mk_func
theorem infEx:(Tryz.prog.info? 162).map (fun i=>(i.zero,i.size,i.bytes))=some (some (.agg #[.int .i64 0,.int .i64 0,.string ⟨#[]⟩,.slice none 0 0,.slice none 0 0]),5,80):=by kernel_rfl
theorem FrL.al {P lo Eb:Nat}{W0 W:World}(h:FrL P lo Eb W0 W)(o:Obj):FrL P lo Eb W0 (W.alloc o):=h.kp (KP.al P W o)
theorem FrL.drew {P lo Eb:Nat}{W0 W:World}(h:FrL P lo Eb W0 W):FrL P lo Eb W0 W.drew:=⟨h.os,h.tape,h.output,h.size,h.blk⟩
theorem BuB.al {Sx:Nat→Prop}{lo Eb:Nat}{W:World}{s:Ex}{kv nv:Value}{vs:List (List Value)}(h:BuB Sx lo Eb W s kv nv vs)(o:Obj):BuB Sx lo Eb (W.alloc o) s kv nv vs:=h.keep (heap_al W o Eb h.ev.lt) (fun g _ _ hg=>heap_al W o g hg)
theorem ob_eq {b g o n c:Nat}(h:(Value.slice (some ⟨b,o,none⟩) n c).ownBlock=some g):b=g:=by simpa[Value.ownBlock]using h
theorem stored_cells' {lo:Nat}{e:TypeId}{size g n cap k:Nat}{w:World}{xs zs cs:List Value}(h:w.ownsRow lo e size (.slice (some ⟨g,0,none⟩) n cap) n (xs++zs))(hx:xs.length=k)(hl:cs.length=5)(hz:zs.length=5:=by rfl):(w.setCells g k cs).ownsRow lo e size (.slice (some ⟨g,0,none⟩) n cap) n (xs++cs):=by
 subst hx
 exact stored_cells cs zs xs w h (by rw[hl,hz])
theorem EV.put3 {w:World}{L:Nat}{v0 v1 v2 v3 v4:Value}(h:EV w L [v0,v1,v2,v3,v4])(u:Value):EV (w.setCell ⟨L,3,none⟩ u) L [v0,v1,v2,u,v4]:=by
 obtain⟨u0,u1,u2,u3,u4⟩:=h.five
 obtain⟨⟨c0,h1,h2⟩,h3⟩:=h
 have hb:(w.setCell ⟨L,3,none⟩ u).heap[L]? =some (.cells (c0.setIfInBounds 3 u) 162 (0,0)):=Go.Joins.block_setCell h1 u
 rw[Lib.cell_of_heap h1]at u0 u1 u2 u3 u4
 refine⟨⟨_,hb,by simpa using h2⟩,fun j v hv=>?_⟩
 rw[Nat.zero_add,Lib.cell_of_heap hb]
 match j,hv with
 |0,hv=>cases hv;simpa using u0
 |1,hv=>cases hv;simpa using u1
 |2,hv=>cases hv;simpa using u2
 |3,hv=>cases hv;simp[h2]
 |4,hv=>cases hv;simpa using u4
theorem os_sets (b o:Nat)(vs:List Value)(w:World):(w.setCells b o vs).os=w.os:=(bel_sets (Nat.zero_le b) vs o (Below.refl 0 w)).os
theorem out_sets (b o:Nat)(vs:List Value)(w:World):(w.setCells b o vs).output=w.output:=(bel_sets (Nat.zero_le b) vs o (Below.refl 0 w)).output
theorem tape_sets (b o:Nat)(vs:List Value)(w:World):(w.setCells b o vs).tape=w.tape:=(bel_sets (Nat.zero_le b) vs o (Below.refl 0 w)).tape
end Go.Proofs.YthfgpkdbclogpaaGreatDoor
namespace Go.Proofs.YthfgpkdbclogpaaGreatDoor
open Go.RowKit Go.Shelf
def subW:List Bool→Code→Code
 |[],c=>c
 |false::p,.seq a _=>subW p a
 |true::p,.seq _ b=>subW p b
 |_::p,.block _ c=>subW p c
 |_::p,.loop c=>subW p c
 |false::p,.cond _ a _=>subW p a
 |true::p,.cond _ _ b=>subW p b
 |_::_,c=>c
abbrev PC (k:Int)(x:Nat):List PanicEntry:=[{v:= .iface 110 (.agg #[.int .i64 k,.int .i64 x]),recovered:=false}]
theorem kd_some {E:Ps→Px Ex}{s:Ex}{p:Ps}{z:Except Ft (Ex×Ps)}(h:kdE E s p=some z):(∃ x,E p=some (.error x)∧z= .error x)∨∃ e q,E p=some (.ok (e,q))∧z= .ok (s.kid e,q):=by
 rcases bnd_some h with⟨x,hx,rfl⟩|⟨e,q,hx,hq⟩
 ·exact .inl ⟨x,hx,rfl⟩
 ·exact .inr ⟨e,q,hx,(Option.some.inj hq).symm⟩
theorem kid_len (s e:Ex):(s.kid e).kids.length=s.kids.length+1:=by simp[Ex.kid]
theorem EV.put0 {w:World}{L:Nat}{v0 v1 v2 v3 v4:Value}(h:EV w L [v0,v1,v2,v3,v4])(u:Value):EV (w.setCell ⟨L,0,none⟩ u) L [u,v1,v2,v3,v4]:=by
 obtain⟨u0,u1,u2,u3,u4⟩:=h.five
 obtain⟨⟨c0,h1,h2⟩,h3⟩:=h
 have hb:(w.setCell ⟨L,0,none⟩ u).heap[L]? =some (.cells (c0.setIfInBounds 0 u) 162 (0,0)):=Go.Joins.block_setCell h1 u
 rw[Lib.cell_of_heap h1]at u0 u1 u2 u3 u4
 refine⟨⟨_,hb,by simpa using h2⟩,fun j v hv=>?_⟩
 rw[Nat.zero_add,Lib.cell_of_heap hb]
 match j,hv with
 |0,hv=>cases hv;simp[h2]
 |1,hv=>cases hv;simpa using u1
 |2,hv=>cases hv;simpa using u2
 |3,hv=>cases hv;simpa using u3
 |4,hv=>cases hv;simpa using u4
theorem EV.put2 {w:World}{L:Nat}{v0 v1 v2 v3 v4:Value}(h:EV w L [v0,v1,v2,v3,v4])(u:Value):EV (w.setCell ⟨L,2,none⟩ u) L [v0,v1,u,v3,v4]:=by
 obtain⟨u0,u1,u2,u3,u4⟩:=h.five
 obtain⟨⟨c0,h1,h2⟩,h3⟩:=h
 have hb:(w.setCell ⟨L,2,none⟩ u).heap[L]? =some (.cells (c0.setIfInBounds 2 u) 162 (0,0)):=Go.Joins.block_setCell h1 u
 rw[Lib.cell_of_heap h1]at u0 u1 u2 u3 u4
 refine⟨⟨_,hb,by simpa using h2⟩,fun j v hv=>?_⟩
 rw[Nat.zero_add,Lib.cell_of_heap hb]
 match j,hv with
 |0,hv=>cases hv;simpa using u0
 |1,hv=>cases hv;simpa using u1
 |2,hv=>cases hv;simp[h2]
 |3,hv=>cases hv;simpa using u3
 |4,hv=>cases hv;simpa using u4
theorem EV.put4 {w:World}{L:Nat}{v0 v1 v2 v3 v4:Value}(h:EV w L [v0,v1,v2,v3,v4])(u:Value):EV (w.setCell ⟨L,4,none⟩ u) L [v0,v1,v2,v3,u]:=by
 obtain⟨u0,u1,u2,u3,u4⟩:=h.five
 obtain⟨⟨c0,h1,h2⟩,h3⟩:=h
 have hb:(w.setCell ⟨L,4,none⟩ u).heap[L]? =some (.cells (c0.setIfInBounds 4 u) 162 (0,0)):=Go.Joins.block_setCell h1 u
 rw[Lib.cell_of_heap h1]at u0 u1 u2 u3 u4
 refine⟨⟨_,hb,by simpa using h2⟩,fun j v hv=>?_⟩
 rw[Nat.zero_add,Lib.cell_of_heap hb]
 match j,hv with
 |0,hv=>cases hv;simpa using u0
 |1,hv=>cases hv;simpa using u1
 |2,hv=>cases hv;simpa using u2
 |3,hv=>cases hv;simpa using u3
 |4,hv=>cases hv;simp[h2]
theorem LI.set {Sx:Nat→Prop}{P T lo Eb:Nat}{W0 W w':World}{s s':Ex}{p:Ps}{kv nv:Value}{vs:List (List Value)}(hps:PsA P T W p)(hfr:FrL P lo Eb W0 W)(h:BuB Sx lo Eb W s kv nv vs)(hk:s'.kids=s.kids)(hn:s'.names=s.names)(ho:∀ g,g≠Eb→w'.heap[g]? =W.heap[g]?)(hos:w'.os=W.os)(htp:w'.tape=W.tape)(hou:w'.output=W.output)(hsz:w'.heap.size=W.heap.size)
  (hev:EV w' Eb [.int .i64 s'.kind,.int .i64 s'.num,.string (mkB s'.text),kv,nv]) (hPE:Eb≠P) (hTE:T≠Eb):LI Sx P T lo Eb W0 w' s' p∧BuB Sx lo Eb w' s' kv nv vs:=by
 have hb:BuB Sx lo Eb w' s' kv nv vs:=⟨hev,by rw[hk];exact own_heap h.kr fun g hg=>ho g (fun e=>h.nk (e▸hg)),by rw[hn];exact own_heap h.nr fun g hg=>ho g (fun e=>h.nn (e▸hg)),h.ne,h.nk,h.nn,by rw[hk];exact h.fa.mono fun _ _ f=>f.keep (fun g hg _=>ho g hg.2.1) (fun _ hg _=>hg)⟩
 exact⟨⟨hps.keep (ho P (fun e=>hPE e.symm)) (ho T hTE),⟨hos.trans hfr.os,htp.trans hfr.tape,hou.trans hfr.output,by rw[hsz];exact hfr.size,fun g h1 h2 h3=>(ho g h3).trans (hfr.blk g h1 h2 h3)⟩,kv,nv,vs,hb⟩,hb⟩
theorem BuB.pushN {Sx:Nat→Prop}{P lo Eb:Nat}{W0 X w2 Wf:World}{s:Ex}{kv nv:Value}{vs:List (List Value)}(h:BuB Sx lo Eb X s kv nv vs)(x:List UInt8)
  {g' cap':Nat} (hgrow:X.grownBy w2 nv.ownBlock) (hat:nv.ownBlock=some g'∨g'=X.heap.size) (hfr:FrL P lo Eb W0 X)
  (hrow:Wf.ownsRow lo 9 1 (.slice (some ⟨g',0,none⟩) (s.names.length+1) cap') (s.names.length+1) (s.names.map sv++[sv x])) (hev:EV Wf Eb [.int .i64 s.kind,.int .i64 s.num,.string (mkB s.text),kv,.slice (some ⟨g',0,none⟩) (s.names.length+1) cap'])
  (hoth:∀ g,g≠Eb→Wf.heap[g]? =w2.heap[g]?) (hos:Wf.os=w2.os) (htape:Wf.tape=w2.tape) (hout:Wf.output=w2.output) (hsz:w2.heap.size≤Wf.heap.size):
  BuB Sx lo Eb Wf {s with names:=s.names++[x]} kv (.slice (some ⟨g',0,none⟩) (s.names.length+1) cap') vs∧FrL P lo Eb W0 Wf∧(∀ g,g<lo→g≠Eb→Wf.heap[g]? =X.heap[g]?):=by
 have hEl:=h.ev.lt
 have hlo:lo≤g':=by
  rcases hat with h1|h1
  ·exact(h.nr.lt _ h1).1
  ·rw[h1];exact hfr.size
 have hgE:g'≠Eb:=by
  rcases hat with h1|h1
  ·exact fun e=>h.nn (e▸h1)
  ·omega
 have hgo:∀ g,g<X.heap.size→nv.ownBlock≠some g→g≠g':=fun g h1 h2 e=>by
  rcases hat with h3|h3
  ·exact h2 (by rw[h3,e])
  ·omega
 have hk:∀ g,g≠Eb→g<X.heap.size→nv.ownBlock≠some g→Wf.heap[g]? =X.heap[g]? :=fun g h1 h2 h3=>(hoth g h1).trans (hgrow.block g h2 fun e=>h3 e.symm)
 have hS2:∀ (x:Ex) (c:List Value),ExA X (fun g=>(Sx g∨lo≤g)∧g≠Eb∧kv.ownBlock≠some g∧nv.ownBlock≠some g) x c→ExA Wf (fun g=>(Sx g∨lo≤g)∧g≠Eb∧kv.ownBlock≠some g∧(Value.slice (some ⟨g',0,none⟩) (s.names.length+1) cap').ownBlock≠some g) x c:=fun x c hx=>hx.keep (fun g hg hg2=>hk g hg.2.1 hg2 hg.2.2.2) (fun g hg hg2=>⟨hg.1,hg.2.1,hg.2.2.1,fun e=>by
  have e2:g'=g:=by simpa[Value.ownBlock]using e
  exact hgo g hg2 hg.2.2.2 e2.symm⟩)
 have hkn:∀ g,g<lo→nv.ownBlock≠some g:=fun g hg e=>by have:=(h.nr.lt _ e).1;omega
 refine⟨⟨hev,?_,?_,?_,h.nk,?_,?_⟩,⟨hos.trans (hgrow.os.trans hfr.os),htape.trans (hgrow.tape.trans hfr.tape),hout.trans (hgrow.output.trans hfr.output),Nat.le_trans hfr.size (Nat.le_trans hgrow.size hsz),fun g h1 h2 h3=>(hk g h3 (Nat.lt_of_lt_of_le h1 hfr.size) (hkn g h1)).trans (hfr.blk g h1 h2 h3)⟩,fun g h1 h2=>hk g h2 (Nat.lt_of_lt_of_le h1 hfr.size) (hkn g h1)⟩
 ·exact own_heap h.kr fun g hg=>hk g (fun e=>h.nk (e▸hg)) (h.kr.lt g hg).2 (fun e=>h.ne g hg e)
 ·simpa using hrow
 ·intro g hg e
  have e2:g'=g:=by simpa[Value.ownBlock]using e
  subst e2
  rcases hat with h1|h1
  ·exact h.ne _ hg h1
  ·have:=(h.kr.lt _ hg).2;omega
 ·intro e
  have e2:g'=Eb:=by simpa[Value.ownBlock]using e
  exact hgE e2
 ·exact h.fa.mono fun _ _ f=>hS2 _ _ f
theorem seesW {P T:Nat}{w:World}{p:Ps}(h:PsA P T w p)(x:List UInt8):
  Calls Tryz.prog 215 #[pt P,.slice (some ⟨w.heap.size,0,none⟩) 1 1] (w.alloc (.cells #[.string (mkB x)] 9)) fun e w'=>e= .returned (.bool (p.sees [x]))∧KP P w w'∧PsA P T w' p:=by
 have h2:=h.up (alB w (.cells #[.string (mkB x)] 9))
 refine(seesSign_any h2 (SgA.new P w [x] (by simp) h.lt)).mono ?_
 rintro e w' ⟨a,b⟩
 exact⟨a,(KP.al P w _).trans (KP.of_below b),h2.up b⟩
theorem pA {α:Type}{l:List α}{i:Nat}{a:α}:l.toArray.setIfInBounds i a=(l.set i a).toArray:=by simp
theorem pB {α:Type}{a b:α}{l:List α}:(a::l).set 0 b=b::l:=rfl
theorem pC {α:Type}{a b:α}{l:List α}{n:Nat}:(a::l).set (n+1) b=a::l.set n b:=rfl
theorem pD {α:Type}{l:List α}{i:Nat}(h:i<l.toArray.size):l.toArray[i]=l[i]'(by simpa using h):=by simp
theorem pE {α:Type}{a:α}{l:List α}(h:0<(a::l).length):(a::l)[0]=a:=rfl
theorem pF {α:Type}{a:α}{l:List α}{i:Nat}(h:i+1<(a::l).length):(a::l)[i+1]=l[i]'(Nat.lt_of_succ_lt_succ h):=rfl
def opsR:Code→Array Oper
 | .region _ ops _=>ops
 |_=>#[]
theorem tK {P:Program}{md:Region.Mode}{ops:Array Oper}{Q:Exit→Act→World→Prop}{S:World→Prop}{i:Nat}{oi:Oper}{v:Value}{fuel:Nat}{listed:Array Bool}{a:Act}{w:World}(hi:ops[i]? =some oi)
  (hz:(Region.noSelect ops&&(Region.free md ops listed i&&(Region.ready md ops listed).contains i))=true) (hQ:∀ c (a a':Act) w,a.defers=a'.defers→Q (.panic c) a w→Q (.panic c) a' w) (hy:YieldsIf P ops S oi v a) (hS:S w)
  (h:wpAnyH P md ops Q S fuel (listed.setIfInBounds i true) (a.put oi.dst v) w):wpAnyH P md ops Q S (fuel+1) listed a w:=by
 obtain⟨h1,h2⟩:=(Bool.and_eq_true _ _).mp hz
 obtain⟨h3,h4⟩:=(Bool.and_eq_true _ _).mp h2
 exact wpAnyH_take hi h1 h3 h4 (fun c a w hq=>hQ c _ _ w (by unfold Act.put;split<;>rfl) hq) hy hS h
end Go.Proofs.YthfgpkdbclogpaaGreatDoor
namespace Go.Proofs.YthfgpkdbclogpaaGreatDoor
open Go.RowKit Go.Shelf
attribute [local go_sem ↓] fld0 fld1 fld2 fld3
theorem SgA.of_own {P B:Nat}{w:World}{v:Value}{l:List (List UInt8)}(h:w.ownsRow B 9 1 v l.length (l.map sv))(hP:P<B)(hl:l.length≤1000000):SgA P w v l:=by
 rcases h.2 with⟨rfl,h0⟩|⟨g,cap,cur,rfl,hB,hg,h1,h2,h3,h4⟩
 ·have hn:l.length=0:=by simpa using h0
  exact⟨none,0,by rw[hn],hl,fun h=>by omega⟩
 ·refine⟨some ⟨g,0,none⟩,cap,rfl,hl,fun _=>⟨g,rfl,(Array.getElem?_eq_some_iff.1 hg).1,by omega,fun j hj=>?_⟩⟩
  rw[Lib.cell_of_heap hg]
  have e1:(cur.toList.take (l.length*1))[j]? =(l.map sv)[j]? :=by rw[h4]
  rw[List.getElem?_take]at e1
  simp only[Nat.mul_one,hj,if_true]at e1
  rw[←Array.getElem?_toList,e1]
  simp[sv,hj]
theorem takeNew_any {P T:Nat}{w:World}{p:Ps}(h:PsA P T w p){v:Value}{l:List (List UInt8)}(hs:SgA P w v l){z:Except Ft (List UInt8×Ps)}(hz:tkN l p=some z):
  Calls Tryz.prog 253 #[pt P,v] w (PoA P T (fun _ x r=>r= .string (mkB x)) w z):=by
 have hPl:=h.lt
 have hTl:=h.ltT
 have HN:Hid (Calls Tryz.prog 245 #[pt P] w fun e w'=>e= .returned (.agg #[.int .i64 p.nx.kind,.string (mkB p.nx.text),.int .i64 p.nx.num,.int .i64 p.nx.pos])∧Below w.heap.size w w'):=next_any h
 have H:Hid (∀ w',KP P w w'→PsA P T w' p→SgA P w' v l):=fun w' hk _=>hs.keep hk
 have HP:Hid (PsA P T w p):=h
 unfold tkN at hz
 obtain⟨t,ht⟩:∃ t,t=p.nx:=⟨_,rfl⟩
 have HT:Hid (t=p.nx):=ht
 rw[←ht]at HN hz
 clear ht h hs
 have hq:(((t.kind:Nat):Int)==(1:Int))=(t.kind==1):=by rw[Bool.eq_iff_iff];simp;omega
 cases hk:t.kind==1 with
 |false=>
  rw[hk]at hq
  simp only[hk,Bool.false_and,cond_false]at hz
  have hne:¬((t.kind:Nat):Int)=1:=by simpa using hq
  go_enter Tryz.func253,Tryz.ntmps253
  go_wp2_with fail
  refine HN.out.mono ?_
  rintro e w1 ⟨rfl,hb1⟩
  have hb2:Below w.heap.size w (w1.alloc (.cells #[.int .i64 t.kind,.string (mkB t.text),.int .i64 t.num,.int .i64 t.pos] 255)):=hb1.alloc hb1.size _
  have h2:=HP.out.up hb2
  have hk2:=KP.of_below (P:=P) hb2
  have HG:=giveUpIf_any h2 false 6
  clear hb1 hb2 HN
  go_wp2_with fail
  refine HG.mono ?_
  rintro e w2 ⟨he,hb2⟩
  simp only[cond_false]at he
  subst he
  have h3:=h2.up hb2
  have hk3:=hk2.trans (KP.of_below (P:=P) hb2)
  clear h2 hk2 hb2 HG
  rcases bnd_some hz with⟨x,hx,rfl⟩|⟨u,q,hx,hq⟩
  ·have HTk:=take2_any h3 1 (by decide) hx
   go_wp2_with fail
   refine HTk.mono ?_
   rintro e4 w4 hpo
   obtain⟨rfl,hk4⟩:=bad_panic hpo hk3
   exact⟨rfl,rfl,hk4⟩
  ·have HTk:=take2_any h3 1 (by decide) hx
   cases hq
   go_wp2_with fail
   refine HTk.mono ?_
   rintro e4 w4 ⟨v4,rfl,rfl,hp4,hk4⟩
   have hk5:=hk3.trans hk4
   clear hk3 hk4 HTk h3 hx hz
   go_wp2
   go_ret
   exact⟨_,rfl,rfl,hp4,hk5⟩
 |true=>
  rw[hk]at hq
  have heq:((t.kind:Nat):Int)=1:=by simpa using hq
  rw[heq]at HN
  clear heq hq
  go_enter Tryz.func253,Tryz.ntmps253
  go_wp2_with fail
  refine HN.out.mono ?_
  rintro e w1 ⟨rfl,hb1⟩
  have hb2:Below w.heap.size w (w1.alloc (.cells #[.int .i64 1,.string (mkB t.text),.int .i64 t.num,.int .i64 t.pos] 255)):=hb1.alloc hb1.size _
  have h2:=HP.out.up hb2
  have hk2:=KP.of_below (P:=P) hb2
  have HC:=containsT_any (H.out _ hk2 h2) t.text
  clear hb1 hb2 HN
  cases hc:l.contains t.text with
  |true=>
   rw[hc]at HC
   simp only[hk,hc,Bool.and_self,cond_true]at hz
   cases hz
   have HG:=giveUpIf_any h2 true 6
   go_wp2_with (first
    |(go_at_call 97;refine HC.mono ?_;rintro e w3 ⟨rfl,hw3⟩;subst w3)
    |fail)
   refine HG.mono ?_
   rintro e w4 ⟨he,hb4⟩
   simp only[cond_true]at he
   subst he
   exact⟨rfl,rfl,hk2.trans (KP.of_below hb4)⟩
  |false=>
   rw[hc]at HC
   simp only[hk,hc,Bool.and_false,cond_false]at hz
   have HG:=giveUpIf_any h2 false 6
   go_wp2_with (first
    |(go_at_call 97;refine HC.mono ?_;rintro e w3 ⟨rfl,hw3⟩;subst w3)
    |fail)
   refine HG.mono ?_
   rintro e w2 ⟨he,hb2⟩
   simp only[cond_false]at he
   subst he
   have h3:=h2.up hb2
   have hk3:=hk2.trans (KP.of_below (P:=P) hb2)
   clear h2 hk2 hb2 HG
   rcases bnd_some hz with⟨x,hx,rfl⟩|⟨u,q,hx,hq⟩
   ·have HTk:=take2_any h3 1 (by decide) hx
    go_wp2_with fail
    refine HTk.mono ?_
    rintro e4 w4 hpo
    obtain⟨rfl,hk4⟩:=bad_panic hpo hk3
    exact⟨rfl,rfl,hk4⟩
   ·have HTk:=take2_any h3 1 (by decide) hx
    cases hq
    go_wp2_with fail
    refine HTk.mono ?_
    rintro e4 w4 ⟨v4,rfl,rfl,hp4,hk4⟩
    have hk5:=hk3.trans hk4
    clear hk3 hk4 HTk h3 hx hz
    go_wp2
    go_ret
    exact⟨_,rfl,rfl,hp4,hk5⟩
end Go.Proofs.YthfgpkdbclogpaaGreatDoor
