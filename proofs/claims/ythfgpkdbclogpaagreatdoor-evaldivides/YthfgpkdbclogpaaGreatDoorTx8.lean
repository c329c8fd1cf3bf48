/- 8. -/
import Derived.Test.YthfgpkdbclogpaaGreatDoorTx6
import Derived.Test.YthfgpkdbclogpaaGreatDoorTx7
set_option maxHeartbeats 40000000
set_option maxRecDepth 100000
namespace Go.Proofs.YthfgpkdbclogpaaGreatDoor
open Go.RowKit Go.Shelf
theorem tail_facts {B P:Nat}{L:List UInt8}{tv iv:Value}{w:World}{p:Sp}(h:TS B P L tv iv w p)(t:Tk):
  ((w.alloc (.cells #[.int .i64 t.kind,.string (mkB t.text),.int .i64 t.num,.int .i64 t.pos] 255)).drew).ownsRow B 255 4 tv p.toks.length (tcs p.toks)∧
  (∀ (j:Nat) (u:Value),(tc t)[j]? =some u→((w.alloc (.cells #[.int .i64 t.kind,.string (mkB t.text),.int .i64 t.num,.int .i64 t.pos] 255)).drew).cell? ((⟨w.heap.size,0,none⟩:Addr).add j)=some u)∧
  (∀ {w1 w':World} {g1 cap1:Nat},w1.ownsRow B 255 4 (.slice (some ⟨g1,0,none⟩) (p.toks.length+1) cap1) (p.toks.length+1) (tcs p.toks++tc t)→((w.alloc (.cells #[.int .i64 t.kind,.string (mkB t.text),.int .i64 t.num,.int .i64 t.pos] 255)).drew).grownBy w1 tv.ownBlock→(tv.ownBlock=some g1∨g1=w.heap.size+1)→(∀ g:Nat,w'.heap[g]? =(w1.setCell ⟨P,2,none⟩ (.slice (some ⟨g1,0,none⟩) (p.toks.length+1) cap1)).heap[g]?)→TS B P L (.slice (some ⟨g1,0,none⟩) (p.toks.length+1) cap1) iv w' {p with toks:=p.toks++[t]})∧
  (∀ {w1:World},((w.alloc (.cells #[.int .i64 t.kind,.string (mkB t.text),.int .i64 t.num,.int .i64 t.pos] 255)).drew).grownBy w1 tv.ownBlock→w1.cell? ⟨P,2,none⟩=some tv∧w1.frozen? ⟨P,2,none⟩=false∧Below B w w1)∧
  B≤((w.alloc (.cells #[.int .i64 t.kind,.string (mkB t.text),.int .i64 t.num,.int .i64 t.pos] 255)).drew).heap.size∧((w.alloc (.cells #[.int .i64 t.kind,.string (mkB t.text),.int .i64 t.num,.int .i64 t.pos] 255)).drew).heap.size=w.heap.size+1:=by
 have hPl:=h.lt
 have hBl:B≤w.heap.size:=by have:=h.hB;omega
 have q4:((w.alloc (.cells #[.int .i64 t.kind,.string (mkB t.text),.int .i64 t.num,.int .i64 t.pos] 255)).drew).heap.size=w.heap.size+1:=by show(w.alloc _).heap.size=_;rw[World.size_alloc]
 have q3:B≤((w.alloc (.cells #[.int .i64 t.kind,.string (mkB t.text),.int .i64 t.num,.int .i64 t.pos] 255)).drew).heap.size:=by rw[q4];omega
 refine⟨h.ot.alloc _,new_tok w t,?_,?_,q3,q4⟩
 ·intro w1 w' g1 cap1 a1 a2 a3 a4
  exact h.put t (W:=(w.alloc _).drew) (fun g hg=>heap_al w _ g hg) (by rw[q4];omega) a1 a2 (by rw[q4];exact a3) a4
 ·intro w1 hg
  have e1:w1.heap[P]? =w.heap[P]? :=(hg.block P (by rw[q4];omega) (fun e=>h.nt e.symm)).trans (heap_al w _ P hPl)
  exact⟨by rw[Lib.cell_of_heap (e1.trans h.blk)];rfl,Lib.frozen_of_heap (e1.trans h.blk) 2,(((Below.refl B w).alloc hBl _).drew).grown hg q3 (fun j hj=>(h.ot.lt j hj).1)⟩
def StP (B P:Nat)(L:List UInt8)(w:World)(r:Except Ft Sp)(e:Ending)(w':World):Prop:=
 (∀ k y,r= .error (k,y)→e=PF k y)∧(∀ q,r= .ok q→e= .returned (.tuple #[])∧∃ tv iv,TS B P L tv iv w' q)∧Below B w w'
theorem beg_sign (r:List UInt8)(h:beg r=true)(h1:¬(r.getD 0 0).toNat=34)(h2:isDg (r.getD 0 0)=false)(h3:isLt (r.getD 0 0)=false):0<sgn r:=by
 unfold beg at h
 rw[h2,h3]at h
 simp at h
 rcases h with h|h
 ·exact absurd h h1
 ·exact h
def txtTok (p:Sp):Except Nat (List UInt8×Nat)→Except Ft Sp
 | .error x=>.error (1,x)
 | .ok (t,x)=>.ok {p with pos:=x,toks:=p.toks++[⟨3,t,0,p.pos⟩]}
theorem tk_set {B P T:Nat}{L:List UInt8}{tv iv:Value}{w w2:World}{p:Sp}{n x:Int}{k0:Int}{t0:ByteArray}(hPT:P<T∧B≤P∧B≤T)(h:TS B P L tv iv w2 p∧Below B w w2∧w2.heap[T]? =some (.cells #[.int .i64 k0,.string t0,.int .i64 n,.int .i64 x] 255 (0,0)))(hn:tv.ownBlock≠some T∧iv.ownBlock≠some T)(k:Int)(t:ByteArray):
  TS B P L tv iv ((w2.setCell ⟨T,0,none⟩ (.int .i64 k)).setCell ⟨T,1,none⟩ (.string t)) p∧Below B w ((w2.setCell ⟨T,0,none⟩ (.int .i64 k)).setCell ⟨T,1,none⟩ (.string t))∧((w2.setCell ⟨T,0,none⟩ (.int .i64 k)).setCell ⟨T,1,none⟩ (.string t)).heap[T]? =some (.cells #[.int .i64 k,.string t,.int .i64 n,.int .i64 x] 255 (0,0)):=by
 have k1:∀ g:Nat,g≠T→((w2.setCell ⟨T,0,none⟩ (.int .i64 k)).setCell ⟨T,1,none⟩ (.string t)).heap[g]? =w2.heap[g]? :=fun g hg=>(Below.heap_setCell _ ⟨T,1,none⟩ _ g hg).trans (Below.heap_setCell _ ⟨T,0,none⟩ _ g hg)
 refine⟨⟨h.1.hB,(k1 P (by omega)).trans h.1.blk,own_heap h.1.ot fun g hg=>k1 g fun e=>hn.1 (by rw[hg,e]),own_heap h.1.oi fun g hg=>k1 g fun e=>hn.2 (by rw[hg,e]),h.1.nt,h.1.ni,h.1.nn⟩,(h.2.1.setCell (p:=⟨T,0,none⟩) hPT.2.2 _).setCell (p:=⟨T,1,none⟩) hPT.2.2 _,?_⟩
 rw[Go.Joins.block_setCell (Go.Joins.block_setCell h.2.2 _)]
 rfl
theorem tk_num {B P T:Nat}{L:List UInt8}{tv iv:Value}{w w2:World}{p:Sp}{n x:Int}{k0:Int}{t0:ByteArray}(hPT:P<T∧B≤P∧B≤T)(h:TS B P L tv iv w2 p∧Below B w w2∧w2.heap[T]? =some (.cells #[.int .i64 k0,.string t0,.int .i64 n,.int .i64 x] 255 (0,0)))(hn:tv.ownBlock≠some T∧iv.ownBlock≠some T)(v:Int):
  TS B P L tv iv (w2.setCell ⟨T,2,none⟩ (.int .i64 v)) p∧Below B w (w2.setCell ⟨T,2,none⟩ (.int .i64 v))∧(w2.setCell ⟨T,2,none⟩ (.int .i64 v)).heap[T]? =some (.cells #[.int .i64 k0,.string t0,.int .i64 v,.int .i64 x] 255 (0,0)):=by
 have k1:∀ g:Nat,g≠T→(w2.setCell ⟨T,2,none⟩ (.int .i64 v)).heap[g]? =w2.heap[g]? :=fun g hg=>Below.heap_setCell _ ⟨T,2,none⟩ _ g hg
 refine⟨⟨h.1.hB,(k1 P (by omega)).trans h.1.blk,own_heap h.1.ot fun g hg=>k1 g fun e=>hn.1 (by rw[hg,e]),own_heap h.1.oi fun g hg=>k1 g fun e=>hn.2 (by rw[hg,e]),h.1.nt,h.1.ni,h.1.nn⟩,h.2.1.setCell (p:=⟨T,2,none⟩) hPT.2.2 _,?_⟩
 rw[Go.Joins.block_setCell h.2.2]
 rfl
theorem tk_kind {B P T:Nat}{L:List UInt8}{tv iv:Value}{w w2:World}{p:Sp}{n x:Int}{k0:Int}{t0:ByteArray}(hPT:P<T∧B≤P∧B≤T)(h:TS B P L tv iv w2 p∧Below B w w2∧w2.heap[T]? =some (.cells #[.int .i64 k0,.string t0,.int .i64 n,.int .i64 x] 255 (0,0)))(hn:tv.ownBlock≠some T∧iv.ownBlock≠some T)(v:Int):
  TS B P L tv iv (w2.setCell ⟨T,0,none⟩ (.int .i64 v)) p∧Below B w (w2.setCell ⟨T,0,none⟩ (.int .i64 v))∧(w2.setCell ⟨T,0,none⟩ (.int .i64 v)).heap[T]? =some (.cells #[.int .i64 v,.string t0,.int .i64 n,.int .i64 x] 255 (0,0)):=by
 have k1:∀ g:Nat,g≠T→(w2.setCell ⟨T,0,none⟩ (.int .i64 v)).heap[g]? =w2.heap[g]? :=fun g hg=>Below.heap_setCell _ ⟨T,0,none⟩ _ g hg
 refine⟨⟨h.1.hB,(k1 P (by omega)).trans h.1.blk,own_heap h.1.ot fun g hg=>k1 g fun e=>hn.1 (by rw[hg,e]),own_heap h.1.oi fun g hg=>k1 g fun e=>hn.2 (by rw[hg,e]),h.1.nt,h.1.ni,h.1.nn⟩,h.2.1.setCell (p:=⟨T,0,none⟩) hPT.2.2 _,?_⟩
 rw[Go.Joins.block_setCell h.2.2]
 rfl
theorem token_any {B P:Nat}{L:List UInt8}{tv iv:Value}{w:World}{p:Sp}(h:TS B P L tv iv w p)(hL:L.length≤6000)(hp:p.pos<L.length)(hk:p.toks.length≤90000)(ho:p.opn≤1000)
  (hbg:beg (L.drop p.pos)=true) (hni:isDg (L.getD p.pos 0)=true→noInt (L.drop p.pos)=false) (hcl:isCls (L.getD p.pos 0)=true→0<p.opn):
  Calls Tryz.prog 240 #[.pointer (some ⟨P,0,none⟩)] w fun e w'=>StP B P L w (tok1 L p) e w':=by
 have hBl:B≤w.heap.size:=by have:=h.hB;have:=h.lt;omega
 obtain⟨T,hT⟩:∃ T,T=w.heap.size:=⟨_,rfl⟩
 have HPT:Hid (P<T∧B≤P∧B≤T):=by rw[hT];exact⟨h.lt,h.hB,hBl⟩
 have HNT:Hid (tv.ownBlock≠some T∧iv.ownBlock≠some T):=by
  rw[hT]
  exact⟨fun e=>by have:=(h.ot.lt _ e).2;omega,fun e=>by have:=(h.oi.lt _ e).2;omega⟩
 have c0:=h.c0
 have c1:=h.c1
 have hsz:=mk_size L
 have hs0:p.pos<(mkB L).size:=by rw[hsz];exact hp
 have hg:=mk_get L p.pos hs0
 have hpi:(p.pos:Int)<(L.length:Int):=by omega
 have hq:=c_eq (L.getD p.pos 0) 34
 have hq':(((L.getD p.pos 0).toNat:Int)==34)=decide ((L.getD p.pos 0).toNat=34):=hq
 have hTw:w.heap.size=T:=hT.symm
 have H:Hid (TS B P L tv iv w p):=h
 clear hT h hq
 have HW0:Hid (TS B P L tv iv (w.alloc (.cells #[.int .i64 0,.string ⟨#[]⟩,.int .i64 0,.int .i64 (p.pos:Int)] 255)) p∧Below B w (w.alloc (.cells #[.int .i64 0,.string ⟨#[]⟩,.int .i64 0,.int .i64 (p.pos:Int)] 255))∧(w.alloc (.cells #[.int .i64 0,.string ⟨#[]⟩,.int .i64 0,.int .i64 (p.pos:Int)] 255)).heap[T]? =some (.cells #[.int .i64 0,.string ⟨#[]⟩,.int .i64 0,.int .i64 (p.pos:Int)] 255 (0,0))):=⟨H.out.up ((Below.refl _ _).alloc (Nat.le_refl _) _),(Below.refl _ _).alloc hBl _,by rw[←hTw];exact heap_alloc_new w _⟩
 have HRV:Hid (tok1 L p=if(L.getD p.pos 0).toNat=34 then(match txt ((L.drop p.pos).length+1) ((L.drop p.pos).drop 1) [] (p.pos+1)with| .error x=>.error (1,x)| .ok (t,x)=>.ok {p with pos:=x,toks:=p.toks++[⟨3,t,0,p.pos⟩]})else if isDg (L.getD p.pos 0)then .ok {p with pos:=p.pos+rch isDg (L.drop p.pos),toks:=p.toks++[⟨2,(L.drop p.pos).take (rch isDg (L.drop p.pos)),valD 0 ((L.drop p.pos).take (rch isDg (L.drop p.pos))),p.pos⟩]}else if isLt (L.getD p.pos 0)then .ok {p with pos:=p.pos+rch isNm (L.drop p.pos),toks:=p.toks++[⟨bif isWd ((L.drop p.pos).take (rch isNm (L.drop p.pos)))then 5 else 1,(L.drop p.pos).take (rch isNm (L.drop p.pos)),0,p.pos⟩]}else .ok {p with pos:=p.pos+sgn (L.drop p.pos),toks:=p.toks++[⟨4,(L.drop p.pos).take (sgn (L.drop p.pos)),0,p.pos⟩],opn:=if isOpn (L.getD p.pos 0)then p.opn+1 else if isCls (L.getD p.pos 0)then p.opn-1 else p.opn}):=by
  unfold tok1
  simp only[at_drop]
  rfl
 have HW0:Hid (TS B P L tv iv (w.alloc (.cells #[.int .i64 0,.string ⟨#[]⟩,.int .i64 0,.int .i64 (p.pos:Int)] 255)) p∧Below B w (w.alloc (.cells #[.int .i64 0,.string ⟨#[]⟩,.int .i64 0,.int .i64 (p.pos:Int)] 255))∧(w.alloc (.cells #[.int .i64 0,.string ⟨#[]⟩,.int .i64 0,.int .i64 (p.pos:Int)] 255)).heap[T]? =some (.cells #[.int .i64 0,.string ⟨#[]⟩,.int .i64 0,.int .i64 (p.pos:Int)] 255 (0,0))):=⟨H.out.up ((Below.refl _ _).alloc (Nat.le_refl _) _),(Below.refl _ _).alloc hBl _,by rw[←hTw];exact heap_alloc_new w _⟩
 have HRV:Hid (tok1 L p=if(L.getD p.pos 0).toNat=34 then(match txt ((L.drop p.pos).length+1) ((L.drop p.pos).drop 1) [] (p.pos+1)with| .error x=>.error (1,x)| .ok (t,x)=>.ok {p with pos:=x,toks:=p.toks++[⟨3,t,0,p.pos⟩]})else if isDg (L.getD p.pos 0)then .ok {p with pos:=p.pos+rch isDg (L.drop p.pos),toks:=p.toks++[⟨2,(L.drop p.pos).take (rch isDg (L.drop p.pos)),valD 0 ((L.drop p.pos).take (rch isDg (L.drop p.pos))),p.pos⟩]}else if isLt (L.getD p.pos 0)then .ok {p with pos:=p.pos+rch isNm (L.drop p.pos),toks:=p.toks++[⟨bif isWd ((L.drop p.pos).take (rch isNm (L.drop p.pos)))then 5 else 1,(L.drop p.pos).take (rch isNm (L.drop p.pos)),0,p.pos⟩]}else .ok {p with pos:=p.pos+sgn (L.drop p.pos),toks:=p.toks++[⟨4,(L.drop p.pos).take (sgn (L.drop p.pos)),0,p.pos⟩],opn:=if isOpn (L.getD p.pos 0)then p.opn+1 else if isCls (L.getD p.pos 0)then p.opn-1 else p.opn}):=by
  unfold tok1
  simp only[at_drop]
  rfl
 have HW0:Hid (TS B P L tv iv (w.alloc (.cells #[.int .i64 0,.string ⟨#[]⟩,.int .i64 0,.int .i64 (p.pos:Int)] 255)) p∧Below B w (w.alloc (.cells #[.int .i64 0,.string ⟨#[]⟩,.int .i64 0,.int .i64 (p.pos:Int)] 255))∧(w.alloc (.cells #[.int .i64 0,.string ⟨#[]⟩,.int .i64 0,.int .i64 (p.pos:Int)] 255)).heap[T]? =some (.cells #[.int .i64 0,.string ⟨#[]⟩,.int .i64 0,.int .i64 (p.pos:Int)] 255 (0,0))):=⟨H.out.up ((Below.refl _ _).alloc (Nat.le_refl _) _),(Below.refl _ _).alloc hBl _,by rw[←hTw];exact heap_alloc_new w _⟩
 have HRV:Hid (tok1 L p=if(L.getD p.pos 0).toNat=34 then(match txt ((L.drop p.pos).length+1) ((L.drop p.pos).drop 1) [] (p.pos+1)with| .error x=>.error (1,x)| .ok (t,x)=>.ok {p with pos:=x,toks:=p.toks++[⟨3,t,0,p.pos⟩]})else if isDg (L.getD p.pos 0)then .ok {p with pos:=p.pos+rch isDg (L.drop p.pos),toks:=p.toks++[⟨2,(L.drop p.pos).take (rch isDg (L.drop p.pos)),valD 0 ((L.drop p.pos).take (rch isDg (L.drop p.pos))),p.pos⟩]}else if isLt (L.getD p.pos 0)then .ok {p with pos:=p.pos+rch isNm (L.drop p.pos),toks:=p.toks++[⟨bif isWd ((L.drop p.pos).take (rch isNm (L.drop p.pos)))then 5 else 1,(L.drop p.pos).take (rch isNm (L.drop p.pos)),0,p.pos⟩]}else .ok {p with pos:=p.pos+sgn (L.drop p.pos),toks:=p.toks++[⟨4,(L.drop p.pos).take (sgn (L.drop p.pos)),0,p.pos⟩],opn:=if isOpn (L.getD p.pos 0)then p.opn+1 else if isCls (L.getD p.pos 0)then p.opn-1 else p.opn}):=by
  unfold tok1
  simp only[at_drop]
  rfl
 have HW0:Hid (TS B P L tv iv (w.alloc (.cells #[.int .i64 0,.string ⟨#[]⟩,.int .i64 0,.int .i64 (p.pos:Int)] 255)) p∧Below B w (w.alloc (.cells #[.int .i64 0,.string ⟨#[]⟩,.int .i64 0,.int .i64 (p.pos:Int)] 255))∧(w.alloc (.cells #[.int .i64 0,.string ⟨#[]⟩,.int .i64 0,.int .i64 (p.pos:Int)] 255)).heap[T]? =some (.cells #[.int .i64 0,.string ⟨#[]⟩,.int .i64 0,.int .i64 (p.pos:Int)] 255 (0,0))):=⟨H.out.up ((Below.refl _ _).alloc (Nat.le_refl _) _),(Below.refl _ _).alloc hBl _,by rw[←hTw];exact heap_alloc_new w _⟩
 have HRV:Hid (tok1 L p=if(L.getD p.pos 0).toNat=34 then(match txt ((L.drop p.pos).length+1) ((L.drop p.pos).drop 1) [] (p.pos+1)with| .error x=>.error (1,x)| .ok (t,x)=>.ok {p with pos:=x,toks:=p.toks++[⟨3,t,0,p.pos⟩]})else if isDg (L.getD p.pos 0)then .ok {p with pos:=p.pos+rch isDg (L.drop p.pos),toks:=p.toks++[⟨2,(L.drop p.pos).take (rch isDg (L.drop p.pos)),valD 0 ((L.drop p.pos).take (rch isDg (L.drop p.pos))),p.pos⟩]}else if isLt (L.getD p.pos 0)then .ok {p with pos:=p.pos+rch isNm (L.drop p.pos),toks:=p.toks++[⟨bif isWd ((L.drop p.pos).take (rch isNm (L.drop p.pos)))then 5 else 1,(L.drop p.pos).take (rch isNm (L.drop p.pos)),0,p.pos⟩]}else .ok {p with pos:=p.pos+sgn (L.drop p.pos),toks:=p.toks++[⟨4,(L.drop p.pos).take (sgn (L.drop p.pos)),0,p.pos⟩],opn:=if isOpn (L.getD p.pos 0)then p.opn+1 else if isCls (L.getD p.pos 0)then p.opn-1 else p.opn}):=by
  unfold tok1
  simp only[at_drop]
  rfl
 have HW0:Hid (TS B P L tv iv (w.alloc (.cells #[.int .i64 0,.string ⟨#[]⟩,.int .i64 0,.int .i64 (p.pos:Int)] 255)) p∧Below B w (w.alloc (.cells #[.int .i64 0,.string ⟨#[]⟩,.int .i64 0,.int .i64 (p.pos:Int)] 255))∧(w.alloc (.cells #[.int .i64 0,.string ⟨#[]⟩,.int .i64 0,.int .i64 (p.pos:Int)] 255)).heap[T]? =some (.cells #[.int .i64 0,.string ⟨#[]⟩,.int .i64 0,.int .i64 (p.pos:Int)] 255 (0,0))):=⟨H.out.up ((Below.refl _ _).alloc (Nat.le_refl _) _),(Below.refl _ _).alloc hBl _,by rw[←hTw];exact heap_alloc_new w _⟩
 have HRV:Hid (tok1 L p=if(L.getD p.pos 0).toNat=34 then(match txt ((L.drop p.pos).length+1) ((L.drop p.pos).drop 1) [] (p.pos+1)with| .error x=>.error (1,x)| .ok (t,x)=>.ok {p with pos:=x,toks:=p.toks++[⟨3,t,0,p.pos⟩]})else if isDg (L.getD p.pos 0)then .ok {p with pos:=p.pos+rch isDg (L.drop p.pos),toks:=p.toks++[⟨2,(L.drop p.pos).take (rch isDg (L.drop p.pos)),valD 0 ((L.drop p.pos).take (rch isDg (L.drop p.pos))),p.pos⟩]}else if isLt (L.getD p.pos 0)then .ok {p with pos:=p.pos+rch isNm (L.drop p.pos),toks:=p.toks++[⟨bif isWd ((L.drop p.pos).take (rch isNm (L.drop p.pos)))then 5 else 1,(L.drop p.pos).take (rch isNm (L.drop p.pos)),0,p.pos⟩]}else .ok {p with pos:=p.pos+sgn (L.drop p.pos),toks:=p.toks++[⟨4,(L.drop p.pos).take (sgn (L.drop p.pos)),0,p.pos⟩],opn:=if isOpn (L.getD p.pos 0)then p.opn+1 else if isCls (L.getD p.pos 0)then p.opn-1 else p.opn}):=by
  unfold tok1
  simp only[at_drop]
  rfl
 have HW0:Hid (TS B P L tv iv (w.alloc (.cells #[.int .i64 0,.string ⟨#[]⟩,.int .i64 0,.int .i64 (p.pos:Int)] 255)) p∧Below B w (w.alloc (.cells #[.int .i64 0,.string ⟨#[]⟩,.int .i64 0,.int .i64 (p.pos:Int)] 255))∧(w.alloc (.cells #[.int .i64 0,.string ⟨#[]⟩,.int .i64 0,.int .i64 (p.pos:Int)] 255)).heap[T]? =some (.cells #[.int .i64 0,.string ⟨#[]⟩,.int .i64 0,.int .i64 (p.pos:Int)] 255 (0,0))):=⟨H.out.up ((Below.refl _ _).alloc (Nat.le_refl _) _),(Below.refl _ _).alloc hBl _,by rw[←hTw];exact heap_alloc_new w _⟩
 have HRV:Hid (tok1 L p=if(L.getD p.pos 0).toNat=34 then(match txt ((L.drop p.pos).length+1) ((L.drop p.pos).drop 1) [] (p.pos+1)with| .error x=>.error (1,x)| .ok (t,x)=>.ok {p with pos:=x,toks:=p.toks++[⟨3,t,0,p.pos⟩]})else if isDg (L.getD p.pos 0)then .ok {p with pos:=p.pos+rch isDg (L.drop p.pos),toks:=p.toks++[⟨2,(L.drop p.pos).take (rch isDg (L.drop p.pos)),valD 0 ((L.drop p.pos).take (rch isDg (L.drop p.pos))),p.pos⟩]}else if isLt (L.getD p.pos 0)then .ok {p with pos:=p.pos+rch isNm (L.drop p.pos),toks:=p.toks++[⟨bif isWd ((L.drop p.pos).take (rch isNm (L.drop p.pos)))then 5 else 1,(L.drop p.pos).take (rch isNm (L.drop p.pos)),0,p.pos⟩]}else .ok {p with pos:=p.pos+sgn (L.drop p.pos),toks:=p.toks++[⟨4,(L.drop p.pos).take (sgn (L.drop p.pos)),0,p.pos⟩],opn:=if isOpn (L.getD p.pos 0)then p.opn+1 else if isCls (L.getD p.pos 0)then p.opn-1 else p.opn}):=by
  unfold tok1
  simp only[at_drop]
  rfl
 by_cases hc34:(L.getD p.pos 0).toNat=34
 ·rw[show decide ((L.getD p.pos 0).toNat=34)=true from by simpa using hc34]at hq'
  obtain⟨R,hR⟩:∃ R,R=txt ((L.drop p.pos).length+1) ((L.drop p.pos).drop 1) [] (p.pos+1):=⟨_,rfl⟩
  have HR:Hid (tok1 L p=txtTok p R):=by
   show _=_
   rw[HRV.out,if_pos hc34,hR]
   rfl
  clear HRV
  generalize L.getD p.pos 0=c at *
  clear hc34 hbg hni hcl
  go_enter Tryz.func240,Tryz.ntmps240
  go_wp2
  generalize w.alloc (.cells #[.int .i64 0,.string ⟨#[]⟩,.int .i64 0,.int .i64 (p.pos:Int)] 255)=w0 at *
  have c0:=HW0.out.1.c0
  have c1:=HW0.out.1.c1
  go_quiet (fail)
  have HW1:Hid (TS B P L tv iv (w0.drewN nq) p∧Below B w (w0.drewN nq)∧(w0.drewN nq).heap[T]? =some (.cells #[.int .i64 0,.string ⟨#[]⟩,.int .i64 0,.int .i64 (p.pos:Int)] 255 (0,0))):=⟨HW0.out.1.drewN nq,below_drewN HW0.out.2.1 nq,HW0.out.2.2⟩
  generalize w0.drewN nq=w1 at *
  clear c0 c1 HW0
  have HTx:Hid (Calls Tryz.prog 276 #[.pointer (some ⟨P,0,none⟩)] w1 fun e w'=>TxtP B P L tv iv w1 p R e w'):=by rw[hR];exact text_any HW1.out.1 hL hp
  clear hR
  cases R with
  |error y=>
   have HRe:Hid (tok1 L p= .error (1,y)):=HR.out
   go_wp2_with fail
   refine HTx.out.mono ?_
   rintro e w2 ⟨h1,-,hb2,-⟩
   obtain rfl:=h1 y rfl
   go_wp2
   refine⟨rfl,fun k z hz=>?_,fun q hq=>?_,HW1.out.2.1.trans hb2⟩
   ·rw[HRe.out]at hz;cases hz;rfl
   ·rw[HRe.out]at hq;cases hq
  |ok pr=>
   obtain⟨tl,y⟩:=pr
   have HRe:Hid (tok1 L p= .ok {p with pos:=y,toks:=p.toks++[⟨3,tl,0,p.pos⟩]}):=HR.out
   go_wp2_with fail
   refine HTx.out.mono ?_
   rintro e w2 ⟨-,h2,hb2,ho2⟩
   obtain⟨rfl,hts2,-⟩:=h2 tl y rfl
   have HW2:Hid (TS B P L tv iv w2 {p with pos:=y}∧Below B w w2∧w2.heap[T]? =some (.cells #[.int .i64 0,.string ⟨#[]⟩,.int .i64 0,.int .i64 (p.pos:Int)] 255 (0,0))):=⟨hts2,HW1.out.2.1.trans hb2,(ho2 T (Array.getElem?_eq_some_iff.1 HW1.out.2.2).1 (by have:=HPT.out.1;omega)).trans HW1.out.2.2⟩
   clear hts2 hb2 ho2 HTx HW1 HR
   have y0:w2.cell? ⟨T,0,none⟩=some (.int .i64 0):=by rw[Lib.cell_of_heap HW2.out.2.2];rfl
   have y1:w2.cell? ⟨T,1,none⟩=some (.string ⟨#[]⟩):=by rw[Lib.cell_of_heap HW2.out.2.2];rfl
   have yf0:w2.frozen? ⟨T,0,none⟩=false:=Lib.frozen_of_heap HW2.out.2.2 0
   have yf1:w2.frozen? ⟨T,1,none⟩=false:=Lib.frozen_of_heap HW2.out.2.2 1
   have HF:Hid (TS B P L tv iv ((w2.setCell ⟨T,0,none⟩ (.int .i64 3)).setCell ⟨T,1,none⟩ (.string (mkB tl))) {p with pos:=y}∧Below B w ((w2.setCell ⟨T,0,none⟩ (.int .i64 3)).setCell ⟨T,1,none⟩ (.string (mkB tl)))∧((w2.setCell ⟨T,0,none⟩ (.int .i64 3)).setCell ⟨T,1,none⟩ (.string (mkB tl))).heap[T]? =some (.cells #[.int .i64 3,.string (mkB tl),.int .i64 0,.int .i64 (p.pos:Int)] 255 (0,0))):=tk_set HPT.out HW2.out HNT.out 3 (mkB tl)
   clear HW2
   go_wp2
   generalize(w2.setCell ⟨T,0,none⟩ (.int .i64 3)).setCell ⟨T,1,none⟩ (.string (mkB tl))=w3 at *
   clear y0 y1 yf0 yf1
   have e2:=HF.out.1.c2
   have z0:w3.cell? ⟨T,0,none⟩=some (.int .i64 3):=by rw[Lib.cell_of_heap HF.out.2.2];rfl
   have z1:w3.cell? ⟨T,1,none⟩=some (.string (mkB tl)):=by rw[Lib.cell_of_heap HF.out.2.2];rfl
   have z2:w3.cell? ⟨T,2,none⟩=some (.int .i64 0):=by rw[Lib.cell_of_heap HF.out.2.2];rfl
   have z3:w3.cell? ⟨T,3,none⟩=some (.int .i64 (p.pos:Int)):=by rw[Lib.cell_of_heap HF.out.2.2];rfl
   have hPW:=HF.out.1.lt
   have hTW:T<w3.heap.size:=(Array.getElem?_eq_some_iff.1 HF.out.2.2).1
   obtain⟨hOW,hNW,hPUT,hP1,q3,q4⟩:=tail_facts HF.out.1 ⟨3,tl,0,p.pos⟩
   have HOW:Hid (((w3.alloc (.cells #[.int .i64 3,.string (mkB tl),.int .i64 0,.int .i64 (p.pos:Int)] 255)).drew).ownsRow B 255 4 tv p.toks.length (tcs p.toks)):=hOW
   have HNW:Hid (∀ (j:Nat) (u:Value),(tc ⟨3,tl,0,p.pos⟩)[j]? =some u→((w3.alloc (.cells #[.int .i64 3,.string (mkB tl),.int .i64 0,.int .i64 (p.pos:Int)] 255)).drew).cell? ((⟨w3.heap.size,0,none⟩:Addr).add j)=some u):=hNW
   have HPUT:Hid (∀ {w8 w9:World} {g1 cap1:Nat},w8.ownsRow B 255 4 (.slice (some ⟨g1,0,none⟩) (p.toks.length+1) cap1) (p.toks.length+1) (tcs p.toks++tc ⟨3,tl,0,p.pos⟩)→((w3.alloc (.cells #[.int .i64 3,.string (mkB tl),.int .i64 0,.int .i64 (p.pos:Int)] 255)).drew).grownBy w8 tv.ownBlock→(tv.ownBlock=some g1∨g1=w3.heap.size+1)→(∀ g:Nat,w9.heap[g]? =(w8.setCell ⟨P,2,none⟩ (.slice (some ⟨g1,0,none⟩) (p.toks.length+1) cap1)).heap[g]?)→TS B P L (.slice (some ⟨g1,0,none⟩) (p.toks.length+1) cap1) iv w9 {{p with pos:=y}with toks:=p.toks++[⟨3,tl,0,p.pos⟩]}):=hPUT
   have HP1:Hid (∀ {w8:World},((w3.alloc (.cells #[.int .i64 3,.string (mkB tl),.int .i64 0,.int .i64 (p.pos:Int)] 255)).drew).grownBy w8 tv.ownBlock→w8.cell? ⟨P,2,none⟩=some tv∧w8.frozen? ⟨P,2,none⟩=false∧Below B w3 w8):=hP1
   have q3':B≤((w3.alloc (.cells #[.int .i64 3,.string (mkB tl),.int .i64 0,.int .i64 (p.pos:Int)] 255)).drew).heap.size:=q3
   have q4':((w3.alloc (.cells #[.int .i64 3,.string (mkB tl),.int .i64 0,.int .i64 (p.pos:Int)] 255)).drew).heap.size=w3.heap.size+1:=q4
   have hone:=tc_one ⟨3,tl,0,p.pos⟩
   have hnl:(tc ⟨3,tl,0,p.pos⟩).length=1*4:=rfl
   obtain⟨i0,hi,hz0,hz1,hz2⟩:=info_p infT
   have q1:p.toks.length+1≤maxLen:=by unfold maxLen;omega
   have q2:(p.toks.length+1)*40≤140737488355328:=by omega
   generalize tc ⟨3,tl,0,p.pos⟩=news at *
   clear hOW hNW hPUT hP1 q3 q4
   go_wp2
   go_region_law (first
     |((refine step_append_lies ((w3.alloc (.cells #[.int .i64 3,.string (mkB tl),.int .i64 0,.int .i64 (p.pos:Int)] 255)).drew) (by rfl) (Operand.tmp 58) (Operand.tmp 60) 155 (by rfl) B 255 i0 (.agg #[.int .i64 0,.string ⟨#[]⟩,.int .i64 0,.int .i64 0]) 4 40 Tryz.underlying155 hi hz0 hz1 hz2 rfl (by decide) tv p.toks.length (tcs p.toks) (by rfl) HOW.out ⟨w3.heap.size,0,none⟩ 1 1 news (by rfl) hnl HNW.out hone (by decide) q1 q2 q3' (w3.heap.size+1) q4' ?_;intro g' cap' w8 hown8 hgrow8 hat8 hltg8;obtain⟨d2,f2,hb8⟩:=HP1.out hgrow8))
     |fail)
   all_goals
    have HG:Hid (TS B P L (.slice (some ⟨g',0,none⟩) (p.toks.length+1) cap') iv (w8.setCell ⟨P,2,none⟩ (.slice (some ⟨g',0,none⟩) (p.toks.length+1) cap')) {{p with pos:=y}with toks:=p.toks++[⟨3,tl,0,p.pos⟩]}∧Below B w (w8.setCell ⟨P,2,none⟩ (.slice (some ⟨g',0,none⟩) (p.toks.length+1) cap'))):=⟨HPUT.out hown8 hgrow8 hat8 (fun g=>rfl),(HF.out.2.1.trans hb8).setCell (p:=⟨P,2,none⟩) HPT.out.2.1 _⟩
    clear hown8 hgrow8 hat8 hb8 hltg8
    go_wp2
    go_end0
    refine⟨fun k z hz=>?_,fun q hq=>?_,HG.out.2⟩
    ·rw[HRe.out]at hz;cases hz
    ·rw[HRe.out]at hq
     cases hq
     exact⟨rfl,_,_,HG.out.1⟩
 ·rw[show decide ((L.getD p.pos 0).toNat=34)=false from by simpa using hc34]at hq'
  have hdl:(L.drop p.pos).length=L.length-p.pos:=List.length_drop
  have hrl:0<(L.drop p.pos).length:=by omega
  cases hd:isDg (L.getD p.pos 0)with
  |true=>
   have HRe:Hid (tok1 L p= .ok {p with pos:=p.pos+rch isDg (L.drop p.pos),toks:=p.toks++[⟨2,(L.drop p.pos).take (rch isDg (L.drop p.pos)),valD 0 ((L.drop p.pos).take (rch isDg (L.drop p.pos))),p.pos⟩]}):=by
    show _=_
    rw[HRV.out,if_neg hc34,if_pos hd]
   have HD1:Hid (∀ W,Calls Tryz.prog 273 #[.int .u8 (L.getD p.pos 0).toNat] W fun e w'=>e= .returned (.bool true)∧w'=W):=fun W=>by rw[←hd];exact isDigit_any _ W
   have HTk:Hid (∀ W,TS B P L tv iv W p→Calls Tryz.prog 266 #[.pointer (some ⟨P,0,none⟩),.func (.func 273) #[] #[]] W fun e w'=>e= .returned (.string (mkB ((L.drop p.pos).take (rch isDg (L.drop p.pos)))))∧TS B P L tv iv w' {p with pos:=p.pos+rch isDg (L.drop p.pos)}∧Below B W w'∧∀ g:Nat,g≠P→w'.heap[g]? =W.heap[g]?):=fun W hW=>take_any hW hL (Nat.le_of_lt hp) _ _ fun W' _=>says_digit W'
   have hv:valD 0 ((L.drop p.pos).take (rch isDg (L.drop p.pos)))≤9007199254740991:=by
    have:=hni hd
    unfold noInt at this
    simp at this
    exact this.1
   have hkl:=rch_le isDg (L.drop p.pos)
   have hk0:0<rch isDg (L.drop p.pos):=rch_pos hrl (by rw[at_drop];exact hd)
   have HAt:Hid (∀ W,Calls Tryz.prog 277 #[.string (mkB ((L.drop p.pos).take (rch isDg (L.drop p.pos))))] W fun e w'=>e= .returned (.tuple #[.int .i64 (valD 0 ((L.drop p.pos).take (rch isDg (L.drop p.pos)))),.nilIface])∧Below W.heap.size W w'):=fun W=>atoi_ok _ W (fun h0=>by have:=congrArg List.length h0;rw[List.length_take,Nat.min_eq_left hkl]at this;simp at this;omega) (take_dig _) (by rw[List.length_take,Nat.min_eq_left hkl];omega) (by omega)
   clear HRV hd hni hbg hcl hc34 hkl hk0 hdl hrl
   generalize L.getD p.pos 0=c at *
   generalize(L.drop p.pos).take (rch isDg (L.drop p.pos))=tl at *
   generalize valD 0 tl=v at *
   generalize p.pos+rch isDg (L.drop p.pos)=y at *
   go_enter Tryz.func240,Tryz.ntmps240
   go_wp2
   generalize w.alloc (.cells #[.int .i64 0,.string ⟨#[]⟩,.int .i64 0,.int .i64 (p.pos:Int)] 255)=w0 at *
   have c0:=HW0.out.1.c0
   have c1:=HW0.out.1.c1
   go_quiet (fail)
   have HW1:Hid (TS B P L tv iv (w0.drewN nq) p∧Below B w (w0.drewN nq)∧(w0.drewN nq).heap[T]? =some (.cells #[.int .i64 0,.string ⟨#[]⟩,.int .i64 0,.int .i64 (p.pos:Int)] 255 (0,0))):=⟨HW0.out.1.drewN nq,below_drewN HW0.out.2.1 nq,HW0.out.2.2⟩
   generalize w0.drewN nq=w1 at *
   clear c0 c1 HW0
   go_wp2_with (first
    |(go_at_call 273;refine(HD1.out _).mono ?_;rintro e w' ⟨rfl,rfl⟩)
    |fail)
   refine(HTk.out _ HW1.out.1).mono ?_
   rintro e w2 ⟨rfl,hts2,hb2,ho2⟩
   have HW2:Hid (TS B P L tv iv w2 {p with pos:=y}∧Below B w w2∧w2.heap[T]? =some (.cells #[.int .i64 0,.string ⟨#[]⟩,.int .i64 0,.int .i64 (p.pos:Int)] 255 (0,0))):=⟨hts2,HW1.out.2.1.trans hb2,(ho2 T (by have:=HPT.out.1;omega)).trans HW1.out.2.2⟩
   clear hts2 hb2 ho2 HTk HW1 HD1
   have y0:w2.cell? ⟨T,0,none⟩=some (.int .i64 0):=by rw[Lib.cell_of_heap HW2.out.2.2];rfl
   have y1:w2.cell? ⟨T,1,none⟩=some (.string ⟨#[]⟩):=by rw[Lib.cell_of_heap HW2.out.2.2];rfl
   have yf0:w2.frozen? ⟨T,0,none⟩=false:=Lib.frozen_of_heap HW2.out.2.2 0
   have yf1:w2.frozen? ⟨T,1,none⟩=false:=Lib.frozen_of_heap HW2.out.2.2 1
   have HW3:Hid (TS B P L tv iv ((w2.setCell ⟨T,0,none⟩ (.int .i64 2)).setCell ⟨T,1,none⟩ (.string (mkB tl))) {p with pos:=y}∧Below B w ((w2.setCell ⟨T,0,none⟩ (.int .i64 2)).setCell ⟨T,1,none⟩ (.string (mkB tl)))∧((w2.setCell ⟨T,0,none⟩ (.int .i64 2)).setCell ⟨T,1,none⟩ (.string (mkB tl))).heap[T]? =some (.cells #[.int .i64 2,.string (mkB tl),.int .i64 0,.int .i64 (p.pos:Int)] 255 (0,0))):=tk_set HPT.out HW2.out HNT.out 2 (mkB tl)
   clear HW2
   have hw3:((w2.setCell ⟨T,0,none⟩ (.int .i64 2)).setCell ⟨T,1,none⟩ (.string (mkB tl))).cell? ⟨T,1,none⟩=some (.string (mkB tl)):=by rw[Lib.cell_of_heap HW3.out.2.2];rfl
   go_wp2_with fail
   clear y0 y1 yf0 yf1
   refine(HAt.out _).mono ?_
   rintro e w4 ⟨rfl,hb4⟩
   have HW4:Hid (TS B P L tv iv w4 {p with pos:=y}∧Below B w w4∧w4.heap[T]? =some (.cells #[.int .i64 2,.string (mkB tl),.int .i64 0,.int .i64 (p.pos:Int)] 255 (0,0))):=⟨HW3.out.1.up hb4,HW3.out.2.1.trans (hb4.mono (by have:=HW3.out.1.lt;have:=HPT.out.2.1;omega)),(hb4.block T (Array.getElem?_eq_some_iff.1 HW3.out.2.2).1).trans HW3.out.2.2⟩
   clear hb4 HW3 HAt hw3
   have y2:w4.cell? ⟨T,2,none⟩=some (.int .i64 0):=by rw[Lib.cell_of_heap HW4.out.2.2];rfl
   have yf2:w4.frozen? ⟨T,2,none⟩=false:=Lib.frozen_of_heap HW4.out.2.2 2
   have HF:Hid (TS B P L tv iv (w4.setCell ⟨T,2,none⟩ (.int .i64 v)) {p with pos:=y}∧Below B w (w4.setCell ⟨T,2,none⟩ (.int .i64 v))∧(w4.setCell ⟨T,2,none⟩ (.int .i64 v)).heap[T]? =some (.cells #[.int .i64 2,.string (mkB tl),.int .i64 v,.int .i64 (p.pos:Int)] 255 (0,0))):=tk_num HPT.out HW4.out HNT.out v
   clear HW4
   go_wp2
   generalize w4.setCell ⟨T,2,none⟩ (.int .i64 v)=w3 at *
   clear y2 yf2
   have e2:=HF.out.1.c2
   have z0:w3.cell? ⟨T,0,none⟩=some (.int .i64 2):=by rw[Lib.cell_of_heap HF.out.2.2];rfl
   have z1:w3.cell? ⟨T,1,none⟩=some (.string (mkB tl)):=by rw[Lib.cell_of_heap HF.out.2.2];rfl
   have z2:w3.cell? ⟨T,2,none⟩=some (.int .i64 (v:Int)):=by rw[Lib.cell_of_heap HF.out.2.2];rfl
   have z3:w3.cell? ⟨T,3,none⟩=some (.int .i64 (p.pos:Int)):=by rw[Lib.cell_of_heap HF.out.2.2];rfl
   have hPW:=HF.out.1.lt
   have hTW:T<w3.heap.size:=(Array.getElem?_eq_some_iff.1 HF.out.2.2).1
   obtain⟨hOW,hNW,hPUT,hP1,q3,q4⟩:=tail_facts HF.out.1 ⟨2,tl,v,p.pos⟩
   have HOW:Hid (((w3.alloc (.cells #[.int .i64 2,.string (mkB tl),.int .i64 (v:Int),.int .i64 (p.pos:Int)] 255)).drew).ownsRow B 255 4 tv p.toks.length (tcs p.toks)):=hOW
   have HNW:Hid (∀ (j:Nat) (u:Value),(tc ⟨2,tl,v,p.pos⟩)[j]? =some u→((w3.alloc (.cells #[.int .i64 2,.string (mkB tl),.int .i64 (v:Int),.int .i64 (p.pos:Int)] 255)).drew).cell? ((⟨w3.heap.size,0,none⟩:Addr).add j)=some u):=hNW
   have HPUT:Hid (∀ {w8 w9:World} {g1 cap1:Nat},w8.ownsRow B 255 4 (.slice (some ⟨g1,0,none⟩) (p.toks.length+1) cap1) (p.toks.length+1) (tcs p.toks++tc ⟨2,tl,v,p.pos⟩)→((w3.alloc (.cells #[.int .i64 2,.string (mkB tl),.int .i64 (v:Int),.int .i64 (p.pos:Int)] 255)).drew).grownBy w8 tv.ownBlock→(tv.ownBlock=some g1∨g1=w3.heap.size+1)→(∀ g:Nat,w9.heap[g]? =(w8.setCell ⟨P,2,none⟩ (.slice (some ⟨g1,0,none⟩) (p.toks.length+1) cap1)).heap[g]?)→TS B P L (.slice (some ⟨g1,0,none⟩) (p.toks.length+1) cap1) iv w9 {{p with pos:=y}with toks:=p.toks++[⟨2,tl,v,p.pos⟩]}):=hPUT
   have HP1:Hid (∀ {w8:World},((w3.alloc (.cells #[.int .i64 2,.string (mkB tl),.int .i64 (v:Int),.int .i64 (p.pos:Int)] 255)).drew).grownBy w8 tv.ownBlock→w8.cell? ⟨P,2,none⟩=some tv∧w8.frozen? ⟨P,2,none⟩=false∧Below B w3 w8):=hP1
   have q3':B≤((w3.alloc (.cells #[.int .i64 2,.string (mkB tl),.int .i64 (v:Int),.int .i64 (p.pos:Int)] 255)).drew).heap.size:=q3
   have q4':((w3.alloc (.cells #[.int .i64 2,.string (mkB tl),.int .i64 (v:Int),.int .i64 (p.pos:Int)] 255)).drew).heap.size=w3.heap.size+1:=q4
   have hone:=tc_one ⟨2,tl,v,p.pos⟩
   have hnl:(tc ⟨2,tl,v,p.pos⟩).length=1*4:=rfl
   obtain⟨i0,hi,hz0,hz1,hz2⟩:=info_p infT
   have q1:p.toks.length+1≤maxLen:=by unfold maxLen;omega
   have q2:(p.toks.length+1)*40≤140737488355328:=by omega
   generalize tc ⟨2,tl,v,p.pos⟩=news at *
   clear hOW hNW hPUT hP1 q3 q4
   go_wp2
   go_region_law (first
     |((refine step_append_lies ((w3.alloc (.cells #[.int .i64 2,.string (mkB tl),.int .i64 (v:Int),.int .i64 (p.pos:Int)] 255)).drew) (by rfl) (Operand.tmp 58) (Operand.tmp 60) 155 (by rfl) B 255 i0 (.agg #[.int .i64 0,.string ⟨#[]⟩,.int .i64 0,.int .i64 0]) 4 40 Tryz.underlying155 hi hz0 hz1 hz2 rfl (by decide) tv p.toks.length (tcs p.toks) (by rfl) HOW.out ⟨w3.heap.size,0,none⟩ 1 1 news (by rfl) hnl HNW.out hone (by decide) q1 q2 q3' (w3.heap.size+1) q4' ?_;intro g' cap' w8 hown8 hgrow8 hat8 hltg8;obtain⟨d2,f2,hb8⟩:=HP1.out hgrow8))
     |fail)
   all_goals
    have HG:Hid (TS B P L (.slice (some ⟨g',0,none⟩) (p.toks.length+1) cap') iv (w8.setCell ⟨P,2,none⟩ (.slice (some ⟨g',0,none⟩) (p.toks.length+1) cap')) {{p with pos:=y}with toks:=p.toks++[⟨2,tl,v,p.pos⟩]}∧Below B w (w8.setCell ⟨P,2,none⟩ (.slice (some ⟨g',0,none⟩) (p.toks.length+1) cap'))):=⟨HPUT.out hown8 hgrow8 hat8 (fun g=>rfl),(HF.out.2.1.trans hb8).setCell (p:=⟨P,2,none⟩) HPT.out.2.1 _⟩
    clear hown8 hgrow8 hat8 hb8 hltg8
    go_wp2
    go_end0
    refine⟨fun k z hz=>?_,fun q hq=>?_,HG.out.2⟩
    ·rw[HRe.out]at hz;cases hz
    ·rw[HRe.out]at hq
     cases hq
     exact⟨rfl,_,_,HG.out.1⟩
  |false=>
   have HD0:Hid (∀ W,Calls Tryz.prog 273 #[.int .u8 (L.getD p.pos 0).toNat] W fun e w'=>e= .returned (.bool false)∧w'=W):=fun W=>by rw[←hd];exact isDigit_any _ W
   cases hlt:isLt (L.getD p.pos 0)with
   |true=>
    have HRe:Hid (tok1 L p= .ok {p with pos:=p.pos+rch isNm (L.drop p.pos),toks:=p.toks++[⟨bif isWd ((L.drop p.pos).take (rch isNm (L.drop p.pos)))then 5 else 1,(L.drop p.pos).take (rch isNm (L.drop p.pos)),0,p.pos⟩]}):=by
     show _=_
     rw[HRV.out,if_neg hc34,if_neg (by rw[hd];decide),if_pos hlt]
    have HL1:Hid (∀ W,Calls Tryz.prog 278 #[.int .u8 (L.getD p.pos 0).toNat] W fun e w'=>e= .returned (.bool true)∧w'=W):=fun W=>by rw[←hlt];exact isLetter_any _ W
    have HTk:Hid (∀ W,TS B P L tv iv W p→Calls Tryz.prog 266 #[.pointer (some ⟨P,0,none⟩),.func (.func 279) #[] #[]] W fun e w'=>e= .returned (.string (mkB ((L.drop p.pos).take (rch isNm (L.drop p.pos)))))∧TS B P L tv iv w' {p with pos:=p.pos+rch isNm (L.drop p.pos)}∧Below B W w'∧∀ g:Nat,g≠P→w'.heap[g]? =W.heap[g]?):=fun W hW=>take_any hW hL (Nat.le_of_lt hp) _ _ fun W' _=>says_nm W'
    have HWd:Hid (∀ W,Calls Tryz.prog 280 #[.string (mkB ((L.drop p.pos).take (rch isNm (L.drop p.pos))))] W fun e w'=>e= .returned (.bool (isWd ((L.drop p.pos).take (rch isNm (L.drop p.pos)))))∧w'=W):=fun W=>isWord_any _ W
    clear HRV hd hlt hni hbg hcl hc34 hdl hrl
    generalize L.getD p.pos 0=c at *
    generalize(L.drop p.pos).take (rch isNm (L.drop p.pos))=tl at *
    generalize p.pos+rch isNm (L.drop p.pos)=y at *
    obtain⟨bw,hbw⟩:∃ bw,bw=isWd tl:=⟨_,rfl⟩
    rw[←hbw]at HRe HWd
    clear hbw
    go_enter Tryz.func240,Tryz.ntmps240
    go_wp2
    generalize w.alloc (.cells #[.int .i64 0,.string ⟨#[]⟩,.int .i64 0,.int .i64 (p.pos:Int)] 255)=w0 at *
    have c0:=HW0.out.1.c0
    have c1:=HW0.out.1.c1
    go_quiet (fail)
    have HW1:Hid (TS B P L tv iv (w0.drewN nq) p∧Below B w (w0.drewN nq)∧(w0.drewN nq).heap[T]? =some (.cells #[.int .i64 0,.string ⟨#[]⟩,.int .i64 0,.int .i64 (p.pos:Int)] 255 (0,0))):=⟨HW0.out.1.drewN nq,below_drewN HW0.out.2.1 nq,HW0.out.2.2⟩
    generalize w0.drewN nq=w1 at *
    clear c0 c1 HW0
    go_wp2_with (first
     |(go_at_call 273;refine(HD0.out _).mono ?_;rintro e w' ⟨rfl,rfl⟩)
     |(go_at_call 278;refine(HL1.out _).mono ?_;rintro e w' ⟨rfl,rfl⟩)
     |fail)
    refine(HTk.out _ HW1.out.1).mono ?_
    rintro e w2 ⟨rfl,hts2,hb2,ho2⟩
    have HW2:Hid (TS B P L tv iv w2 {p with pos:=y}∧Below B w w2∧w2.heap[T]? =some (.cells #[.int .i64 0,.string ⟨#[]⟩,.int .i64 0,.int .i64 (p.pos:Int)] 255 (0,0))):=⟨hts2,HW1.out.2.1.trans hb2,(ho2 T (by have:=HPT.out.1;omega)).trans HW1.out.2.2⟩
    clear hts2 hb2 ho2 HTk HW1 HD0 HL1
    have y0:w2.cell? ⟨T,0,none⟩=some (.int .i64 0):=by rw[Lib.cell_of_heap HW2.out.2.2];rfl
    have y1:w2.cell? ⟨T,1,none⟩=some (.string ⟨#[]⟩):=by rw[Lib.cell_of_heap HW2.out.2.2];rfl
    have yf0:w2.frozen? ⟨T,0,none⟩=false:=Lib.frozen_of_heap HW2.out.2.2 0
    have yf1:w2.frozen? ⟨T,1,none⟩=false:=Lib.frozen_of_heap HW2.out.2.2 1
    have HW3:Hid (TS B P L tv iv ((w2.setCell ⟨T,0,none⟩ (.int .i64 1)).setCell ⟨T,1,none⟩ (.string (mkB tl))) {p with pos:=y}∧Below B w ((w2.setCell ⟨T,0,none⟩ (.int .i64 1)).setCell ⟨T,1,none⟩ (.string (mkB tl)))∧((w2.setCell ⟨T,0,none⟩ (.int .i64 1)).setCell ⟨T,1,none⟩ (.string (mkB tl))).heap[T]? =some (.cells #[.int .i64 1,.string (mkB tl),.int .i64 0,.int .i64 (p.pos:Int)] 255 (0,0))):=tk_set HPT.out HW2.out HNT.out 1 (mkB tl)
    clear HW2
    have hw3:((w2.setCell ⟨T,0,none⟩ (.int .i64 1)).setCell ⟨T,1,none⟩ (.string (mkB tl))).cell? ⟨T,1,none⟩=some (.string (mkB tl)):=by rw[Lib.cell_of_heap HW3.out.2.2];rfl
    go_wp2_with fail
    refine(HWd.out _).mono ?_
    rintro e w' ⟨rfl,rfl⟩
    generalize(w2.setCell ⟨T,0,none⟩ (.int .i64 1)).setCell ⟨T,1,none⟩ (.string (mkB tl))=w4 at *
    clear y0 y1 yf0 yf1 hw3 HWd
    cases bw with
    |true=>
     have HRe:Hid (tok1 L p= .ok {p with pos:=y,toks:=p.toks++[⟨5,tl,0,p.pos⟩]}):=HRe.out
     have y2:w4.cell? ⟨T,0,none⟩=some (.int .i64 1):=by rw[Lib.cell_of_heap HW3.out.2.2];rfl
     have yf2:w4.frozen? ⟨T,0,none⟩=false:=Lib.frozen_of_heap HW3.out.2.2 0
     have HF:Hid (TS B P L tv iv (w4.setCell ⟨T,0,none⟩ (.int .i64 5)) {p with pos:=y}∧Below B w (w4.setCell ⟨T,0,none⟩ (.int .i64 5))∧(w4.setCell ⟨T,0,none⟩ (.int .i64 5)).heap[T]? =some (.cells #[.int .i64 5,.string (mkB tl),.int .i64 0,.int .i64 (p.pos:Int)] 255 (0,0))):=tk_kind HPT.out HW3.out HNT.out 5
     clear HW3
     go_wp2
     generalize w4.setCell ⟨T,0,none⟩ (.int .i64 5)=w3 at *
     clear y2 yf2
     have e2:=HF.out.1.c2
     have z0:w3.cell? ⟨T,0,none⟩=some (.int .i64 5):=by rw[Lib.cell_of_heap HF.out.2.2];rfl
     have z1:w3.cell? ⟨T,1,none⟩=some (.string (mkB tl)):=by rw[Lib.cell_of_heap HF.out.2.2];rfl
     have z2:w3.cell? ⟨T,2,none⟩=some (.int .i64 0):=by rw[Lib.cell_of_heap HF.out.2.2];rfl
     have z3:w3.cell? ⟨T,3,none⟩=some (.int .i64 (p.pos:Int)):=by rw[Lib.cell_of_heap HF.out.2.2];rfl
     have hPW:=HF.out.1.lt
     have hTW:T<w3.heap.size:=(Array.getElem?_eq_some_iff.1 HF.out.2.2).1
     obtain⟨hOW,hNW,hPUT,hP1,q3,q4⟩:=tail_facts HF.out.1 ⟨5,tl,0,p.pos⟩
     have HOW:Hid (((w3.alloc (.cells #[.int .i64 5,.string (mkB tl),.int .i64 0,.int .i64 (p.pos:Int)] 255)).drew).ownsRow B 255 4 tv p.toks.length (tcs p.toks)):=hOW
     have HNW:Hid (∀ (j:Nat) (u:Value),(tc ⟨5,tl,0,p.pos⟩)[j]? =some u→((w3.alloc (.cells #[.int .i64 5,.string (mkB tl),.int .i64 0,.int .i64 (p.pos:Int)] 255)).drew).cell? ((⟨w3.heap.size,0,none⟩:Addr).add j)=some u):=hNW
     have HPUT:Hid (∀ {w8 w9:World} {g1 cap1:Nat},w8.ownsRow B 255 4 (.slice (some ⟨g1,0,none⟩) (p.toks.length+1) cap1) (p.toks.length+1) (tcs p.toks++tc ⟨5,tl,0,p.pos⟩)→((w3.alloc (.cells #[.int .i64 5,.string (mkB tl),.int .i64 0,.int .i64 (p.pos:Int)] 255)).drew).grownBy w8 tv.ownBlock→(tv.ownBlock=some g1∨g1=w3.heap.size+1)→(∀ g:Nat,w9.heap[g]? =(w8.setCell ⟨P,2,none⟩ (.slice (some ⟨g1,0,none⟩) (p.toks.length+1) cap1)).heap[g]?)→TS B P L (.slice (some ⟨g1,0,none⟩) (p.toks.length+1) cap1) iv w9 {{p with pos:=y}with toks:=p.toks++[⟨5,tl,0,p.pos⟩]}):=hPUT
     have HP1:Hid (∀ {w8:World},((w3.alloc (.cells #[.int .i64 5,.string (mkB tl),.int .i64 0,.int .i64 (p.pos:Int)] 255)).drew).grownBy w8 tv.ownBlock→w8.cell? ⟨P,2,none⟩=some tv∧w8.frozen? ⟨P,2,none⟩=false∧Below B w3 w8):=hP1
     have q3':B≤((w3.alloc (.cells #[.int .i64 5,.string (mkB tl),.int .i64 0,.int .i64 (p.pos:Int)] 255)).drew).heap.size:=q3
     have q4':((w3.alloc (.cells #[.int .i64 5,.string (mkB tl),.int .i64 0,.int .i64 (p.pos:Int)] 255)).drew).heap.size=w3.heap.size+1:=q4
     have hone:=tc_one ⟨5,tl,0,p.pos⟩
     have hnl:(tc ⟨5,tl,0,p.pos⟩).length=1*4:=rfl
     obtain⟨i0,hi,hz0,hz1,hz2⟩:=info_p infT
     have q1:p.toks.length+1≤maxLen:=by unfold maxLen;omega
     have q2:(p.toks.length+1)*40≤140737488355328:=by omega
     generalize tc ⟨5,tl,0,p.pos⟩=news at *
     clear hOW hNW hPUT hP1 q3 q4
     go_wp2
     go_region_law (first
       |((refine step_append_lies ((w3.alloc (.cells #[.int .i64 5,.string (mkB tl),.int .i64 0,.int .i64 (p.pos:Int)] 255)).drew) (by rfl) (Operand.tmp 58) (Operand.tmp 60) 155 (by rfl) B 255 i0 (.agg #[.int .i64 0,.string ⟨#[]⟩,.int .i64 0,.int .i64 0]) 4 40 Tryz.underlying155 hi hz0 hz1 hz2 rfl (by decide) tv p.toks.length (tcs p.toks) (by rfl) HOW.out ⟨w3.heap.size,0,none⟩ 1 1 news (by rfl) hnl HNW.out hone (by decide) q1 q2 q3' (w3.heap.size+1) q4' ?_;intro g' cap' w8 hown8 hgrow8 hat8 hltg8;obtain⟨d2,f2,hb8⟩:=HP1.out hgrow8))
       |fail)
     all_goals
      have HG:Hid (TS B P L (.slice (some ⟨g',0,none⟩) (p.toks.length+1) cap') iv (w8.setCell ⟨P,2,none⟩ (.slice (some ⟨g',0,none⟩) (p.toks.length+1) cap')) {{p with pos:=y}with toks:=p.toks++[⟨5,tl,0,p.pos⟩]}∧Below B w (w8.setCell ⟨P,2,none⟩ (.slice (some ⟨g',0,none⟩) (p.toks.length+1) cap'))):=⟨HPUT.out hown8 hgrow8 hat8 (fun g=>rfl),(HF.out.2.1.trans hb8).setCell (p:=⟨P,2,none⟩) HPT.out.2.1 _⟩
      clear hown8 hgrow8 hat8 hb8 hltg8
      go_wp2
      go_end0
      refine⟨fun k z hz=>?_,fun q hq=>?_,HG.out.2⟩
      ·rw[HRe.out]at hz;cases hz
      ·rw[HRe.out]at hq
       cases hq
       exact⟨rfl,_,_,HG.out.1⟩
    |false=>
     have HRe:Hid (tok1 L p= .ok {p with pos:=y,toks:=p.toks++[⟨1,tl,0,p.pos⟩]}):=HRe.out
     have HF:=HW3
     clear HW3
     go_wp2
     have e2:=HF.out.1.c2
     have z0:w4.cell? ⟨T,0,none⟩=some (.int .i64 1):=by rw[Lib.cell_of_heap HF.out.2.2];rfl
     have z1:w4.cell? ⟨T,1,none⟩=some (.string (mkB tl)):=by rw[Lib.cell_of_heap HF.out.2.2];rfl
     have z2:w4.cell? ⟨T,2,none⟩=some (.int .i64 0):=by rw[Lib.cell_of_heap HF.out.2.2];rfl
     have z3:w4.cell? ⟨T,3,none⟩=some (.int .i64 (p.pos:Int)):=by rw[Lib.cell_of_heap HF.out.2.2];rfl
     have hPW:=HF.out.1.lt
     have hTW:T<w4.heap.size:=(Array.getElem?_eq_some_iff.1 HF.out.2.2).1
     obtain⟨hOW,hNW,hPUT,hP1,q3,q4⟩:=tail_facts HF.out.1 ⟨1,tl,0,p.pos⟩
     have HOW:Hid (((w4.alloc (.cells #[.int .i64 1,.string (mkB tl),.int .i64 0,.int .i64 (p.pos:Int)] 255)).drew).ownsRow B 255 4 tv p.toks.length (tcs p.toks)):=hOW
     have HNW:Hid (∀ (j:Nat) (u:Value),(tc ⟨1,tl,0,p.pos⟩)[j]? =some u→((w4.alloc (.cells #[.int .i64 1,.string (mkB tl),.int .i64 0,.int .i64 (p.pos:Int)] 255)).drew).cell? ((⟨w4.heap.size,0,none⟩:Addr).add j)=some u):=hNW
     have HPUT:Hid (∀ {w8 w9:World} {g1 cap1:Nat},w8.ownsRow B 255 4 (.slice (some ⟨g1,0,none⟩) (p.toks.length+1) cap1) (p.toks.length+1) (tcs p.toks++tc ⟨1,tl,0,p.pos⟩)→((w4.alloc (.cells #[.int .i64 1,.string (mkB tl),.int .i64 0,.int .i64 (p.pos:Int)] 255)).drew).grownBy w8 tv.ownBlock→(tv.ownBlock=some g1∨g1=w4.heap.size+1)→(∀ g:Nat,w9.heap[g]? =(w8.setCell ⟨P,2,none⟩ (.slice (some ⟨g1,0,none⟩) (p.toks.length+1) cap1)).heap[g]?)→TS B P L (.slice (some ⟨g1,0,none⟩) (p.toks.length+1) cap1) iv w9 {{p with pos:=y}with toks:=p.toks++[⟨1,tl,0,p.pos⟩]}):=hPUT
     have HP1:Hid (∀ {w8:World},((w4.alloc (.cells #[.int .i64 1,.string (mkB tl),.int .i64 0,.int .i64 (p.pos:Int)] 255)).drew).grownBy w8 tv.ownBlock→w8.cell? ⟨P,2,none⟩=some tv∧w8.frozen? ⟨P,2,none⟩=false∧Below B w4 w8):=hP1
     have q3':B≤((w4.alloc (.cells #[.int .i64 1,.string (mkB tl),.int .i64 0,.int .i64 (p.pos:Int)] 255)).drew).heap.size:=q3
     have q4':((w4.alloc (.cells #[.int .i64 1,.string (mkB tl),.int .i64 0,.int .i64 (p.pos:Int)] 255)).drew).heap.size=w4.heap.size+1:=q4
     have hone:=tc_one ⟨1,tl,0,p.pos⟩
     have hnl:(tc ⟨1,tl,0,p.pos⟩).length=1*4:=rfl
     obtain⟨i0,hi,hz0,hz1,hz2⟩:=info_p infT
     have q1:p.toks.length+1≤maxLen:=by unfold maxLen;omega
     have q2:(p.toks.length+1)*40≤140737488355328:=by omega
     generalize tc ⟨1,tl,0,p.pos⟩=news at *
     clear hOW hNW hPUT hP1 q3 q4
     go_wp2
     go_region_law (first
       |((refine step_append_lies ((w4.alloc (.cells #[.int .i64 1,.string (mkB tl),.int .i64 0,.int .i64 (p.pos:Int)] 255)).drew) (by rfl) (Operand.tmp 58) (Operand.tmp 60) 155 (by rfl) B 255 i0 (.agg #[.int .i64 0,.string ⟨#[]⟩,.int .i64 0,.int .i64 0]) 4 40 Tryz.underlying155 hi hz0 hz1 hz2 rfl (by decide) tv p.toks.length (tcs p.toks) (by rfl) HOW.out ⟨w4.heap.size,0,none⟩ 1 1 news (by rfl) hnl HNW.out hone (by decide) q1 q2 q3' (w4.heap.size+1) q4' ?_;intro g' cap' w8 hown8 hgrow8 hat8 hltg8;obtain⟨d2,f2,hb8⟩:=HP1.out hgrow8))
       |fail)
     all_goals
      have HG:Hid (TS B P L (.slice (some ⟨g',0,none⟩) (p.toks.length+1) cap') iv (w8.setCell ⟨P,2,none⟩ (.slice (some ⟨g',0,none⟩) (p.toks.length+1) cap')) {{p with pos:=y}with toks:=p.toks++[⟨1,tl,0,p.pos⟩]}∧Below B w (w8.setCell ⟨P,2,none⟩ (.slice (some ⟨g',0,none⟩) (p.toks.length+1) cap'))):=⟨HPUT.out hown8 hgrow8 hat8 (fun g=>rfl),(HF.out.2.1.trans hb8).setCell (p:=⟨P,2,none⟩) HPT.out.2.1 _⟩
      clear hown8 hgrow8 hat8 hb8 hltg8
      go_wp2
      go_end0
      refine⟨fun k z hz=>?_,fun q hq=>?_,HG.out.2⟩
      ·rw[HRe.out]at hz;cases hz
      ·rw[HRe.out]at hq
       cases hq
       exact⟨rfl,_,_,HG.out.1⟩
   |false=>
    have hs:=beg_sign _ hbg (by rw[at_drop];exact hc34) (by rw[at_drop];exact hd) (by rw[at_drop];exact hlt)
    have HRe:Hid (tok1 L p= .ok {p with pos:=p.pos+sgn (L.drop p.pos),toks:=p.toks++[⟨4,(L.drop p.pos).take (sgn (L.drop p.pos)),0,p.pos⟩],opn:=if isOpn (L.getD p.pos 0)then p.opn+1 else if isCls (L.getD p.pos 0)then p.opn-1 else p.opn}):=by
     show _=_
     rw[HRV.out,if_neg hc34,if_neg (by rw[hd];decide),if_neg (by rw[hlt];decide)]
    have HL0:Hid (∀ W,Calls Tryz.prog 278 #[.int .u8 (L.getD p.pos 0).toNat] W fun e w'=>e= .returned (.bool false)∧w'=W):=fun W=>by rw[←hlt];exact isLetter_any _ W
    have HSg:Hid (∀ W,TS B P L tv iv W p→Calls Tryz.prog 281 #[.pointer (some ⟨P,0,none⟩)] W fun e w'=>e= .returned (.string (mkB ((L.drop p.pos).take (sgn (L.drop p.pos)))))∧TS B P L tv iv w' {p with pos:=p.pos+sgn (L.drop p.pos),opn:=if isOpn (L.getD p.pos 0)then p.opn+1 else if isCls (L.getD p.pos 0)then p.opn-1 else p.opn}∧Below B W w'∧∀ g:Nat,g≠P→w'.heap[g]? =W.heap[g]?):=fun W hW=>sign_any hW hL hp hs ho hcl
    clear HRV hd hlt hni hbg hcl hc34 hdl hrl hs
    generalize(if isOpn (L.getD p.pos 0)then p.opn+1 else if isCls (L.getD p.pos 0)then p.opn-1 else p.opn)=on at *
    generalize L.getD p.pos 0=c at *
    generalize(L.drop p.pos).take (sgn (L.drop p.pos))=tl at *
    generalize p.pos+sgn (L.drop p.pos)=y at *
    go_enter Tryz.func240,Tryz.ntmps240
    go_wp2
    generalize w.alloc (.cells #[.int .i64 0,.string ⟨#[]⟩,.int .i64 0,.int .i64 (p.pos:Int)] 255)=w0 at *
    have c0:=HW0.out.1.c0
    have c1:=HW0.out.1.c1
    go_quiet (fail)
    have HW1:Hid (TS B P L tv iv (w0.drewN nq) p∧Below B w (w0.drewN nq)∧(w0.drewN nq).heap[T]? =some (.cells #[.int .i64 0,.string ⟨#[]⟩,.int .i64 0,.int .i64 (p.pos:Int)] 255 (0,0))):=⟨HW0.out.1.drewN nq,below_drewN HW0.out.2.1 nq,HW0.out.2.2⟩
    generalize w0.drewN nq=w1 at *
    clear c0 c1 HW0
    go_wp2_with (first
     |(go_at_call 273;refine(HD0.out _).mono ?_;rintro e w' ⟨rfl,rfl⟩)
     |(go_at_call 278;refine(HL0.out _).mono ?_;rintro e w' ⟨rfl,rfl⟩)
     |fail)
    refine(HSg.out _ HW1.out.1).mono ?_
    rintro e w2 ⟨rfl,hts2,hb2,ho2⟩
    have HW2:Hid (TS B P L tv iv w2 {p with pos:=y,opn:=on}∧Below B w w2∧w2.heap[T]? =some (.cells #[.int .i64 0,.string ⟨#[]⟩,.int .i64 0,.int .i64 (p.pos:Int)] 255 (0,0))):=⟨hts2,HW1.out.2.1.trans hb2,(ho2 T (by have:=HPT.out.1;omega)).trans HW1.out.2.2⟩
    clear hts2 hb2 ho2 HSg HW1 HD0 HL0
    have y0:w2.cell? ⟨T,0,none⟩=some (.int .i64 0):=by rw[Lib.cell_of_heap HW2.out.2.2];rfl
    have y1:w2.cell? ⟨T,1,none⟩=some (.string ⟨#[]⟩):=by rw[Lib.cell_of_heap HW2.out.2.2];rfl
    have yf0:w2.frozen? ⟨T,0,none⟩=false:=Lib.frozen_of_heap HW2.out.2.2 0
    have yf1:w2.frozen? ⟨T,1,none⟩=false:=Lib.frozen_of_heap HW2.out.2.2 1
    have HF:Hid (TS B P L tv iv ((w2.setCell ⟨T,0,none⟩ (.int .i64 4)).setCell ⟨T,1,none⟩ (.string (mkB tl))) {p with pos:=y,opn:=on}∧Below B w ((w2.setCell ⟨T,0,none⟩ (.int .i64 4)).setCell ⟨T,1,none⟩ (.string (mkB tl)))∧((w2.setCell ⟨T,0,none⟩ (.int .i64 4)).setCell ⟨T,1,none⟩ (.string (mkB tl))).heap[T]? =some (.cells #[.int .i64 4,.string (mkB tl),.int .i64 0,.int .i64 (p.pos:Int)] 255 (0,0))):=tk_set HPT.out HW2.out HNT.out 4 (mkB tl)
    clear HW2
    go_wp2
    generalize(w2.setCell ⟨T,0,none⟩ (.int .i64 4)).setCell ⟨T,1,none⟩ (.string (mkB tl))=w3 at *
    clear y0 y1 yf0 yf1
    have e2:=HF.out.1.c2
    have z0:w3.cell? ⟨T,0,none⟩=some (.int .i64 4):=by rw[Lib.cell_of_heap HF.out.2.2];rfl
    have z1:w3.cell? ⟨T,1,none⟩=some (.string (mkB tl)):=by rw[Lib.cell_of_heap HF.out.2.2];rfl
    have z2:w3.cell? ⟨T,2,none⟩=some (.int .i64 0):=by rw[Lib.cell_of_heap HF.out.2.2];rfl
    have z3:w3.cell? ⟨T,3,none⟩=some (.int .i64 (p.pos:Int)):=by rw[Lib.cell_of_heap HF.out.2.2];rfl
    have hPW:=HF.out.1.lt
    have hTW:T<w3.heap.size:=(Array.getElem?_eq_some_iff.1 HF.out.2.2).1
    obtain⟨hOW,hNW,hPUT,hP1,q3,q4⟩:=tail_facts HF.out.1 ⟨4,tl,0,p.pos⟩
    have HOW:Hid (((w3.alloc (.cells #[.int .i64 4,.string (mkB tl),.int .i64 0,.int .i64 (p.pos:Int)] 255)).drew).ownsRow B 255 4 tv p.toks.length (tcs p.toks)):=hOW
    have HNW:Hid (∀ (j:Nat) (u:Value),(tc ⟨4,tl,0,p.pos⟩)[j]? =some u→((w3.alloc (.cells #[.int .i64 4,.string (mkB tl),.int .i64 0,.int .i64 (p.pos:Int)] 255)).drew).cell? ((⟨w3.heap.size,0,none⟩:Addr).add j)=some u):=hNW
    have HPUT:Hid (∀ {w8 w9:World} {g1 cap1:Nat},w8.ownsRow B 255 4 (.slice (some ⟨g1,0,none⟩) (p.toks.length+1) cap1) (p.toks.length+1) (tcs p.toks++tc ⟨4,tl,0,p.pos⟩)→((w3.alloc (.cells #[.int .i64 4,.string (mkB tl),.int .i64 0,.int .i64 (p.pos:Int)] 255)).drew).grownBy w8 tv.ownBlock→(tv.ownBlock=some g1∨g1=w3.heap.size+1)→(∀ g:Nat,w9.heap[g]? =(w8.setCell ⟨P,2,none⟩ (.slice (some ⟨g1,0,none⟩) (p.toks.length+1) cap1)).heap[g]?)→TS B P L (.slice (some ⟨g1,0,none⟩) (p.toks.length+1) cap1) iv w9 {{p with pos:=y,opn:=on}with toks:=p.toks++[⟨4,tl,0,p.pos⟩]}):=hPUT
    have HP1:Hid (∀ {w8:World},((w3.alloc (.cells #[.int .i64 4,.string (mkB tl),.int .i64 0,.int .i64 (p.pos:Int)] 255)).drew).grownBy w8 tv.ownBlock→w8.cell? ⟨P,2,none⟩=some tv∧w8.frozen? ⟨P,2,none⟩=false∧Below B w3 w8):=hP1
    have q3':B≤((w3.alloc (.cells #[.int .i64 4,.string (mkB tl),.int .i64 0,.int .i64 (p.pos:Int)] 255)).drew).heap.size:=q3
    have q4':((w3.alloc (.cells #[.int .i64 4,.string (mkB tl),.int .i64 0,.int .i64 (p.pos:Int)] 255)).drew).heap.size=w3.heap.size+1:=q4
    have hone:=tc_one ⟨4,tl,0,p.pos⟩
    have hnl:(tc ⟨4,tl,0,p.pos⟩).length=1*4:=rfl
    obtain⟨i0,hi,hz0,hz1,hz2⟩:=info_p infT
    have q1:p.toks.length+1≤maxLen:=by unfold maxLen;omega
    have q2:(p.toks.length+1)*40≤140737488355328:=by omega
    generalize tc ⟨4,tl,0,p.pos⟩=news at *
    clear hOW hNW hPUT hP1 q3 q4
    go_wp2
    go_region_law (first
      |((refine step_append_lies ((w3.alloc (.cells #[.int .i64 4,.string (mkB tl),.int .i64 0,.int .i64 (p.pos:Int)] 255)).drew) (by rfl) (Operand.tmp 58) (Operand.tmp 60) 155 (by rfl) B 255 i0 (.agg #[.int .i64 0,.string ⟨#[]⟩,.int .i64 0,.int .i64 0]) 4 40 Tryz.underlying155 hi hz0 hz1 hz2 rfl (by decide) tv p.toks.length (tcs p.toks) (by rfl) HOW.out ⟨w3.heap.size,0,none⟩ 1 1 news (by rfl) hnl HNW.out hone (by decide) q1 q2 q3' (w3.heap.size+1) q4' ?_;intro g' cap' w8 hown8 hgrow8 hat8 hltg8;obtain⟨d2,f2,hb8⟩:=HP1.out hgrow8))
      |fail)
    all_goals
     have HG:Hid (TS B P L (.slice (some ⟨g',0,none⟩) (p.toks.length+1) cap') iv (w8.setCell ⟨P,2,none⟩ (.slice (some ⟨g',0,none⟩) (p.toks.length+1) cap')) {{p with pos:=y,opn:=on}with toks:=p.toks++[⟨4,tl,0,p.pos⟩]}∧Below B w (w8.setCell ⟨P,2,none⟩ (.slice (some ⟨g',0,none⟩) (p.toks.length+1) cap'))):=⟨HPUT.out hown8 hgrow8 hat8 (fun g=>rfl),(HF.out.2.1.trans hb8).setCell (p:=⟨P,2,none⟩) HPT.out.2.1 _⟩
     clear hown8 hgrow8 hat8 hb8 hltg8
     go_wp2
     go_end0
     refine⟨fun k z hz=>?_,fun q hq=>?_,HG.out.2⟩
     ·rw[HRe.out]at hz;cases hz
     ·rw[HRe.out]at hq
      cases hq
      exact⟨rfl,_,_,HG.out.1⟩
end Go.Proofs.YthfgpkdbclogpaaGreatDoor
