/- 46. -/
import Derived.Test.YthfgpkdbclogpaaGreatDoorTx45
import Derived.Test.YthfgpkdbclogpaaGreatDoorTx19
set_option maxHeartbeats 40000000
set_option maxRecDepth 100000
namespace Go.Proofs.YthfgpkdbclogpaaGreatDoor
open Go.RowKit Go.Maps Go.Shelf
abbrev EnvV:=List UInt8→Option Va
def trE:List Sm→EnvV→List (List UInt8×Value)→Nat→Option (Except Nat (List (List UInt8×Value)×Nat))
 |[],_,E,n=>some (.ok (E,n))
 |_::_,_,_,0=>none
 |s::l,env,E,n+1=>if s.kind=3∧s.text.length≤1000 then(match evE env 20 s.ex n with
   |some (.ok v,m)=>trE l (putV env s.text v) ((s.text,vaV v)::E) m
   |some (.error k,_)=>some (.error k)
   |none=>none)else none
theorem KM.heap {r M:Nat}{w w':World}(h:KM r M w w'){g:Nat}{o:Obj}(hg:w.heap[g]? =some o)(h1:g≠r)(h2:g≠M):w'.heap[g]? =some o:=(h.blk g (Array.getElem?_eq_some_iff.1 hg).1 h1 h2).trans hg
theorem fl10:∀ (us:List (List Value)),(∀ c∈us,c.length=10)→∀ (i k:Nat) (hi:i<us.length),k<10→us.flatten[i*10+k]? =us[i][k]?
 |[],_,i,_,hi,_=>absurd hi (Nat.not_lt_zero _)
 |u::us,hu,i,k,hi,hk=>by
  have hu0:=hu u List.mem_cons_self
  cases i with
  |zero=>
   show(u++us.flatten)[0*10+k]? =u[k]?
   rw[List.getElem?_append_left (by omega)]
   simp
  |succ i=>
   show(u++us.flatten)[(i+1)*10+k]? =(us[i]'(Nat.lt_of_succ_lt_succ hi))[k]?
   rw[List.getElem?_append_right (by omega),←fl10 us (fun c hc=>hu c (List.mem_cons_of_mem _ hc)) i k (by simpa using hi) hk]
   congr 1
   omega
theorem SmA.opn {w:World}{S:Nat→Prop}{x:Sm}{c:List Value}(h:SmA w S x c):∃ a0 c0 ke xe te a1 n1 c1 a2 n2 c2 a3 c3 a4 c4,c=[.int .i64 x.kind,.string (mkB x.text),.slice a0 x.names.length c0,.int .i64 ke,.int .i64 xe,.string te,.slice a1 n1 c1,.slice a2 n2 c2,.slice a3 x.body.length c3,.slice a4 x.els.length c4]∧ExA w S x.ex [.int .i64 ke,.int .i64 xe,.string te,.slice a1 n1 c1,.slice a2 n2 c2]:=by
 obtain⟨n,hn⟩:=h
 match n,hn with
 |n+1,⟨nv,ce,bv,ev,bs,es,e,h1,h2,h3,h4,_⟩=>
  obtain⟨a0,c0,rfl⟩:=row_shape h2
  obtain⟨a3,c3,rfl⟩:=row_shape h3
  obtain⟨a4,c4,rfl⟩:=row_shape h4
  obtain⟨a1,c1,a2,c2,rfl⟩:=h1.form
  exact⟨a0,c0,_,_,_,a1,_,c1,a2,_,c2,a3,c3,a4,c4,e,h1⟩
def StW (l:List Sm)(res:Except Nat (List (List UInt8×Value)×Nat))(wb r M S q:Nat)(W0:World)(i:Nat)(W:World):Prop:=∃ env E n,trE (l.drop i) env E n=some res∧EvS env E W wb r M S q n∧KM r M W0 W
theorem trS_go {l:List Sm}{res:Except Nat (List (List UInt8×Value)×Nat)}{w W0:World}{wb r M S q hi n:Nat}{v:Value}{vs:List (List Value)}{jj:Nat}(hD:DnI w l r M wb hi v vs W0)(hr:r<w.heap.size)(hE:EvS (fun _=>none) [] W0 wb r M S q n)(ht:trE l (fun _=>none) [] n=some res)(hj:∀ k,res= .error k→k=jj)(hl0:0<l.length)(hl1:l.length≤1000):
  Calls Tryz.prog 78 #[ptB wb,v] W0 fun e w'=>(e= .returned .nilIface∧∃ E m,res= .ok (E,m)∧(∃ env,EvS env E w' wb r M S q m)∧KM r M W0 w')∨(e=PE (jj:Nat)∧(∃ k,res= .error k)∧KM r M W0 w'):=by
 obtain⟨g,cap,rfl,hg,hc⟩:=row_g hD.row hl0
 have hgl:=(hD.row.lt g rfl).1
 have hgh:=hD.ob g rfl
 obtain⟨o1,o2,o3,o4⟩:=hD.lo
 have hlen:=hD.fa.len
 have hfl:∀ c∈vs,c.length=10:=fun c hc=>by
  obtain⟨j,hj,rfl⟩:=List.getElem_of_mem hc
  exact(hD.fa.get j (by omega) hj).len
 refine(stmts_go (I:=StW l res wb r M S q W0) (P:=fun w'=>(∃ k,res= .error k)∧KM r M W0 w') (jj:=(jj:Nat)) (by omega) (fun i W hi2 hI=>?_) W0 ⟨_,_,_,ht,hE,KM.refl _ _ _⟩).mono ?_
 ·obtain⟨env,E,n,h1,h2,h3⟩:=hI
  have hx:=hD.fa.get i hi2 (by omega)
  obtain⟨a0,c0,ke,xe,te,a1,n1,c1,a2,n2,c2,a3,c3,a4,c4,he,hex⟩:=hx.opn
  have hdr:l.drop i=l[i]::l.drop (i+1):=List.drop_eq_getElem_cons hi2
  rw[hdr]at h1
  cases n with
  |zero=>cases h1
  |succ n=>
   unfold trE at h1
   split at h1
   ·rename_i hkt
    unfold StI
    refine⟨l[i].kind,mkB l[i].text,a0,l[i].names.length,c0,ke,xe,te,a1,n1,c1,a2,n2,c2,a3,l[i].body.length,c3,a4,l[i].els.length,c4,fun j u hu=>?_,fun V hV=>?_⟩
    ·have hj10:j<10:=by have:=(List.getElem?_eq_some_iff.1 hu).1;simpa using this
     have e1:W.cell? ⟨g,i*10+j,none⟩=W0.cell? ⟨g,i*10+j,none⟩:=World.cell?_of_block (h3.blk g hg (by omega) (by omega))
     rw[e1,hc _ (by omega),fl10 vs hfl i j (by omega) hj10,he]
     exact hu
    ·have h2V:=h2.alloc hV
     have kV:KM r M W0 V:=h3.trans ⟨hV.os,hV.tape,hV.output,hV.size,fun g hg _ _=>hV.block g hg⟩
     have hxV:ExA V (fun g=>w.heap.size≤g) l[i].ex [.int .i64 ke,.int .i64 xe,.string te,.slice a1 n1 c1,.slice a2 n2 c2]:=hex.keep (fun g hg hl=>kV.blk g hl (by omega) (by omega)) (fun g hg _=>hg.1)
     rw[hkt.1]
     split at h1
     ·rename_i v m hev
      refine(set_told h2V hr hxV hev hkt.2 ke xe te a1 a2 n1 c1 n2 c2 rfl).mono ?_
      intro e w' q
      exact .inl ⟨q.1,_,_,_,h1,q.2.1,kV.trans q.2.2⟩
     ·rename_i k m hev
      have hk:res= .error k:=by cases h1;rfl
      refine(set_gave h2V hr hxV hev ke xe te a1 a2 n1 c1 n2 c2 rfl).mono ?_
      intro e w' q
      refine .inr ⟨?_,⟨k,hk⟩,kV.trans (KM.of_kp M q.2)⟩
      rw[q.1,hj k hk]
     ·cases h1
   ·cases h1
 ·intro e w' hq
  rcases hq with⟨rfl,env,E,n,h1,h2,h3⟩|⟨rfl,h1,h2⟩
  ·rw[List.drop_length]at h1
   cases h1
   exact .inl ⟨rfl,E,n,rfl,⟨env,h2⟩,h3⟩
  ·exact .inr ⟨rfl,h1,h2⟩
def SrP (w1 W1 W:World)(r:Nat)(res:Except Nat (List (List UInt8×Value)×Nat))(jj:Nat)(e:Ending)(w':World):Prop:=
 (∃ Mn k E m,res= .ok (E,m)∧e= .returned (.map (some Mn))∧FnI w1.heap.size W1.heap.size W r Mn k E m (fun _ _=>.slice none 0 0) [] 0 0 w')∨
 (e=PE (jj:Nat)∧(∃ k,res= .error k)∧Kq w1.heap.size W1.heap.size W w')
theorem src_any {w w1 W1 W:World}{r fuel jj:Nat}{path:ByteArray}{s:List UInt8}{l:List Sm}{res:Except Nat (List (List UInt8×Value)×Nat)}(hr:ErrR w)(hpa:path.size≤100000)(hp:parR s=some (.ok l))(ht:trE l (fun _=>none) [] fuel=some res)(hj:∀ k,res= .error k→k=jj)(hl0:0<l.length)(hl1:l.length≤1000)(hf:fuel≤100000)
  (hw:Below w.heap.size w w1) (hR:RnI w1.heap.size w1 W1 r path (mkB s) fuel) (h11:w1.heap.size≤W1.heap.size) (hb:Below W1.heap.size W1 W):
  Calls Tryz.prog 14 #[ptB r,.string path] W (SrP w1 W1 W r res jj):=by
 obtain⟨M0,sb,Mb,Ms,q,r1,m0,s1,⟨kb,Eb,pb,mb,_,_⟩,ms,q1,q2,q3,q4,q5,q6,q7,q8⟩:=hR.ex
 have lr:=(Array.getElem?_eq_some_iff.1 r1).1
 have lsb:=(Array.getElem?_eq_some_iff.1 s1).1
 have lq:=(Array.getElem?_eq_some_iff.1 q1).1
 have hs01:=hw.size
 have hsW:=hb.size
 have rW:=(hb.block _ lr).trans r1
 have sW:=(hb.block _ lsb).trans s1
 obtain⟨W2,e2⟩:∃ W2,W2=W.setCell ⟨sb,2,none⟩ (.bool true):=⟨_,rfl⟩
 have z2:W2.heap.size=W.heap.size:=by rw[e2];exact size_set W _ _
 have o2:∀ g,g≠sb→W2.heap[g]? =W.heap[g]? :=fun g hg=>by rw[e2];exact Below.heap_setCell _ ⟨sb,2,none⟩ _ g hg
 have s2:W2.heap[sb]? =some (.cells (soD (mkB s)) 62 (0,0)):=by
  rw[e2,heap_setCell_same W sb 2 _ 62 _ sW]
  rfl
 have hbW:Below w.heap.size w W:=hw.trans ((hR.bel.trans (hb.mono h11)).mono hs01)
 have hbW2:Below w.heap.size w W2:=by rw[e2];exact hbW.setCell (p:=⟨sb,2,none⟩) (by show w.heap.size≤sb;omega) _
 have neq:∀ {g:Nat} {M:Nat} {X:World} {k:Nat} {E:List (List UInt8×Value)} {c:Array Value} {t:TypeId},MV X M k E→X.heap[g]? =some (.cells c t (0,0))→g≠M:=fun{g M X k E c t} h1 h2 e=>by
  obtain⟨es,clock,hbb,_⟩:=h1
  rw[←e,h2]at hbb
  cases hbb
 refine(source_go (r:=r) (M0:=M0) (sb:=sb) (jj:=(jj:Nat)) (Q:=fun Mn w'=>∃ k E m,res= .ok (E,m)∧FnI w1.heap.size W1.heap.size W r Mn k E m (fun _ _=>.slice none 0 0) [] 0 0 (w'.setCell ⟨sb,1,none⟩ (.map (some Mn)))) (P:=fun w'=>(∃ k,res= .error k)∧Kq w1.heap.size W1.heap.size W w') hpa (omapV m0 (hb.block _ m0.lt)) (by rw[Lib.cell_of_heap rW];rfl) sW (fun V hV=>?_)).mono ?_
 ·rw[←e2]at hV
  subst hV
  refine(done_go (r:=r) (jj:=(jj:Nat)) (Q:=fun Mn w'=>w'.heap[sb]? =some (.cells (soD (mkB s)) 62 (0,0))∧∃ k E m,res= .ok (E,m)∧FnI w1.heap.size W1.heap.size W r Mn k E m (fun _ _=>.slice none 0 0) [] 0 0 (w'.setCell ⟨sb,1,none⟩ (.map (some Mn)))) (P:=fun w'=>(∃ k,res= .error k)∧Kq w1.heap.size W1.heap.size W w') (hr.up hbW2) hp (fun X Mn wb hi v vs hD=>?_)).mono ?_
  ·obtain⟨p1,p2,p3,p4⟩:=hD.lo
   have bX:=hD.bel
   have hsX:=bX.size
   have rX:X.heap[r]? =some (.cells #[.map (some M0),.map (some Mb),.map (some Ms),.int .i64 fuel,.slice none 0 0] 52 (0,0)):=(bX.block _ (by omega)).trans ((o2 _ (fun e=>q8 e.symm)).trans rW)
   have qW:=(hb.block _ lq).trans q1
   have nq:q≠sb:=fun e=>by rw[e,sW]at qW;cases qW
   have qX:=(bX.block _ (by omega)).trans ((o2 _ nq).trans qW)
   have msW:=omapV ms (hb.block _ ms.lt)
   have lms:=ms.lt
   have nms:Ms≠sb:=fun e=>neq msW sW e.symm
   have msX:MV X Ms 12 (sgL q):=omapV msW ((bX.block _ (by omega)).trans (o2 _ nms))
   have hE:EvS (fun _=>none) [] X wb r Mn Ms q fuel:=by
    have wX:=hD.wk
    have lwb:=(Array.getElem?_eq_some_iff.1 wX).1
    refine⟨⟨lwb,by omega,by rw[Lib.cell_of_heap wX];rfl,by rw[Lib.cell_of_heap rX];rfl,Lib.frozen_of_heap rX 3,by omega⟩,⟨_,rX⟩,by omega,by omega,by omega,by rw[Lib.cell_of_heap qX];rfl,by rw[Lib.cell_of_heap rX];rfl,sgM_of msX,⟨fun e=>neq msX rX e.symm,by omega⟩,by rw[Lib.cell_of_heap wX];rfl,⟨Mn,by rw[Lib.cell_of_heap wX];rfl⟩,⟨Mb,by rw[Lib.cell_of_heap rX];rfl⟩,by omega,⟨0,hD.mv,by omega⟩,(fun t v e=>by cases e),(fun t v e=>by cases e),⟨fun e=>p4 e.symm,by omega,by omega⟩,by rw[Lib.cell_of_heap rX];rfl⟩
   refine(trS_go hD (by omega) hE ht hj hl0 hl1).mono ?_
   intro e w' hq
   rcases hq with⟨rfl,E,m,h1,⟨env,h2⟩,h3⟩|⟨rfl,h1,h2⟩
   ·left
    have sX:=(bX.block _ (by omega)).trans s2
    have s3:=h3.heap sX q8 (by omega)
    refine⟨rfl,s3,?_⟩
    obtain⟨k,mv,_⟩:=h2.mv
    have o3:∀ g,g≠sb→(w'.setCell ⟨sb,1,none⟩ (.map (some Mn))).heap[g]? =w'.heap[g]? :=fun g hg=>Below.heap_setCell _ ⟨sb,1,none⟩ _ g hg
    refine⟨k,E,m,h1,⟨?_,?_,?_,?_,?_,?_,?_,⟨q5,lr⟩,omapV mv (o3 _ (fun e=>neq mv s3 e.symm)),(fun p hp=>by cases hp),(fun hh=>absurd rfl hh)⟩⟩
    ·show w'.os=W.os
     rw[h3.os,bX.os,e2]
     rfl
    ·show w'.tape=W.tape
     rw[h3.tape,bX.tape,e2]
     rfl
    ·show w'.output=W.output
     rw[h3.output,bX.output,e2]
     rfl
    ·rw[size_set]
     have:=h3.size
     omega
    ·intro g hg hgo
     have n1:g≠sb:=by omega
     have n2:g≠r:=by omega
     rw[o3 g n1,h3.blk g (by omega) n2 (by omega),bX.block g (by omega),o2 g n1]
    ·exact(World.cell?_of_block (o3 r (fun e=>q8 e.symm))).trans h2.wk.fuel
    ·exact(World.cell?_of_block (o3 r (fun e=>q8 e.symm))).trans h2.tg
   ·right
    refine⟨rfl,h1,?_,?_,?_,?_,fun g hg hgo=>?_⟩
    ·show w'.os=W.os
     rw[h2.os,bX.os,e2]
     rfl
    ·show w'.tape=W.tape
     rw[h2.tape,bX.tape,e2]
     rfl
    ·show w'.output=W.output
     rw[h2.output,bX.output,e2]
     rfl
    ·have:=h2.size
     omega
    ·have n1:g≠sb:=by omega
     have n2:g≠r:=by omega
     rw[h2.blk g (by omega) n2 (by omega),bX.block g (by omega),o2 g n1]
  ·intro e w' hq
   rcases hq with⟨Mn,h1,h2,h3⟩|h
   ·exact .inl ⟨Mn,h1,h2,h3⟩
   ·exact .inr h
 ·intro e w' hq
  rcases hq with⟨Mn,w3,rfl,⟨k,E,m,h1,h2⟩,rfl⟩|⟨rfl,h1,h2⟩
  ·exact .inl ⟨Mn,k,E,m,h1,rfl,h2⟩
  ·exact .inr ⟨rfl,h1,h2⟩
theorem src_ok {w:World}{fuel m:Nat}{path:ByteArray}{s:List UInt8}{l:List Sm}{E:List (List UInt8×Value)}(hr:ErrR w)(hpa:path.size≤100000)(hp:parR s=some (.ok l))(ht:trE l (fun _=>none) [] fuel=some (.ok (E,m)))(hl0:0<l.length)(hl1:l.length≤1000)(hf:fuel≤100000):SoO w path (mkB s) fuel m E (fun _ _=>.slice none 0 0) []:=by
 intro w1 W1 W r hw hR h11 hb
 refine(src_any (jj:=0) hr hpa hp ht (fun k e=>by cases e) hl0 hl1 hf hw hR h11 hb).mono ?_
 intro e w' hq
 rcases hq with⟨Mn,k,E',m',h1,h2,h3⟩|⟨_,⟨k,h1⟩,_⟩
 ·cases h1
  exact⟨Mn,k,0,0,h2,h3⟩
 ·cases h1
theorem src_no {w:World}{fuel j:Nat}{path:ByteArray}{s:List UInt8}{l:List Sm}(hr:ErrR w)(hpa:path.size≤100000)(hp:parR s=some (.ok l))(ht:trE l (fun _=>none) [] fuel=some (.error j))(hl0:0<l.length)(hl1:l.length≤1000)(hf:fuel≤100000):SoN w path (mkB s) fuel j:=by
 intro w1 W1 W r hw hR h11 hb
 refine(src_any (jj:=j) hr hpa hp ht (fun k e=>by cases e;rfl) hl0 hl1 hf hw hR h11 hb).mono ?_
 intro e w' hq
 rcases hq with⟨Mn,k,E',m',h1,h2,h3⟩|⟨h1,_,h3⟩
 ·cases h1
 ·exact⟨h1,h3⟩
end Go.Proofs.YthfgpkdbclogpaaGreatDoor
namespace Go.Proofs.YthfgpkdbclogpaaGreatDoor
open Go.RowKit Go.Shelf
theorem reckon_call {wb r:Nat}{n x:Int}{t:ByteArray}{v:Value}{a1 a2:Option Addr}{n1 c1 n2 c2:Nat}{w:World}{P:World→World→Prop}(h:WkAt w wb r n)(hn:0<n)
  (HN:∀ W,Fr w.heap.size r (n-1) w W→Calls Tryz.prog 180 #[.pointer (some ⟨wb,0,none⟩),exV 10 x t (.slice a1 n1 c1) (.slice a2 n2 c2)] W fun e w'=>e= .returned v∧P W w'):
  Calls Tryz.prog 141 #[.pointer (some ⟨wb,0,none⟩),exV 10 x t (.slice a1 n1 c1) (.slice a2 n2 c2)] w fun e w'=>e= .returned v∧∃ W,Fr w.heap.size r (n-1) w W∧P W w':=by
 obtain⟨hw,HB,HF,f0,f1,f2,f3,f4⟩:=box_burn h hn _ _ rfl rfl (k:=10) (x:=x) (t:=t) (v1:= .slice a1 n1 c1) (v2:= .slice a2 n2 c2)
 have HC:=HN _ HF
 go_enter Tryz.func141,Tryz.ntmps141
 go_wp2_with fail
 refine HB.mono ?_
 rintro e w' ⟨rfl,rfl⟩
 go_wp2_with fail
 refine HC.mono ?_
 rintro e w' ⟨rfl,hb⟩
 have HZ:Hid (P _ w'):=hb
 clear hb HC HB HN
 go_wp2
 go_ret
 exact⟨rfl,_,HF,HZ.out⟩
abbrev begX:Ex:=⟨10,0,[],[⟨6,0,kRule,[],[]⟩,⟨5,0,[116],[],[]⟩],[[110,97,109,101]]⟩
abbrev begL:List UInt8:=[120,32,61,32,114,117,108,101,40,110,97,109,101,61,34,116,34,41]
abbrev begS:List Sm:=[⟨3,[120],[],begX,[],[]⟩]
theorem beg_parR:parR begL=some (.ok begS):=by kernel_rfl
structure BgS (w:World)(wb r M Mb p:Nat)(a c:Value)(n:Int):Prop where
 wk:WkAt w wb r n
 ra:RAt w r #[a,.map (some Mb),c,.int .i64 n,.slice none 0 0]
 ne:wb≠r
 own:w.cell? ⟨wb,1,none⟩=some (.map (some M))
 home:w.cell? ⟨wb,2,none⟩=some (.map (some M))
 mv:MV w M 0 []
 mb:∃ k E,MV w Mb k E∧lkE E kRule=some (fnI p)
 fn:w.heap[p]? =some (.cells (fnC r) 102 (0,0))
 neM:M≠r
 neB:Mb≠r
 neP:p≠r
theorem BgS.fr {w W:World}{wb r M Mb p:Nat}{a c:Value}{n m:Int}(h:BgS w wb r M Mb p a c n)(hm:m≤n)(f:Fr w.heap.size r m w W):BgS W wb r M Mb p a c m:=by
 obtain⟨k,E,mv,hE⟩:=h.mb
 have hs:=f.size
 have hr:W.heap[r]? =some (.cells #[a,.map (some Mb),c,.int .i64 m,.slice none 0 0] 52 (0,0)):=f.at h.wk.lr h.ra
 have blk:∀ g,g<w.heap.size→g≠r→W.heap[g]? =w.heap[g]? :=fun g h1 h2=>by rw[f.block g h1,Below.heap_setCell _ _ _ _ h2]
 have hp:=(Array.getElem?_eq_some_iff.1 h.fn).1
 refine⟨⟨Nat.lt_of_lt_of_le h.wk.lw hs,Nat.lt_of_lt_of_le h.wk.lr hs,?_,?_,Lib.frozen_of_heap hr 3,by have:=h.wk.most;omega⟩,hr,h.ne,?_,?_,omapV h.mv (blk M h.mv.lt h.neM),⟨k,E,omapV mv (blk Mb mv.lt h.neB),hE⟩,(blk p hp h.neP).trans h.fn,h.neM,h.neB,h.neP⟩
 ·rw[f.other (p:=⟨wb,0,none⟩) h.wk.lw h.ne];exact h.wk.run
 ·rw[Lib.cell_of_heap hr];rfl
 ·rw[f.other (p:=⟨wb,1,none⟩) h.wk.lw h.ne];exact h.own
 ·rw[f.other (p:=⟨wb,2,none⟩) h.wk.lw h.ne];exact h.home
theorem rk_name {w:World}{wb r M Mb p:Nat}{a c:Value}{n:Int}{a1 a2:Option Addr}{n1 c1 n2 c2:Nat}(h:BgS w wb r M Mb p a c n)(hn:0<n):Rk w wb r (exV 6 0 (mkB kRule) (.slice a1 n1 c1) (.slice a2 n2 c2)) n (n-1) (fnI p):=by
 intro W0 F0
 have h0:=h.fr (Int.le_refl _) F0
 refine reckon_name h0.wk hn fun W F=>?_
 have hW:=h0.fr (by omega) F
 obtain⟨k,E,mb,hE⟩:=hW.mb
 have hz:kRule.length=4:=rfl
 have none:LkW W M (mkB kRule) (.tuple #[.nilIface,.bool false]):=fun V hV=>by
  have:=MV.look (omapV hW.mv (hV.block M hW.mv.lt)) Tryz.underlying46 (zeroV V) (s:=mkB kRule) (by rw[mk_size];unfold maxLen;omega)
  exact this
 refine named_in wb r M M Mb (mkB kRule) (fnI p) .nilIface .nilIface W hW.wk.run hW.own hW.home (by rw[Lib.cell_of_heap hW.ra];rfl) none none fun V hV=>?_
 have:=MV.look (omapV mb (hV.block Mb mb.lt)) Tryz.underlying46 (zeroV V) (s:=mkB kRule) (by rw[mk_size];unfold maxLen;omega)
 rw[mk_data,hE]at this
 exact this
theorem rk_text {w:World}{wb r M Mb p:Nat}{a c:Value}{n:Int}{a1 a2:Option Addr}{n1 c1 n2 c2:Nat}(h:BgS w wb r M Mb p a c n)(hn:0<n):Rk w wb r (exV 5 0 (mkB [116]) (.slice a1 n1 c1) (.slice a2 n2 c2)) n (n-1) (txV bT):=by
 intro W0 F0
 exact reckon_text (h.fr (Int.le_refl _) F0).wk hn
theorem rk_call {w:World}{wb r M Mb p lo:Nat}{a c:Value}{n:Int}{a1 a2:Option Addr}{c1 c2:Nat}(h:BgS w wb r M Mb p a c n)(hn:3<n)(hl:r<lo)(hx:ExA w (fun g=>lo≤g) begX [.int .i64 10,.int .i64 0,.string (mkB []),.slice a1 2 c1,.slice a2 1 c2]):
  Calls Tryz.prog 141 #[ptB wb,exV 10 0 (mkB []) (.slice a1 2 c1) (.slice a2 1 c2)] w fun e w'=>e= .returned (txV bT)∧KP r w w'∧RuQ a (.map (some Mb)) c (n-3) r w.heap.size w':=by
 refine(reckon_call (P:=fun W w'=>KP r W w'∧RuQ a (.map (some Mb)) c (n-1-1-1) r W.heap.size w') (v:=txV bT) h.wk (by omega) fun W F=>?_).mono ?_
 ·have hW:=h.fr (by omega) F
  obtain⟨d,hd⟩:=ex_keep hx hl F
  match d,hd with
  |d+1,⟨kv,nv,vs,e,h1,h2,h3,h4,h5⟩=>
   obtain⟨-,-,-,e1,e2⟩:(Value.int .i64 10:Value)= .int .i64 begX.kind∧(Value.int .i64 0:Value)= .int .i64 begX.num∧Value.string (mkB [])=sv begX.text∧Value.slice a1 2 c1=kv∧Value.slice a2 1 c2=nv:=by simpa using e
   have h5':Fa (ExA W fun g=>lo≤g) begX.kids vs:=h5.mono fun _ _ f=>⟨_,f⟩
   rw[←e1]at h1 h3
   rw[←e2]at h2 h4
   obtain⟨g,cap,hg,hk⟩:=kid_at h1 h3 hl h5' (by decide)
   obtain⟨p1,g1,p2,g2,hk1,-⟩:=hk 0 (by decide)
   obtain⟨p3,g3,p4,g4,hk2,-⟩:=hk 1 (by decide)
   obtain⟨gn,cn,hgn,hgl,hgc⟩:=row_f h2 (by decide)
   injection hg with q1 q2 q3
   injection hgn with q4 q5 q6
   subst q1 q3 q4 q6
   have hgb:=h4 gn rfl
   have hcap:2≤c1∧c1≤maxLen:=by
    rcases h1.2 with⟨h0,_⟩|⟨g',cap',cur,hv,h2,h3,h4,h5,h6⟩
    ·cases h0
    ·injection hv with z1 z2 z3
     subst z3
     exact⟨h4,h5⟩
   exact call1 (p:=p) (m1:=n-1-1) (m2:=n-1-1-1) hW.wk hW.ra hW.ne hk1 hk2 ((hgc 0 (by decide)).trans rfl) (by omega) hW.fn hW.neP hcap (rk_name hW (by omega)) (fun W2 F2=>rk_text (hW.fr (by omega) F2) (by omega) W2 (Fr.same (hW.fr (by omega) F2).ra (hW.fr (by omega) F2).wk.fuel (Below.refl _ _)))
 ·rintro e w' ⟨rfl,W,F,hk,tb,tc,q1,q2,q3⟩
  refine⟨rfl,(kp_of F).trans hk,tb,tc,Nat.le_trans F.size q1,?_,q3⟩
  rw[show n-3=n-1-1-1 by omega]
  exact q2
structure BgP (W0:World)(r M Mb:Nat)(a c:Value)(n:Int)(w':World):Prop where
 km:KM r M W0 w'
 mv:MV w' M 1 [([120],txV bT)]
 ru:RuQ a (.map (some Mb)) c n r W0.heap.size w'
theorem st_beg {V:World}{wb r M Mb p lo:Nat}{a c:Value}{n:Int}{a0 a1 a2 a3 a4:Option Addr}{n0 c0 c1 c2 n3 c3 n4 c4:Nat}(h:BgS V wb r M Mb p a c n)(hn:4<n)(hl:r<lo)(hwM:wb≠M)(hx:ExA V (fun g=>lo≤g) begX [.int .i64 10,.int .i64 0,.string (mkB []),.slice a1 2 c1,.slice a2 1 c2]):
  Calls Tryz.prog 111 #[ptB wb,.agg (stV 3 (mkB [120]) (.slice a0 n0 c0) 10 0 (mkB []) (.slice a1 2 c1) (.slice a2 1 c2) (.slice a3 n3 c3) (.slice a4 n4 c4))] V fun e w'=>e= .returned .nilIface∧BgP V r M Mb a c (n-4) w':=by
 refine set_go (v:=txV bT) h.wk h.ra (by omega) h.ne h.own h.mv.lt hwM fun W F=>?_
 have hW:=h.fr (by omega) F
 refine(rk_call hW (by omega) hl (ex_keep hx hl F)).mono ?_
 rintro e w' ⟨rfl,kp,tb,tc,q1,q2,q3⟩
 have mv2:MV w' M 0 []:=omapV hW.mv (kp.blk M hW.mv.lt hW.neM)
 obtain⟨w4,hu,mv4,hm4⟩:=mv2.put Tryz.underlying46 (by unfold maxLen;omega) (s:=mkB [120]) (by rw[mk_size];unfold maxLen;simp) (txV bT)
 rw[mk_data]at mv4
 have hg:=hm4.grown
 have hMW:=hW.mv.lt
 have blk:∀ g,g<w'.heap.size→g≠M→w4.heap[g]? =w'.heap[g]? :=fun g h1 h2=>hg.block g h1 fun e=>h2 (Option.some.inj e)
 refine⟨rfl,kp,w4,hu,hm4,((KM.of_kp M (kp_of F)).trans (KM.of_kp M kp)).trans (KM.of_put hm4),mv4,tb,tc,Nat.le_trans F.size q1,?_,?_⟩
 ·rw[blk r (Array.getElem?_eq_some_iff.1 q2).1 (fun e=>h.neM e.symm),show n-4=n-1-3 by omega]
  exact q2
 ·exact(World.cell?_of_block (blk tb (World.block_lt_of_cell? _ _ q3) (by show tb≠M;omega))).trans q3
theorem BgS.alloc {w w':World}{wb r M Mb p:Nat}{a c:Value}{n:Int}(h:BgS w wb r M Mb p a c n)(hb:Below w.heap.size w w'):BgS w' wb r M Mb p a c n:=h.fr (Int.le_refl _) (Fr.same h.ra h.wk.fuel hb)
theorem sts_beg {w W0:World}{wb r M Mb p hi:Nat}{a c v:Value}{n:Int}{vs:List (List Value)}(hD:DnI w begS r M wb hi v vs W0)(hr:r<w.heap.size)(h:BgS W0 wb r M Mb p a c n)(hn:4<n):
  Calls Tryz.prog 78 #[ptB wb,v] W0 fun e w'=>e= .returned .nilIface∧BgP W0 r M Mb a c (n-4) w':=by
 obtain⟨g,cap,rfl,hg,hc⟩:=row_g hD.row (by decide)
 obtain⟨o1,o2,o3,o4⟩:=hD.lo
 have hlen:1=vs.length:=hD.fa.len
 have hfl:∀ c∈vs,c.length=10:=fun c hc=>by
  obtain⟨j,hj,rfl⟩:=List.getElem_of_mem hc
  exact(hD.fa.get j (by show j<1;omega) hj).len
 refine(stmts_go (I:=fun i W=>(i=0∧W=W0)∨(i=1∧BgP W0 r M Mb a c (n-4) W)) (P:=fun _=>False) (jj:=0) (by decide) (fun i W hi2 hI=>?_) W0 (.inl ⟨rfl,rfl⟩)).mono ?_
 ·have hi1:i<1:=hi2
  rcases hI with⟨rfl,rfl⟩|⟨rfl,_⟩
  ·have hx:=hD.fa.get 0 (by decide) (by omega)
   obtain⟨a0,c0,ke,xe,te,a1,n1,c1,a2,n2,c2,a3,c3,a4,c4,he,hex⟩:=hx.opn
   obtain⟨p1,e1,p2,e2,hf⟩:=hex.form
   obtain⟨rfl,rfl,rfl,⟨rfl,rfl,rfl⟩,rfl,rfl,rfl⟩:ke=((10:Nat):Int)∧xe=((0:Nat):Int)∧te=mkB []∧(a1=p1∧n1=2∧c1=e1)∧a2=p2∧n2=1∧c2=e2:=by simpa[begS,begX,sv]using hf
   unfold StI
   refine⟨3,mkB [120],a0,0,c0,10,0,mkB [],a1,2,c1,a2,1,c2,a3,0,c3,a4,0,c4,fun j u hu=>?_,fun V hV=>?_⟩
   ·have hj10:j<10:=by have:=(List.getElem?_eq_some_iff.1 hu).1;simpa using this
    rw[hc _ (by show 0*10+j<1*10;omega),fl10 vs hfl 0 j (by omega) hj10,he]
    exact hu
   ·have hs:=hV.size
    refine(st_beg (h.alloc hV) hn hr (fun e=>o4 e.symm) (hex.keep (fun g hg hl=>hV.block g hl) (fun g hg _=>hg.1))).mono ?_
    rintro e w' ⟨rfl,hp⟩
    obtain⟨tb,tc,q1,q2,q3⟩:=hp.ru
    exact .inl ⟨rfl,.inr ⟨rfl,KM.trans ⟨hV.os,hV.tape,hV.output,hs,fun g hg _ _=>hV.block g hg⟩ hp.km,hp.mv,tb,tc,Nat.le_trans hs q1,q2,q3⟩⟩
  ·omega
 ·intro e w' hq
  rcases hq with⟨rfl,⟨h0,_⟩|⟨_,h1⟩⟩|⟨_,h0⟩
  ·exact absurd h0 (by decide)
  ·exact⟨rfl,h1⟩
  ·exact h0.elim
theorem src_beg {w:World}{fuel:Nat}{path:ByteArray}(hr:ErrR w)(hpa:path.size≤100000)(hf0:4<fuel)(hf:fuel≤100000):SoO w path (mkB begL) fuel ((fuel:Int)-4) [([120],txV bT)] (fun tb tc=>.slice (some ⟨tb,0,none⟩) 1 tc) [(0,.string bT)]:=by
 intro w1 W1 W r hw hR h11 hb
 obtain⟨M0,sb,Mb,Ms,q,r1,m0,s1,⟨kb,Eb,pb,mb,hEb,hRu⟩,ms,q1,q2,q3,q4,q5,q6,q7,q8⟩:=hR.ex
 obtain⟨hp1,hp2⟩:=hRu
 have lr:=(Array.getElem?_eq_some_iff.1 r1).1
 have lsb:=(Array.getElem?_eq_some_iff.1 s1).1
 have lp:=(Array.getElem?_eq_some_iff.1 hp2).1
 have hs01:=hw.size
 have hsW:=hb.size
 have rW:=(hb.block _ lr).trans r1
 have sW:=(hb.block _ lsb).trans s1
 have pW:=(hb.block _ lp).trans hp2
 obtain⟨W2,e2⟩:∃ W2,W2=W.setCell ⟨sb,2,none⟩ (.bool true):=⟨_,rfl⟩
 have z2:W2.heap.size=W.heap.size:=by rw[e2];exact size_set W _ _
 have o2:∀ g,g≠sb→W2.heap[g]? =W.heap[g]? :=fun g hg=>by rw[e2];exact Below.heap_setCell _ ⟨sb,2,none⟩ _ g hg
 have s2:W2.heap[sb]? =some (.cells (soD (mkB begL)) 62 (0,0)):=by
  rw[e2,heap_setCell_same W sb 2 _ 62 _ sW]
  rfl
 have hbW:Below w.heap.size w W:=hw.trans ((hR.bel.trans (hb.mono h11)).mono hs01)
 have hbW2:Below w.heap.size w W2:=by rw[e2];exact hbW.setCell (p:=⟨sb,2,none⟩) (by show w.heap.size≤sb;omega) _
 have neq:∀ {g:Nat} {M:Nat} {X:World} {k:Nat} {E:List (List UInt8×Value)} {c:Array Value} {t:TypeId},MV X M k E→X.heap[g]? =some (.cells c t (0,0))→g≠M:=fun{g M X k E c t} h1 h2 e=>by
  obtain⟨es,clock,hbb,_⟩:=h1
  rw[←e,h2]at hbb
  cases hbb
 refine(source_go (r:=r) (M0:=M0) (sb:=sb) (jj:=0) (Q:=fun Mn w'=>∃ k tb tc,FnI w1.heap.size W1.heap.size W r Mn k [([120],txV bT)] ((fuel:Int)-4) (fun tb tc=>.slice (some ⟨tb,0,none⟩) 1 tc) [(0,.string bT)] tb tc (w'.setCell ⟨sb,1,none⟩ (.map (some Mn)))) (P:=fun _=>False) hpa (omapV m0 (hb.block _ m0.lt)) (by rw[Lib.cell_of_heap rW];rfl) sW (fun V hV=>?_)).mono ?_
 ·rw[←e2]at hV
  subst hV
  refine(done_go (r:=r) (jj:=0) (Q:=fun Mn w'=>w'.heap[sb]? =some (.cells (soD (mkB begL)) 62 (0,0))∧∃ k tb tc,FnI w1.heap.size W1.heap.size W r Mn k [([120],txV bT)] ((fuel:Int)-4) (fun tb tc=>.slice (some ⟨tb,0,none⟩) 1 tc) [(0,.string bT)] tb tc (w'.setCell ⟨sb,1,none⟩ (.map (some Mn)))) (P:=fun _=>False) (hr.up hbW2) beg_parR (fun X Mn wb hi v vs hD=>?_)).mono ?_
  ·obtain⟨p1,p2,p3,p4⟩:=hD.lo
   have bX:=hD.bel
   have hsX:=bX.size
   have rX:X.heap[r]? =some (.cells #[.map (some M0),.map (some Mb),.map (some Ms),.int .i64 fuel,.slice none 0 0] 52 (0,0)):=(bX.block _ (by omega)).trans ((o2 _ (fun e=>q8 e.symm)).trans rW)
   have npb:pb≠sb:=fun e=>by rw[e,sW]at pW;cases pW
   have pX:=(bX.block _ (by omega)).trans ((o2 _ npb).trans pW)
   have mbW:=omapV mb (hb.block _ mb.lt)
   have lmb:=mb.lt
   have nmb:Mb≠sb:=fun e=>neq mbW sW e.symm
   have mbX:MV X Mb kb Eb:=omapV mbW ((bX.block _ (by omega)).trans (o2 _ nmb))
   have npr:pb≠r:=fun e=>by rw[e,rX]at pX;cases pX
   have hE:BgS X wb r Mn Mb pb (.map (some M0)) (.map (some Ms)) fuel:=by
    have wX:=hD.wk
    have lwb:=(Array.getElem?_eq_some_iff.1 wX).1
    exact⟨⟨lwb,by omega,by rw[Lib.cell_of_heap wX];rfl,by rw[Lib.cell_of_heap rX];rfl,Lib.frozen_of_heap rX 3,by omega⟩,rX,by omega,by rw[Lib.cell_of_heap wX];rfl,by rw[Lib.cell_of_heap wX];rfl,hD.mv,⟨kb,Eb,mbX,hEb⟩,pX,by omega,by omega,npr⟩
   refine(sts_beg hD (by omega) hE (by omega)).mono ?_
   rintro e w' ⟨rfl,h3,mv,tb,tc,t1,t2,t3⟩
   left
   have sX:=(bX.block _ (by omega)).trans s2
   have s3:=h3.heap sX q8 (by omega)
   have hs3:=h3.size
   refine⟨rfl,s3,?_⟩
   have o3:∀ g,g≠sb→(w'.setCell ⟨sb,1,none⟩ (.map (some Mn))).heap[g]? =w'.heap[g]? :=fun g hg=>Below.heap_setCell _ ⟨sb,1,none⟩ _ g hg
   refine⟨1,tb,tc,⟨?_,?_,?_,?_,?_,?_,?_,⟨q5,lr⟩,omapV mv (o3 _ (fun e=>neq mv s3 e.symm)),?_,(fun _=>by omega)⟩⟩
   ·show w'.os=W.os
    rw[h3.os,bX.os,e2]
    rfl
   ·show w'.tape=W.tape
    rw[h3.tape,bX.tape,e2]
    rfl
   ·show w'.output=W.output
    rw[h3.output,bX.output,e2]
    rfl
   ·rw[size_set]
    omega
   ·intro g hg hgo
    have n1:g≠sb:=by omega
    have n2:g≠r:=by omega
    rw[o3 g n1,h3.blk g (by omega) n2 (by omega),bX.block g (by omega),o2 g n1]
   ·refine(World.cell?_of_block (o3 r (fun e=>q8 e.symm))).trans ?_
    rw[Lib.cell_of_heap t2]
    rfl
   ·refine(World.cell?_of_block (o3 r (fun e=>q8 e.symm))).trans ?_
    rw[Lib.cell_of_heap t2]
    rfl
   ·intro pr hpr
    cases hpr with
    |head=>exact(World.cell?_of_block (o3 tb (by omega))).trans t3
    |tail _ h=>cases h
  ·intro e w' hq
   rcases hq with⟨Mn,h1,h2,h3⟩|h
   ·exact .inl ⟨Mn,h1,h2,h3⟩
   ·exact .inr h
 ·intro e w' hq
  rcases hq with⟨Mn,w3,rfl,⟨k,tb,tc,h2⟩,rfl⟩|⟨_,h0⟩
  ·exact⟨Mn,k,tb,tc,rfl,h2⟩
  ·exact h0.elim
end Go.Proofs.YthfgpkdbclogpaaGreatDoor
