/- 5. -/
import Derived.Test.YthfgpkdbclogpaaGreatDoorTx4
set_option maxHeartbeats 40000000
set_option maxRecDepth 100000
namespace Go.Proofs.YthfgpkdbclogpaaGreatDoor
open Go.RowKit Go.Shelf
theorem icut (g n cap k:Nat)(hk:k≤n)(hc:n≤cap)(W:World):(Instr.slice 221 (.slice (some ⟨g,0,none⟩) n cap) none (some (.int .i64 (k:Int))) none).run Tryz.prog W= .ok (.slice (some ⟨g,0,none⟩) k cap) W:=by
 have hkc:k≤cap:=Nat.le_trans hk hc
 simp[Instr.slice,Instr.sliceBounds,Instr.sliceBound,run_underlying Tryz.underlying221,asIntOf,hkc]
 intro _
 simp[Addr.add]
theorem own_pop {w:World}{B g cap m:Nat}{e:TypeId}{xs:List Value}(h:w.ownsRow B e 1 (.slice (some ⟨g,0,none⟩) (m+1) cap) (m+1) xs):w.ownsRow B e 1 (.slice (some ⟨g,0,none⟩) m cap) m (xs.take m):=by
 rcases h.2 with⟨hv,_⟩|⟨g',cap',cur,hv,hb,hg,hc,hm,hz,ht⟩
 ·cases hv
 ·injection hv with e1 _ e3
  injection e1 with e1
  injection e1 with e1
  subst e1
  subst e3
  have hx:=h.1
  refine⟨by rw[List.length_take];omega,.inr ⟨g,cap,cur,rfl,hb,hg,by omega,hm,hz,?_⟩⟩
  rw[←ht,List.take_take]
  congr 1
  omega
theorem own_cap {w:World}{B g cap n:Nat}{e:TypeId}{xs:List Value}(h:w.ownsRow B e 1 (.slice (some ⟨g,0,none⟩) n cap) n xs):n≤cap:=by
 rcases h.2 with⟨hv,_⟩|⟨g',cap',cur,hv,hb,hg,hc,_⟩
 ·cases hv
 ·injection hv with e1 _ e3
  subst e3
  exact hc
theorem new_int (W:World)(x:Nat):∀ (j:Nat) (u:Value),[Value.int .i64 (x:Int)][j]? =some u→(W.alloc (.cells #[.int .i64 (x:Int)] 3)).cell? ((⟨W.heap.size,0,none⟩:Addr).add j)=some u:=by
 intro j u hj
 match j,hj with
 |0,hj=>
  simp at hj
  subst hj
  rw[add0]
  exact al_at W _ _ _ 0 _ rfl rfl
theorem TS.push {B P:Nat}{L:List UInt8}{tv iv:Value}{w:World}{p:Sp}(h:TS B P L tv iv w p)(x:Nat){W w1 w':World}(hW:∀ g:Nat,g<w.heap.size→W.heap[g]? =w.heap[g]?)(hWs:w.heap.size<W.heap.size){g1 cap1:Nat}
  (hown:w1.ownsRow B 3 1 (.slice (some ⟨g1,0,none⟩) (p.ins.length+1) cap1) (p.ins.length+1) (ics p.ins.reverse++[.int .i64 x])) (hgrow:W.grownBy w1 iv.ownBlock) (hat:iv.ownBlock=some g1∨g1=W.heap.size)
  (hw:∀ g:Nat,w'.heap[g]? =(w1.setCell ⟨P,3,none⟩ (.slice (some ⟨g1,0,none⟩) (p.ins.length+1) cap1)).heap[g]?):TS B P L tv (.slice (some ⟨g1,0,none⟩) (p.ins.length+1) cap1) w' {p with ins:=x::p.ins}:=by
 have hP:=h.lt
 have hgP:g1≠P:=by
  rcases hat with e|e
  ·exact fun e2=>h.ni (by rw[e,e2])
  ·omega
 have hgt:tv.ownBlock≠some g1:=by
  rcases hat with e|e
  ·exact fun e2=>h.nn g1 e2 e
  ·intro e2
   have:=(h.ot.lt g1 e2).2
   omega
 have hb:w1.heap[P]? =w.heap[P]? :=(hgrow.block P (by omega) (fun e=>h.ni e.symm)).trans (hW P hP)
 have hot:w1.ownsRow B 255 4 tv p.toks.length (tcs p.toks):=own_heap h.ot fun g hg=>(hgrow.block g (by have:=(h.ot.lt g hg).2;omega) (fun e=>h.nn g hg e.symm)).trans (hW g (h.ot.lt g hg).2)
 have k:∀ g:Nat,g≠P→w'.heap[g]? =w1.heap[g]? :=fun g hg=>(hw g).trans (Below.heap_setCell w1 ⟨P,3,none⟩ _ g hg)
 refine⟨h.hB,?_,own_heap hot fun g hg=>k g fun e=>h.nt (by rw[hg,e]),?_,h.nt,?_,?_⟩
 ·rw[hw P,Go.Joins.block_setCell (hb.trans h.blk)]
  rfl
 ·show w'.ownsRow _ _ _ _ (x::p.ins).length (ics (x::p.ins).reverse)
  rw[List.length_cons,List.reverse_cons,ics_snoc]
  exact own_heap hown fun g hg=>k g (by simp[Value.ownBlock]at hg;subst hg;exact hgP)
 ·simp[Value.ownBlock]
  exact hgP
 ·intro a ha hb'
  simp[Value.ownBlock]at hb'
  subst hb'
  exact hgt ha
structure InOk (p:Sp):Prop where
 ne:p.ins≠[]
 bot:p.ins.getLast?=some 0
theorem InOk.two {p:Sp}(h:InOk p)(i:Nat)(hi:i<p.top):2≤p.ins.length:=by
 match hp:p.ins with
 |[]=>exact absurd hp h.ne
 |[a]=>
  have:=h.bot
  rw[hp]at this
  simp at this
  unfold Sp.top at hi
  rw[hp,this]at hi
  simp at hi
 |a::b::r=>simp
theorem InOk.pop {p:Sp}(h:InOk p)(h2:2≤p.ins.length)(q:Sp)(hq:q.ins=p.ins.drop 1):InOk q:=by
 match hp:p.ins,h2 with
 |a::b::r,_=>
  have hb:=h.bot
  rw[hp]at hb hq
  exact⟨by rw[hq];simp,by rw[hq];simpa using hb⟩
theorem InOk.push {p:Sp}(h:InOk p)(x:Nat)(q:Sp)(hq:q.ins=x::p.ins):InOk q:=by
 match hp:p.ins with
 |[]=>exact absurd hp h.ne
 |a::r=>
  have hb:=h.bot
  rw[hp]at hb hq
  exact⟨by rw[hq];simp,by rw[hq];simpa using hb⟩
def lenAt (P:Nat)(w:World):Nat:=match w.cell? ⟨P,3,none⟩with|some (.slice _ n _)=>n|_=>0
theorem TS.lenAt {B P:Nat}{L:List UInt8}{tv iv:Value}{w:World}{p:Sp}(h:TS B P L tv iv w p)(h0:0<p.ins.length):lenAt P w=p.ins.length:=by
 obtain⟨g,cap,hv,_,_⟩:=h.oi.form h0
 subst hv
 unfold Go.Proofs.YthfgpkdbclogpaaGreatDoor.lenAt
 rw[h.c3]
theorem outF_step (i f:Nat)(q:Sp)(h:i<q.top):outF i (f+1) q=outF i f ({q with ins:=q.ins.drop 1}.add 8):=by
 show(if i<q.top then _ else _)=_
 rw[if_pos h]
theorem outF_stop (i f:Nat)(q:Sp)(h:¬i<q.top):outF i f q=q:=by
 cases f with
 |zero=>rfl
 |succ f=>
  show(if i<q.top then _ else _)=_
  rw[if_neg h]
theorem come_any {B P:Nat}{L:List UInt8}{tv iv:Value}{w:World}{p:Sp}(h:TS B P L tv iv w p)(hk:InOk p)(i:Nat)(hn:p.ins.length+p.toks.length≤90000):
  Calls Tryz.prog 214 #[.pointer (some ⟨P,0,none⟩),.int .i64 i] w fun e w'=>e= .returned (.tuple #[])∧∃ tv' iv',TS B P L tv' iv' w' (p.come i)∧Below B w w':=by
 have h0:0<p.ins.length:=List.length_pos_iff.2 hk.ne
 have HIn:Hid (Calls Tryz.prog 241 #[.pointer (some ⟨P,0,none⟩)] w fun e w'=>e= .returned (.int .i64 p.top)∧∃ n,w'=w.drewN n):=in_any h h0 (by omega)
 by_cases htop:p.top<i
 ·obtain⟨i0,hi0,hz0,hz1,hz2⟩:=info_p infI
  have hcome:p.come i=outF i (({p with ins:=i::p.ins}:Sp).add 7).ins.length (({p with ins:=i::p.ins}:Sp).add 7):=by
   unfold Sp.come
   simp only[if_pos htop]
  have hti:(p.top:Int)<(i:Int):=by omega
  have HH:Hid (TS B P L tv iv w p):=h
  have HIK0:Hid (InOk (({p with ins:=i::p.ins}:Sp).add 7)):=hk.push i _ rfl
  have c3:=h.c3
  have hPl:=h.lt
  have hBl:B≤w.heap.size:=by have:=h.hB;omega
  have HOW:Hid (∀ n,((w.drewN n).alloc (.cells #[.int .i64 (i:Int)] 3)).ownsRow B 3 1 iv p.ins.length (ics p.ins.reverse)):=fun n=>(h.drewN n).oi.alloc _
  have q4:∀ n,((w.drewN n).alloc (.cells #[.int .i64 (i:Int)] 3)).heap.size=w.heap.size+1:=fun n=>by rw[World.size_alloc];rfl
  have HPUT:Hid (∀ {n:Nat} {w1 w':World} {g1 cap1:Nat},w1.ownsRow B 3 1 (.slice (some ⟨g1,0,none⟩) (p.ins.length+1) cap1) (p.ins.length+1) (ics p.ins.reverse++[.int .i64 i])→((w.drewN n).alloc (.cells #[.int .i64 (i:Int)] 3)).grownBy w1 iv.ownBlock→(iv.ownBlock=some g1∨g1=w.heap.size+1)→(∀ g:Nat,w'.heap[g]? =(w1.setCell ⟨P,3,none⟩ (.slice (some ⟨g1,0,none⟩) (p.ins.length+1) cap1)).heap[g]?)→TS B P L tv (.slice (some ⟨g1,0,none⟩) (p.ins.length+1) cap1) w' {p with ins:=i::p.ins}):=by
   intro n w1 w' g1 cap1 a1 a2 a3 a4
   exact HH.out.push i (W:=(w.drewN n).alloc (.cells #[.int .i64 (i:Int)] 3)) (fun g hg=>heap_al (w.drewN n) _ g hg) (by rw[q4];omega) a1 a2 (by rw[q4];exact a3) a4
  have HP1:Hid (∀ {n:Nat} {w1:World},((w.drewN n).alloc (.cells #[.int .i64 (i:Int)] 3)).grownBy w1 iv.ownBlock→w1.cell? ⟨P,3,none⟩=some iv∧w1.frozen? ⟨P,3,none⟩=false∧Below B w w1):=by
   intro n w1 hg
   have e1:w1.heap[P]? =w.heap[P]? :=(hg.block P (by rw[q4];omega) (fun e=>HH.out.ni e.symm)).trans (heap_al (w.drewN n) _ P hPl)
   exact⟨by rw[Lib.cell_of_heap (e1.trans HH.out.blk)];rfl,Lib.frozen_of_heap (e1.trans HH.out.blk) 3,((below_drewN (Below.refl B w) n).alloc hBl _).grown hg (by rw[q4];omega) (fun j hj=>(HH.out.oi.lt j hj).1)⟩
  have q1:p.ins.length+1≤maxLen:=by unfold maxLen;omega
  have q2:(p.ins.length+1)*8≤140737488355328:=by omega
  have HBd0:Hid ((({p with ins:=i::p.ins}:Sp).add 7).ins.length+(({p with ins:=i::p.ins}:Sp).add 7).toks.length≤90002∧p.toks.length≤90000):=by
   refine⟨?_,by omega⟩
   show(i::p.ins).length+(p.toks++[_]).length≤90002
   rw[List.length_cons,List.length_append]
   simp only[List.length_cons,List.length_nil]
   omega
  have HCM:Hid (p.come i=outF i (({p with ins:=i::p.ins}:Sp).add 7).ins.length (({p with ins:=i::p.ins}:Sp).add 7)):=hcome
  generalize p.top=tp at *
  clear h htop hcome
  go_enter Tryz.func214,Tryz.ntmps214
  go_wp2_with fail
  refine HIn.out.mono ?_
  rintro e w1 ⟨rfl,n1,rfl⟩
  go_wp2_with (at_builtin;refine wpList_append_lies _ rfl _ _ 221 rfl B 3 i0 (.int .i64 0) 1 8 Tryz.underlying221 hi0 hz0 hz1 hz2 rfl (by decide) iv p.ins.length (ics p.ins.reverse) rfl (HOW.out n1) ⟨_,0,none⟩ 1 1 [.int .i64 (i:Int)] rfl rfl ?c1 ?c2 (by decide) q1 q2 ?c5 (w.heap.size+1) ?c6 ?_)
  case c1=>exact new_int (w.drewN n1) i
  case c2=>intro u hu;simp at hu;subst hu;rfl
  case c5=>rw[q4];omega
  case c6=>exact q4 n1
  intro g1 cap1 w2 hown2 hgrow2 hat2 hlt2
  obtain⟨d3,f3,hb2⟩:=HP1.out hgrow2
  have HT2:Hid (TS B P L tv (.slice (some ⟨g1,0,none⟩) (p.ins.length+1) cap1) (w2.setCell ⟨P,3,none⟩ (.slice (some ⟨g1,0,none⟩) (p.ins.length+1) cap1)) {p with ins:=i::p.ins}∧Below B w (w2.setCell ⟨P,3,none⟩ (.slice (some ⟨g1,0,none⟩) (p.ins.length+1) cap1))):=⟨HPUT.out hown2 hgrow2 hat2 (fun g=>rfl),hb2.setCell (p:=⟨P,3,none⟩) HH.out.hB _⟩
  clear hown2 hgrow2 hat2 hlt2 hb2
  go_wp2_with fail
  refine(add_any HT2.out.1 7 (by show p.toks.length≤100000;have:=HBd0.out.2;omega)).mono ?_
  rintro e w3 ⟨rfl,tv3,hts3,hb3⟩
  obtain⟨q,hq⟩:∃ q,q=({p with ins:=i::p.ins}:Sp).add 7:=⟨_,rfl⟩
  obtain⟨tv1,htv1⟩:∃ v,v=tv3:=⟨_,rfl⟩
  obtain⟨iv1,hiv1⟩:∃ v,v=Value.slice (some ⟨g1,0,none⟩) (p.ins.length+1) cap1:=⟨_,rfl⟩
  have HT1:Hid (TS B P L tv1 iv1 w3 q∧Below B w w3∧InOk q∧q.ins.length+q.toks.length≤90002∧p.come i=outF i q.ins.length q):=by
   rw[hq,htv1,hiv1]
   exact⟨hts3,HT2.out.2.trans hb3,HIK0.out,HBd0.out.1,HCM.out⟩
  clear hq htv1 hiv1 hts3 hb3 d3 f3 c3
  go_wp2
  go_loopw [20] (fun _ wr=>∃ (r:Sp) (tv2 iv2:Value),Hid (TS B P L tv2 iv2 wr r∧Below B w wr∧InOk r∧r.ins.length+r.toks.length≤90002∧p.come i=outF i r.ins.length r)) (fun _ wr=>lenAt P wr)
  case atStart=>exact⟨q,tv1,iv1,HT1⟩
  case round=>
   obtain⟨r,tv2,iv2,HR⟩:=hrel
   clear HT1
   have hr0:0<r.ins.length:=List.length_pos_iff.2 HR.out.2.2.1.ne
   have HIn2:Hid (Calls Tryz.prog 241 #[.pointer (some ⟨P,0,none⟩)] wr fun e w'=>e= .returned (.int .i64 r.top)∧∃ n,w'=wr.drewN n):=in_any HR.out.1 hr0 (by have:=HR.out.2.2.2.1;omega)
   by_cases hlt:i<r.top
   ·have hlti:(i:Int)<(r.top:Int):=by omega
    have h2:=HR.out.2.2.1.two i hlt
    obtain⟨g,cap,hv,hg1,hg2⟩:=HR.out.1.oi.form hr0
    subst hv
    obtain⟨m,hm⟩:∃ m,r.ins.length=m+1:=⟨r.ins.length-1,by omega⟩
    have hcap:=own_cap HR.out.1.oi
    have hml:m+1≤90002:=by have:=HR.out.2.2.2.1;omega
    have d3:wr.cell? ⟨P,3,none⟩=some (.slice (some ⟨g,0,none⟩) (m+1) cap):=by have:=HR.out.1.c3;rwa [hm]at this
    have f3:=HR.out.1.fz 3
    have hsl:=icut g (m+1) cap m (by omega) (by omega)
    have hdr:(r.ins.drop 1).length=m:=by rw[List.length_drop];omega
    have HPOP:Hid (∀ (n:Nat) (w':World),(∀ gg:Nat,w'.heap[gg]? =((wr.drewN n).setCell ⟨P,3,none⟩ (.slice (some ⟨g,0,none⟩) m cap)).heap[gg]?)→TS B P L tv2 (.slice (some ⟨g,0,none⟩) m cap) w' {r with ins:=r.ins.drop 1}):=fun n w' hw=>by
     have ho:=(HR.out.1.drewN n).oi
     rw[hm]at ho
     have hp2:=own_pop ho
     have e:(ics r.ins.reverse).take m=ics (r.ins.drop 1).reverse:=by
      unfold ics
      rw[←List.map_take,List.reverse_drop,hm]
      simp
     rw[e]at hp2
     exact(HR.out.1.drewN n).set 3 _ (q:={r with ins:=r.ins.drop 1}) (by rw[hm];rfl) HR.out.1.ot (by show World.ownsRow _ _ _ _ _ (r.ins.drop 1).length _;rw[hdr];exact hp2) HR.out.1.nt (by have:=HR.out.1.ni;simpa[Value.ownBlock]using this) (fun a ha=>by have:=HR.out.1.nn a ha;simpa[Value.ownBlock]using this) hw
    have HNX:Hid (p.come i=outF i m ({r with ins:=r.ins.drop 1}.add 8)):=by
     show _=_
     rw[HR.out.2.2.2.2,hm,outF_step i m r hlt]
    have HIK:Hid (InOk ({r with ins:=r.ins.drop 1}.add 8)):=HR.out.2.2.1.pop h2 _ rfl
    have HBd:Hid (({r with ins:=r.ins.drop 1}.add 8:Sp).ins.length=m∧m+({r with ins:=r.ins.drop 1}.add 8:Sp).toks.length≤90002∧r.toks.length≤90002):=by
     refine⟨hdr,?_,?_⟩
     ·have:=HR.out.2.2.2.1
      show m+(r.toks++[_]).length≤90002
      rw[List.length_append]
      simp only[List.length_cons,List.length_nil]
      omega
     ·have:=HR.out.2.2.2.1
      omega
    have HM:Hid (r.ins.length=m+1):=hm
    generalize htp:r.top=tp at *
    have hmi:((m+1:Nat):Int)≤90002:=by omega
    have j0:(((m+1:Nat):Int)-1)=(m:Int):=by omega
    have j1:IntKind.i64.wrap (((m+1:Nat):Int)-1)=(m:Int):=by rw[IntKind.wrap_i64];omega
    have j2:(0:Int)≤(m:Int):=by omega
    clear hlt htp h2 hm hcap hdr
    go_wp2_with fail
    refine HIn2.out.mono ?_
    rintro e w2 ⟨rfl,n2,rfl⟩
    go_wp2
    go_region
    all_goals
     have HT3:Hid (TS B P L tv2 (.slice (some ⟨g,0,none⟩) m cap) ((wr.drewN (n2+1)).setCell ⟨P,3,none⟩ (.slice (some ⟨g,0,none⟩) m cap)) {r with ins:=r.ins.drop 1}∧Below B w ((wr.drewN (n2+1)).setCell ⟨P,3,none⟩ (.slice (some ⟨g,0,none⟩) m cap))):=⟨HPOP.out (n2+1) _ (fun gg=>rfl),(below_drewN HR.out.2.1 (n2+1)).setCell (p:=⟨P,3,none⟩) HR.out.1.hB _⟩
     generalize(wr.drewN (n2+1)).setCell ⟨P,3,none⟩ (.slice (some ⟨g,0,none⟩) m cap)=w3 at *
     go_wp2_with fail
     refine(add_any HT3.out.1 8 (by show r.toks.length≤100000;have:=HBd.out.2.2;omega)).mono ?_
     rintro e w4 ⟨rfl,tv4,hts4,hb4⟩
     have HT4:Hid (TS B P L tv4 (.slice (some ⟨g,0,none⟩) m cap) w4 ({r with ins:=r.ins.drop 1}.add 8)∧Below B w w4):=⟨hts4,HT3.out.2.trans hb4⟩
     clear hts4 hb4
     go_wp2
     have HZ:Hid (TS B P L tv4 (.slice (some ⟨g,0,none⟩) m cap) w4 ({r with ins:=r.ins.drop 1}.add 8)∧Below B w w4∧InOk ({r with ins:=r.ins.drop 1}.add 8)∧({r with ins:=r.ins.drop 1}.add 8:Sp).ins.length+({r with ins:=r.ins.drop 1}.add 8:Sp).toks.length≤90002∧p.come i=outF i ({r with ins:=r.ins.drop 1}.add 8:Sp).ins.length ({r with ins:=r.ins.drop 1}.add 8)):=⟨HT4.out.1,HT4.out.2,HIK.out,by rw[HBd.out.1];exact HBd.out.2.1,by rw[HBd.out.1];exact HNX.out⟩
     refine⟨⟨{r with ins:=r.ins.drop 1}.add 8,tv4,.slice (some ⟨g,0,none⟩) m cap,HZ⟩,?_⟩
     rw[HT4.out.1.lenAt (List.length_pos_iff.2 HIK.out.ne),HR.out.1.lenAt hr0,HBd.out.1,HM.out]
     exact Nat.lt_succ_self _
   ·have hlti:(r.top:Int)≤(i:Int):=by omega
    have HX:Hid (p.come i=r):=by
     show _=_
     rw[HR.out.2.2.2.2,outF_stop i _ r hlt]
    generalize r.top=tp at *
    clear hlt
    go_wp2_with fail
    refine HIn2.out.mono ?_
    rintro e w2 ⟨rfl,n2,rfl⟩
    go_wp2
    go_end0
    refine⟨rfl,tv2,iv2,?_,below_drewN HR.out.2.1 n2⟩
    rw[HX.out]
    exact HR.out.1.drewN n2
 ·have hcome:p.come i=outF i p.ins.length p:=by
   unfold Sp.come
   simp only[if_neg htop]
  have HT0:Hid (∀ n,TS B P L tv iv (w.drewN n) p∧Below B w (w.drewN n)∧InOk p∧p.ins.length+p.toks.length≤90002∧p.come i=outF i p.ins.length p):=fun n=>⟨h.drewN n,below_drewN (Below.refl _ _) n,hk,by omega,hcome⟩
  have hti:(p.top:Int)≥(i:Int):=by omega
  have hdt:decide (p.top<i)=false:=by simpa using htop
  generalize p.top=tp at *
  clear h htop hcome
  go_enter Tryz.func214,Tryz.ntmps214
  go_wp2_with fail
  refine HIn.out.mono ?_
  rintro e w1 ⟨rfl,n1,rfl⟩
  obtain⟨q,hq⟩:∃ q,q=p:=⟨_,rfl⟩
  obtain⟨tv1,htv1⟩:∃ v,v=tv:=⟨_,rfl⟩
  obtain⟨iv1,hiv1⟩:∃ v,v=iv:=⟨_,rfl⟩
  have HT1:Hid (TS B P L tv1 iv1 (w.drewN n1) q∧Below B w (w.drewN n1)∧InOk q∧q.ins.length+q.toks.length≤90002∧p.come i=outF i q.ins.length q):=by rw[hq,htv1,hiv1];exact HT0.out n1
  clear hq htv1 hiv1
  go_wp2
  go_loopw [20] (fun _ wr=>∃ (r:Sp) (tv2 iv2:Value),Hid (TS B P L tv2 iv2 wr r∧Below B w wr∧InOk r∧r.ins.length+r.toks.length≤90002∧p.come i=outF i r.ins.length r)) (fun _ wr=>lenAt P wr)
  case atStart=>exact⟨q,tv1,iv1,HT1⟩
  case round=>
   obtain⟨r,tv2,iv2,HR⟩:=hrel
   clear HT1
   have hr0:0<r.ins.length:=List.length_pos_iff.2 HR.out.2.2.1.ne
   have HIn2:Hid (Calls Tryz.prog 241 #[.pointer (some ⟨P,0,none⟩)] wr fun e w'=>e= .returned (.int .i64 r.top)∧∃ n,w'=wr.drewN n):=in_any HR.out.1 hr0 (by have:=HR.out.2.2.2.1;omega)
   by_cases hlt:i<r.top
   ·have hlti:(i:Int)<(r.top:Int):=by omega
    have h2:=HR.out.2.2.1.two i hlt
    obtain⟨g,cap,hv,hg1,hg2⟩:=HR.out.1.oi.form hr0
    subst hv
    obtain⟨m,hm⟩:∃ m,r.ins.length=m+1:=⟨r.ins.length-1,by omega⟩
    have hcap:=own_cap HR.out.1.oi
    have hml:m+1≤90002:=by have:=HR.out.2.2.2.1;omega
    have d3:wr.cell? ⟨P,3,none⟩=some (.slice (some ⟨g,0,none⟩) (m+1) cap):=by have:=HR.out.1.c3;rwa [hm]at this
    have f3:=HR.out.1.fz 3
    have hsl:=icut g (m+1) cap m (by omega) (by omega)
    have hdr:(r.ins.drop 1).length=m:=by rw[List.length_drop];omega
    have HPOP:Hid (∀ (n:Nat) (w':World),(∀ gg:Nat,w'.heap[gg]? =((wr.drewN n).setCell ⟨P,3,none⟩ (.slice (some ⟨g,0,none⟩) m cap)).heap[gg]?)→TS B P L tv2 (.slice (some ⟨g,0,none⟩) m cap) w' {r with ins:=r.ins.drop 1}):=fun n w' hw=>by
     have ho:=(HR.out.1.drewN n).oi
     rw[hm]at ho
     have hp2:=own_pop ho
     have e:(ics r.ins.reverse).take m=ics (r.ins.drop 1).reverse:=by
      unfold ics
      rw[←List.map_take,List.reverse_drop,hm]
      simp
     rw[e]at hp2
     exact(HR.out.1.drewN n).set 3 _ (q:={r with ins:=r.ins.drop 1}) (by rw[hm];rfl) HR.out.1.ot (by show World.ownsRow _ _ _ _ _ (r.ins.drop 1).length _;rw[hdr];exact hp2) HR.out.1.nt (by have:=HR.out.1.ni;simpa[Value.ownBlock]using this) (fun a ha=>by have:=HR.out.1.nn a ha;simpa[Value.ownBlock]using this) hw
    have HNX:Hid (p.come i=outF i m ({r with ins:=r.ins.drop 1}.add 8)):=by
     show _=_
     rw[HR.out.2.2.2.2,hm,outF_step i m r hlt]
    have HIK:Hid (InOk ({r with ins:=r.ins.drop 1}.add 8)):=HR.out.2.2.1.pop h2 _ rfl
    have HBd:Hid (({r with ins:=r.ins.drop 1}.add 8:Sp).ins.length=m∧m+({r with ins:=r.ins.drop 1}.add 8:Sp).toks.length≤90002∧r.toks.length≤90002):=by
     refine⟨hdr,?_,?_⟩
     ·have:=HR.out.2.2.2.1
      show m+(r.toks++[_]).length≤90002
      rw[List.length_append]
      simp only[List.length_cons,List.length_nil]
      omega
     ·have:=HR.out.2.2.2.1
      omega
    have HM:Hid (r.ins.length=m+1):=hm
    generalize htp:r.top=tp at *
    have hmi:((m+1:Nat):Int)≤90002:=by omega
    have j0:(((m+1:Nat):Int)-1)=(m:Int):=by omega
    have j1:IntKind.i64.wrap (((m+1:Nat):Int)-1)=(m:Int):=by rw[IntKind.wrap_i64];omega
    have j2:(0:Int)≤(m:Int):=by omega
    clear hlt htp h2 hm hcap hdr
    go_wp2_with fail
    refine HIn2.out.mono ?_
    rintro e w2 ⟨rfl,n2,rfl⟩
    go_wp2
    go_region
    all_goals
     have HT3:Hid (TS B P L tv2 (.slice (some ⟨g,0,none⟩) m cap) ((wr.drewN (n2+1)).setCell ⟨P,3,none⟩ (.slice (some ⟨g,0,none⟩) m cap)) {r with ins:=r.ins.drop 1}∧Below B w ((wr.drewN (n2+1)).setCell ⟨P,3,none⟩ (.slice (some ⟨g,0,none⟩) m cap))):=⟨HPOP.out (n2+1) _ (fun gg=>rfl),(below_drewN HR.out.2.1 (n2+1)).setCell (p:=⟨P,3,none⟩) HR.out.1.hB _⟩
     generalize(wr.drewN (n2+1)).setCell ⟨P,3,none⟩ (.slice (some ⟨g,0,none⟩) m cap)=w3 at *
     go_wp2_with fail
     refine(add_any HT3.out.1 8 (by show r.toks.length≤100000;have:=HBd.out.2.2;omega)).mono ?_
     rintro e w4 ⟨rfl,tv4,hts4,hb4⟩
     have HT4:Hid (TS B P L tv4 (.slice (some ⟨g,0,none⟩) m cap) w4 ({r with ins:=r.ins.drop 1}.add 8)∧Below B w w4):=⟨hts4,HT3.out.2.trans hb4⟩
     clear hts4 hb4
     go_wp2
     have HZ:Hid (TS B P L tv4 (.slice (some ⟨g,0,none⟩) m cap) w4 ({r with ins:=r.ins.drop 1}.add 8)∧Below B w w4∧InOk ({r with ins:=r.ins.drop 1}.add 8)∧({r with ins:=r.ins.drop 1}.add 8:Sp).ins.length+({r with ins:=r.ins.drop 1}.add 8:Sp).toks.length≤90002∧p.come i=outF i ({r with ins:=r.ins.drop 1}.add 8:Sp).ins.length ({r with ins:=r.ins.drop 1}.add 8)):=⟨HT4.out.1,HT4.out.2,HIK.out,by rw[HBd.out.1];exact HBd.out.2.1,by rw[HBd.out.1];exact HNX.out⟩
     refine⟨⟨{r with ins:=r.ins.drop 1}.add 8,tv4,.slice (some ⟨g,0,none⟩) m cap,HZ⟩,?_⟩
     rw[HT4.out.1.lenAt (List.length_pos_iff.2 HIK.out.ne),HR.out.1.lenAt hr0,HBd.out.1,HM.out]
     exact Nat.lt_succ_self _
   ·have hlti:(r.top:Int)≤(i:Int):=by omega
    have HX:Hid (p.come i=r):=by
     show _=_
     rw[HR.out.2.2.2.2,outF_stop i _ r hlt]
    generalize r.top=tp at *
    clear hlt
    go_wp2_with fail
    refine HIn2.out.mono ?_
    rintro e w2 ⟨rfl,n2,rfl⟩
    go_wp2
    go_end0
    refine⟨rfl,tv2,iv2,?_,below_drewN HR.out.2.1 n2⟩
    rw[HX.out]
    exact HR.out.1.drewN n2
theorem sgn_le (l:List UInt8)(h0:0<l.length):sgn l≤l.length:=by
 unfold sgn
 cases h:two2 l with
 |true=>
  have h2:2≤l.length:=by
   match l,h0 with
   |[a],_=>simp[two2]at h
   |a::b::r,_=>simp
  simpa using h2
 |false=>
  cases isSg1 (l.getD 0 0)
  ·simp
  ·simp;omega
theorem sign_any {B P:Nat}{L:List UInt8}{tv iv:Value}{w:World}{p:Sp}(h:TS B P L tv iv w p)(hL:L.length≤6000)(hp:p.pos<L.length)(hs:0<sgn (L.drop p.pos))(ho:p.opn≤1000)(hcl:isCls (L.getD p.pos 0)=true→0<p.opn):
  Calls Tryz.prog 281 #[.pointer (some ⟨P,0,none⟩)] w fun e w'=>e= .returned (.string (mkB ((L.drop p.pos).take (sgn (L.drop p.pos)))))∧TS B P L tv iv w' {p with pos:=p.pos+sgn (L.drop p.pos),opn:=if isOpn (L.getD p.pos 0)then p.opn+1 else if isCls (L.getD p.pos 0)then p.opn-1 else p.opn}∧Below B w w'∧∀ g:Nat,g≠P→w'.heap[g]? =w.heap[g]? :=by
 have hrl:0<(L.drop p.pos).length:=by rw[List.length_drop];omega
 have HRe:Hid (∀ n,Calls Tryz.prog 270 #[.pointer (some ⟨P,0,none⟩)] (w.drewN n) fun e w'=>e= .returned (.string (mkB (L.drop p.pos)))∧Dr w w'):=fun n=>(rest_any (h.drewN n) (by omega)).mono fun e w' ⟨a,m,b⟩=>⟨a,by rw[b];exact Dr.drewN ⟨n,rfl⟩ m⟩
 have HSz:Hid (∀ W,Calls Tryz.prog 294 #[.string (mkB (L.drop p.pos))] W fun e w'=>e= .returned (.int .i64 (sgn (L.drop p.pos)))∧w'=W):=fun W=>signSize_any _ W hrl (by rw[List.length_drop];omega)
 have HOp:Hid (∀ W,Calls Tryz.prog 275 #[.int .u8 (L.getD p.pos 0).toNat] W fun e w'=>e= .returned (.bool (isOpn (L.getD p.pos 0)))∧w'=W):=fun W=>isOpening_any _ W
 have HCl:Hid (∀ W,Calls Tryz.prog 271 #[.int .u8 (L.getD p.pos 0).toNat] W fun e w'=>e= .returned (.bool (isCls (L.getD p.pos 0)))∧w'=W):=fun W=>isClosing_any _ W
 have hsl:=sl_front (L.drop p.pos) (sgn (L.drop p.pos)) _ rfl (sgn_le _ hrl)
 have hsg:=sgn_le _ hrl
 rw[List.length_drop]at hsg
 have htl:((L.drop p.pos).take (sgn (L.drop p.pos))).length=sgn (L.drop p.pos):=by rw[List.length_take,List.length_drop];omega
 have hts:(mkB ((L.drop p.pos).take (sgn (L.drop p.pos)))).size=sgn (L.drop p.pos):=by rw[mk_size,htl]
 have hs0:0<(mkB ((L.drop p.pos).take (sgn (L.drop p.pos)))).size:=by rw[hts];exact hs
 have hg0:=mk_get _ 0 hs0
 have hgd:((L.drop p.pos).take (sgn (L.drop p.pos))).getD 0 0=L.getD p.pos 0:=by
  rw[←at_drop L,List.getD_eq_getElem?_getD,List.getD_eq_getElem?_getD,List.getElem?_take_of_lt hs]
 rw[hgd]at hg0
 have hexcl:isOpn (L.getD p.pos 0)=true→isCls (L.getD p.pos 0)=false:=by
  unfold isOpn isCls
  intro h
  simp at h ⊢
  omega
 have HS1:Hid (∀ W w',Dr w W→(∀ g:Nat,w'.heap[g]? =(W.setCell ⟨P,1,none⟩ (.int .i64 ((p.pos+sgn (L.drop p.pos):Nat):Int))).heap[g]?)→TS B P L tv iv w' {p with pos:=p.pos+sgn (L.drop p.pos)}):=fun W w' hW hw=>by
  obtain⟨n,rfl⟩:=hW
  exact(h.drewN n).setPos _ hw
 have hrs:(mkB (L.drop p.pos)).size=L.length-p.pos:=by rw[mk_size,List.length_drop]
 have HPB:Hid (B≤P):=h.hB
 have c1:=h.c1
 have f1:=h.fz 1
 have HX:Hid (L.length≤6000∧p.pos+sgn (L.drop p.pos)≤L.length):=⟨hL,by omega⟩
 generalize mkB ((L.drop p.pos).take (sgn (L.drop p.pos)))=t at *
 generalize mkB (L.drop p.pos)=rs at *
 generalize sgn (L.drop p.pos)=k at *
 generalize isOpn (L.getD p.pos 0)=b1 at *
 generalize isCls (L.getD p.pos 0)=b2 at *
 generalize L.getD p.pos 0=c0 at *
 have hki:(k:Int)≤6000:=by omega
 have hpi:(p.pos:Int)≤6000:=by omega
 obtain⟨y,hy⟩:∃ y,y=p.pos+k:=⟨_,rfl⟩
 have hyi:(p.pos:Int)+(k:Int)=(y:Int):=by omega
 have hwr:IntKind.i64.wrap (y:Int)=(y:Int):=by rw[IntKind.wrap_i64];omega
 have hko:(k:Int)≤(rs.size:Int):=by omega
 rw[←hy]at HS1 HX
 rw[←hy]
 clear h hrl hsg hgd htl hy hp
 cases b1 with
 |true=>
  have hb2:b2=false:=hexcl rfl
  subst hb2
  have hoi:(p.opn:Int)+1=((p.opn+1:Nat):Int):=by omega
  have how:IntKind.i64.wrap ((p.opn+1:Nat):Int)=((p.opn+1:Nat):Int):=by rw[IntKind.wrap_i64];omega
  have hob:(p.opn:Int)≤1000:=by omega
  clear hexcl hcl
  go_enter Tryz.func281,Tryz.ntmps281
  go_wp2_with fail
  refine(HRe.out 0).mono ?_
  rintro e w1 ⟨rfl,n1,rfl⟩
  go_wp2_with fail
  refine(HRe.out n1).mono ?_
  rintro e w2 ⟨rfl,n2,rfl⟩
  go_wp2_with fail
  refine(HSz.out _).mono ?_
  rintro e w' ⟨rfl,rfl⟩
  have HT1:Hid (TS B P L tv iv ((w.drewN n2).setCell ⟨P,1,none⟩ (.int .i64 (y:Int))) {p with pos:=y}∧Below B w ((w.drewN n2).setCell ⟨P,1,none⟩ (.int .i64 (y:Int)))∧∀ g:Nat,g≠P→((w.drewN n2).setCell ⟨P,1,none⟩ (.int .i64 (y:Int))).heap[g]? =w.heap[g]?):=⟨HS1.out (w.drewN n2) _ ⟨n2,rfl⟩ (fun g=>rfl),(below_drewN (Below.refl B w) n2).setCell (p:=⟨P,1,none⟩) HPB.out _,fun g hg=>Below.heap_setCell (w.drewN n2) ⟨P,1,none⟩ _ g hg⟩
  go_wp2_with fail
  refine(HOp.out _).mono ?_
  rintro e w' ⟨rfl,rfl⟩
  have d4:=HT1.out.1.c4
  have g4:=HT1.out.1.fz 4
  generalize(w.drewN n2).setCell ⟨P,1,none⟩ (.int .i64 (y:Int))=w3 at *
  have HT2:Hid (TS B P L tv iv (w3.setCell ⟨P,4,none⟩ (.int .i64 ((p.opn+1:Nat):Int))) {p with pos:=y,opn:=p.opn+1}∧Below B w (w3.setCell ⟨P,4,none⟩ (.int .i64 ((p.opn+1:Nat):Int)))∧∀ g:Nat,g≠P→(w3.setCell ⟨P,4,none⟩ (.int .i64 ((p.opn+1:Nat):Int))).heap[g]? =w.heap[g]?):=⟨HT1.out.1.setOpn _ (fun g=>rfl),HT1.out.2.1.setCell (p:=⟨P,4,none⟩) HPB.out _,fun g hg=>(Below.heap_setCell w3 ⟨P,4,none⟩ _ g hg).trans (HT1.out.2.2 g hg)⟩
  generalize hoo:p.opn+1=o1 at *
  have HOO:Hid (({p with pos:=y,opn:=o1}:Sp)={p with pos:=y,opn:=p.opn+1}):=by show _=_;rw[hoo]
  clear hoo
  go_wp2_with fail
  refine(HCl.out _).mono ?_
  rintro e w' ⟨rfl,rfl⟩
  go_wp2
  go_ret
  exact⟨rfl,by have:=HT2.out.1;rw[HOO.out]at this;exact this,HT2.out.2.1,HT2.out.2.2⟩
 |false=>
  cases b2 with
  |true=>
   have h0:=hcl rfl
   obtain⟨o1,ho1⟩:∃ o1,p.opn=o1+1:=⟨p.opn-1,by omega⟩
   have hoi:(p.opn:Int)-1=(o1:Int):=by omega
   have how:IntKind.i64.wrap (o1:Int)=(o1:Int):=by rw[IntKind.wrap_i64];omega
   have hoe:p.opn-1=o1:=by omega
   have hob:(p.opn:Int)≤1000:=by omega
   rw[hoe]
   clear hexcl hcl ho1 hoe
   go_enter Tryz.func281,Tryz.ntmps281
   go_wp2_with fail
   refine(HRe.out 0).mono ?_
   rintro e w1 ⟨rfl,n1,rfl⟩
   go_wp2_with fail
   refine(HRe.out n1).mono ?_
   rintro e w2 ⟨rfl,n2,rfl⟩
   go_wp2_with fail
   refine(HSz.out _).mono ?_
   rintro e w' ⟨rfl,rfl⟩
   have HT1:Hid (TS B P L tv iv ((w.drewN n2).setCell ⟨P,1,none⟩ (.int .i64 (y:Int))) {p with pos:=y}∧Below B w ((w.drewN n2).setCell ⟨P,1,none⟩ (.int .i64 (y:Int)))∧∀ g:Nat,g≠P→((w.drewN n2).setCell ⟨P,1,none⟩ (.int .i64 (y:Int))).heap[g]? =w.heap[g]?):=⟨HS1.out (w.drewN n2) _ ⟨n2,rfl⟩ (fun g=>rfl),(below_drewN (Below.refl B w) n2).setCell (p:=⟨P,1,none⟩) HPB.out _,fun g hg=>Below.heap_setCell (w.drewN n2) ⟨P,1,none⟩ _ g hg⟩
   go_wp2_with fail
   refine(HOp.out _).mono ?_
   rintro e w' ⟨rfl,rfl⟩
   go_wp2_with fail
   refine(HCl.out _).mono ?_
   rintro e w' ⟨rfl,rfl⟩
   have d4:=HT1.out.1.c4
   have g4:=HT1.out.1.fz 4
   generalize(w.drewN n2).setCell ⟨P,1,none⟩ (.int .i64 (y:Int))=w3 at *
   have HT2:Hid (TS B P L tv iv (w3.setCell ⟨P,4,none⟩ (.int .i64 ((o1:Nat):Int))) {p with pos:=y,opn:=o1}∧Below B w (w3.setCell ⟨P,4,none⟩ (.int .i64 ((o1:Nat):Int)))∧∀ g:Nat,g≠P→(w3.setCell ⟨P,4,none⟩ (.int .i64 ((o1:Nat):Int))).heap[g]? =w.heap[g]?):=⟨HT1.out.1.setOpn _ (fun g=>rfl),HT1.out.2.1.setCell (p:=⟨P,4,none⟩) HPB.out _,fun g hg=>(Below.heap_setCell w3 ⟨P,4,none⟩ _ g hg).trans (HT1.out.2.2 g hg)⟩
   go_wp2
   go_ret
   exact⟨rfl,HT2.out.1,HT2.out.2.1,HT2.out.2.2⟩
  |false=>
   clear hexcl hcl
   go_enter Tryz.func281,Tryz.ntmps281
   go_wp2_with fail
   refine(HRe.out 0).mono ?_
   rintro e w1 ⟨rfl,n1,rfl⟩
   go_wp2_with fail
   refine(HRe.out n1).mono ?_
   rintro e w2 ⟨rfl,n2,rfl⟩
   go_wp2_with fail
   refine(HSz.out _).mono ?_
   rintro e w' ⟨rfl,rfl⟩
   have HT1:Hid (TS B P L tv iv ((w.drewN n2).setCell ⟨P,1,none⟩ (.int .i64 (y:Int))) {p with pos:=y}∧Below B w ((w.drewN n2).setCell ⟨P,1,none⟩ (.int .i64 (y:Int)))∧∀ g:Nat,g≠P→((w.drewN n2).setCell ⟨P,1,none⟩ (.int .i64 (y:Int))).heap[g]? =w.heap[g]?):=⟨HS1.out (w.drewN n2) _ ⟨n2,rfl⟩ (fun g=>rfl),(below_drewN (Below.refl B w) n2).setCell (p:=⟨P,1,none⟩) HPB.out _,fun g hg=>Below.heap_setCell (w.drewN n2) ⟨P,1,none⟩ _ g hg⟩
   go_wp2_with fail
   refine(HOp.out _).mono ?_
   rintro e w' ⟨rfl,rfl⟩
   go_wp2_with fail
   refine(HCl.out _).mono ?_
   rintro e w' ⟨rfl,rfl⟩
   go_wp2
   go_ret
   exact⟨rfl,HT1.out.1,HT1.out.2.1,HT1.out.2.2⟩
end Go.Proofs.YthfgpkdbclogpaaGreatDoor
