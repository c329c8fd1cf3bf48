/- 43. -/
import Derived.Test.YthfgpkdbclogpaaGreatDoorTx42
set_option maxHeartbeats 40000000
set_option maxRecDepth 100000
namespace Go.Proofs.YthfgpkdbclogpaaGreatDoor
open Go.RowKit Go.Shelf
attribute [local go_sem ↓] fld0 fld1 fld2 fld3
def SoI (P T n:Nat)(w:World)(St:Ps→Px Sm)(z:Except Ft (List Sm×Ps))(v:Value)(wr:World):Prop:=∃ l p f vs,srcL St f l p=some z∧PsA P T wr p∧KP P w wr∧RwS n wr l v vs
theorem source_any {P T:Nat}{St:Ps→Px Sm}(hSt:MethS P T 175 St)(W:World)(p:Ps)(z:Except Ft (List Sm×Ps))(h:PsA P T W p)(hr:ErrR W)(hz:srcL St (p.toks.length+1) [] p=some z):
  Calls Tryz.prog 140 #[pt P] W (PoA P T (VL W.heap.size) W z):=by
 obtain⟨i0,hi,hz0,hz1,hz2⟩:=info_p infSt
 have hPl:=h.lt
 have hTl:=h.ltT
 have HE:Hid (MethS P T 175 St):=hSt
 have HEr:Hid (∀ W',KP P W W'→ErrR W'):=fun W' hk=>hr.kp (hr.ne h) hk
 have HJ:Hid (SoI P T W.heap.size W St z (.slice none 0 0) W):=⟨[],p,_,[],hz,h,KP.refl P W,World.ownsRow_nil _ _ _ _,trivial⟩
 clear h hr hz hSt
 go_enter Tryz.func140,Tryz.ntmps140
 go_wp2
 go_loopw [3] (fun u wr=>∃ v:Value,u=v∧Hid (SoI P T W.heap.size W St z v wr)) (fun _ wr=>tkLen P wr)
 case atStart=>exact⟨_,rfl,HJ⟩
 case round=>
  obtain⟨v,rfl,hrel⟩:=hrel
  obtain⟨l,p',f,vs,hj,hps,hk,hrw⟩:=hrel.out
  obtain⟨ao,cp,rfl⟩:=row_shape hrw.row
  clear hrel HJ
  cases f with
  |zero=>cases hj
  |succ f=>
  unfold srcL at hj
  have htk:=hps.tk
  obtain⟨a,c,c0,_⟩:=hps.cells
  by_cases hl0:p'.toks.length=0
  ·rw[show decide (p'.toks.length=0)=true from by simpa using hl0]at hj
   cases hj
   rw[hl0]at c0
   have HZ:Hid (PoA P T (VL W.heap.size) W (.ok (l,p')) (.returned (.slice ao l.length cp)) wr):=⟨_,rfl,⟨vs,hrw⟩,hps,hk⟩
   clear hps hk hrw
   go_wp2
   go_ret
   exact HZ.out
  ·rw[show decide (p'.toks.length=0)=false from by simpa using hl0]at hj
   replace hj:iff (decide (l.length<1000000)) (bnd (St p') fun s q=>iff (less q p') (srcL St f (l++[s]) q))=some z:=hj
   obtain⟨hn,hj2⟩:=iff_some hj
   have hn1:l.length<1000000:=of_decide_eq_true hn
   have hpos:(0:Int)<(p'.toks.length:Int):=by omega
   clear hj hn
   rcases bnd_some hj2 with⟨x,hx,rfl⟩|⟨y,q,hx,hq⟩
   ·have HD:=HE.out wr _ _ hps (HEr.out _ hk) hx
    clear hps hrw hx hj2
    go_wp2_with (go_at_call 175;refine HD.mono ?_;rintro e1 w1 hpo;obtain⟨rfl,hk1⟩:=bad_panic hpo hk)
    exact⟨rfl,rfl,hk1⟩
   ·have HD:=HE.out wr _ _ hps (HEr.out _ hk) hx
    obtain⟨hle,hj3⟩:=iff_some hq
    have hle2:q.toks.length<p'.toks.length:=of_decide_eq_true hle
    clear hx hj2 hq hle
    go_wp2_with fail
    refine HD.mono ?_
    rintro e1 w1 ⟨v1,rfl,⟨cy,rfl,hy1⟩,hp1,hk1⟩
    obtain⟨a0,k0,a1,k1,a2,k2,a3,k3,a4,k4,hcy⟩:=hy1.form
    have hlo:W.heap.size≤wr.heap.size:=hk.size
    have hob:=fun g (hg:(Value.slice ao l.length cp).ownBlock=some g)=>(hrw.row.lt g hg).2
    have hrw1:=hrw.keep (w':=w1) (fun g hg hg2=>hk1.blk g hg2 (by omega))
    have hyS:SmA w1 (fun g=>W.heap.size≤g∧(Value.slice ao l.length cp).ownBlock≠some g) y cy:=hy1.mono (fun g hg _=>⟨by omega,fun e=>by have:=hob g e;omega⟩)
    subst hcy
    have hkX:KP P W (w1.alloc (.cells #[.int .i64 y.kind,.string (mkB y.text),.slice a0 y.names.length k0,.int .i64 y.ex.kind,.int .i64 y.ex.num,.string (mkB y.ex.text),.slice a1 y.ex.kids.length k1,.slice a2 y.ex.names.length k2,.slice a3 y.body.length k3,.slice a4 y.els.length k4] 164)):=(hk.trans hk1).trans (KP.al P w1 _)
    have HX:Hid (RwS W.heap.size (w1.alloc (.cells #[.int .i64 y.kind,.string (mkB y.text),.slice a0 y.names.length k0,.int .i64 y.ex.kind,.int .i64 y.ex.num,.string (mkB y.ex.text),.slice a1 y.ex.kids.length k1,.slice a2 y.ex.names.length k2,.slice a3 y.body.length k3,.slice a4 y.els.length k4] 164)) l (.slice ao l.length cp) vs∧SmA (w1.alloc (.cells #[.int .i64 y.kind,.string (mkB y.text),.slice a0 y.names.length k0,.int .i64 y.ex.kind,.int .i64 y.ex.num,.string (mkB y.ex.text),.slice a1 y.ex.kids.length k1,.slice a2 y.ex.names.length k2,.slice a3 y.body.length k3,.slice a4 y.els.length k4] 164)) (fun g=>W.heap.size≤g∧(Value.slice ao l.length cp).ownBlock≠some g) y ([.int .i64 y.kind,.string (mkB y.text),.slice a0 y.names.length k0,.int .i64 y.ex.kind,.int .i64 y.ex.num,.string (mkB y.ex.text),.slice a1 y.ex.kids.length k1,.slice a2 y.ex.names.length k2,.slice a3 y.body.length k3,.slice a4 y.els.length k4]:List Value)∧PsA P T (w1.alloc (.cells #[.int .i64 y.kind,.string (mkB y.text),.slice a0 y.names.length k0,.int .i64 y.ex.kind,.int .i64 y.ex.num,.string (mkB y.ex.text),.slice a1 y.ex.kids.length k1,.slice a2 y.ex.names.length k2,.slice a3 y.body.length k3,.slice a4 y.els.length k4] 164)) q∧KP P W (w1.alloc (.cells #[.int .i64 y.kind,.string (mkB y.text),.slice a0 y.names.length k0,.int .i64 y.ex.kind,.int .i64 y.ex.num,.string (mkB y.ex.text),.slice a1 y.ex.kids.length k1,.slice a2 y.ex.names.length k2,.slice a3 y.body.length k3,.slice a4 y.els.length k4] 164))):=⟨hrw1.keep (fun g _ hg2=>heap_al w1 _ g hg2),hyS.keep (fun g _ hg2=>heap_al w1 _ g hg2) (fun _ hg _=>hg),hp1.up (alB _ _),hkX⟩
    have hsX:W.heap.size≤(w1.alloc (.cells #[.int .i64 y.kind,.string (mkB y.text),.slice a0 y.names.length k0,.int .i64 y.ex.kind,.int .i64 y.ex.num,.string (mkB y.ex.text),.slice a1 y.ex.kids.length k1,.slice a2 y.ex.names.length k2,.slice a3 y.body.length k3,.slice a4 y.els.length k4] 164)).heap.size:=hkX.size
    have hnews:∀ (j:Nat) (u:Value),([.int .i64 y.kind,.string (mkB y.text),.slice a0 y.names.length k0,.int .i64 y.ex.kind,.int .i64 y.ex.num,.string (mkB y.ex.text),.slice a1 y.ex.kids.length k1,.slice a2 y.ex.names.length k2,.slice a3 y.body.length k3,.slice a4 y.els.length k4]:List Value)[j]? =some u→(w1.alloc (.cells #[.int .i64 y.kind,.string (mkB y.text),.slice a0 y.names.length k0,.int .i64 y.ex.kind,.int .i64 y.ex.num,.string (mkB y.ex.text),.slice a1 y.ex.kids.length k1,.slice a2 y.ex.names.length k2,.slice a3 y.body.length k3,.slice a4 y.els.length k4] 164)).cell? ((⟨w1.heap.size,0,none⟩:Addr).add j)=some u:=fun j u hu=>World.news_of_block (heap_alloc_new w1 _) j u hu
    have hone:=hyS.one
    clear hyS hrw1 hob hlo hy1 hp1 hk1 hrw hps hk HD hkX
    go_wp2_with (first
     |(refine wpList_append_lies (w1.alloc (.cells #[.int .i64 y.kind,.string (mkB y.text),.slice a0 y.names.length k0,.int .i64 y.ex.kind,.int .i64 y.ex.num,.string (mkB y.ex.text),.slice a1 y.ex.kids.length k1,.slice a2 y.ex.names.length k2,.slice a3 y.body.length k3,.slice a4 y.els.length k4] 164)) (by rfl) (Operand.tmp 10) (Operand.tmp 13) 100 (by rfl) W.heap.size 164 i0 (.agg #[.int .i64 0,.string ⟨#[]⟩,.slice none 0 0,.int .i64 0,.int .i64 0,.string ⟨#[]⟩,.slice none 0 0,.slice none 0 0,.slice none 0 0,.slice none 0 0]) 10 176 Tryz.underlying100 hi hz0 hz1 hz2 rfl (by decide) (.slice ao l.length cp) l.length vs.flatten (by rfl) HX.out.1.row ⟨w1.heap.size,0,none⟩ 1 1 ([.int .i64 y.kind,.string (mkB y.text),.slice a0 y.names.length k0,.int .i64 y.ex.kind,.int .i64 y.ex.num,.string (mkB y.ex.text),.slice a1 y.ex.kids.length k1,.slice a2 y.ex.names.length k2,.slice a3 y.body.length k3,.slice a4 y.els.length k4]:List Value) (by rfl) rfl hnews hone (by decide) (by unfold maxLen;omega) (by omega) hsX (w1.alloc (.cells #[.int .i64 y.kind,.string (mkB y.text),.slice a0 y.names.length k0,.int .i64 y.ex.kind,.int .i64 y.ex.num,.string (mkB y.ex.text),.slice a1 y.ex.kids.length k1,.slice a2 y.ex.names.length k2,.slice a3 y.body.length k3,.slice a4 y.els.length k4] 164)).heap.size rfl ?_;intro g' cap' w2 hown2 hgrow hat hltg)
     |fail)
    have hPn:(Value.slice ao l.length cp).ownBlock≠some P:=fun e=>by have:=(HX.out.1.row.lt P e).1;omega
    have hTn:(Value.slice ao l.length cp).ownBlock≠some T:=fun e=>by have:=(HX.out.1.row.lt T e).1;omega
    have hp2:PsA P T w2 q:=HX.out.2.2.1.keep (hgrow.block P HX.out.2.2.1.lt (fun e=>hPn e.symm)) (hgrow.block T HX.out.2.2.1.ltT (fun e=>hTn e.symm))
    have hk2:KP P W w2:=HX.out.2.2.2.trans' hgrow (fun g hg e=>by have:=(HX.out.1.row.lt g e.symm).1;omega)
    have HJ:Hid (SoI P T W.heap.size W St z (.slice (some ⟨g',0,none⟩) (l.length+1) cap') w2):=⟨l++[y],q,f,_,hj3,hp2,hk2,HX.out.1.push HX.out.2.1 hgrow hat hown2⟩
    have htk2:=hp2.tk
    refine⟨⟨_,rfl,HJ⟩,by rw[htk2,htk];exact hle2⟩
theorem stD_any {P T:Nat}{E:Ps→Px Ex}(hE:MethC P T 247 E):∀ n,MethS P T 175 (stD E n)
 |0=>fun W p z _ _ hz=>by cases hz
 |n+1=>by
  have hB:=block_any (stD_any hE n)
  exact fun W p z h hr hz=>statement_any (small_any hE) (condition_any hE hB) (loop_any hE hB) (definition_any hB) W p z h hr hz
end Go.Proofs.YthfgpkdbclogpaaGreatDoor
namespace Go.Proofs.YthfgpkdbclogpaaGreatDoor
open Go.RowKit Go.Shelf
theorem pcatch_idle (p q:Addr)(w:World):
  CallsD Tryz.prog 139 #[.pointer (some p),.pointer (some q)] .returning w fun e u' w'=>e= .returned (.tuple #[])∧u'= .returning∧Below w.heap.size w w':=by
 refine callsD_of_wpS Tryz.func139 rfl fun c₀ cs hu=>?_
 apply wpS_seq
 apply wpS_region
 simp[wpOpsS,go_sem,recoverD,hu,Tryz.ntmps139,Exit.thenS,ta_nil]
 apply wpS_seq
 apply wpS_region
 simp[wpOpsS,go_sem,Exit.thenS]
 refine wpS_cond (t:=false) (by simp[Act.eval,Array.replicate]) ?_
 simp only[Bool.false_eq_true,if_false]
 refine wpS_of_wp (wp_skip ?_)
 have hb:Below w.heap.size w (w.alloc (.cells #[.int .i64 0,.int .i64 0] 110)):=(Below.refl _ w).alloc (Nat.le_refl _) _
 cases c₀
 simp_all [bodyPostS,results,Tryz.results139]
theorem pcatch_pan (B lb fb:Nat)(x y0 y1:Value)(k:Int)(z:Nat)(older:List PanicEntry)(w:World)(h0:w.cell? ⟨lb,0,none⟩=some x)(h1:w.cell? ⟨fb,0,none⟩=some y0)(h2:w.cell? ⟨fb,1,none⟩=some y1)
  (f0:w.frozen? ⟨lb,0,none⟩=false) (f1:w.frozen? ⟨fb,0,none⟩=false) (f2:w.frozen? ⟨fb,1,none⟩=false) (hn:¬lb=fb) (hB:B≤lb) (hB2:B≤fb):
  CallsD Tryz.prog 139 #[.pointer (some ⟨lb,0,none⟩),.pointer (some ⟨fb,0,none⟩)] (.panicking ({v:= .iface 110 (.agg #[.int .i64 k,.int .i64 z]),recovered:=false}::older)) w fun e u' w'=>
   e= .returned (.tuple #[])∧u'= .panicking ({v:= .iface 110 (.agg #[.int .i64 k,.int .i64 z]),recovered:=true}::older)∧w'.cell? ⟨lb,0,none⟩=some (.slice none 0 0)∧w'.cell? ⟨fb,0,none⟩=some (.int .i64 k)∧w'.cell? ⟨fb,1,none⟩=some (.int .i64 z)∧Below B w w':=by
 refine callsD_of_wpS Tryz.func139 rfl fun c₀ cs hu=>?_
 apply wpS_seq
 apply wpS_region
 simp[wpOpsS,go_sem,recoverD,hu,Tryz.ntmps139,Exit.thenS,ta_yes]
 apply wpS_seq
 apply wpS_region
 simp[wpOpsS,go_sem,Exit.thenS]
 refine wpS_cond (t:=true) (by simp[Act.eval,Array.replicate]) ?_
 simp only[if_true]
 refine wpS_of_wp ?_
 simp[Array.replicate]
 have hpl:lb<w.heap.size:=World.block_lt_of_cell? w ⟨lb,0,none⟩ h0
 have hql:fb<w.heap.size:=World.block_lt_of_cell? w ⟨fb,0,none⟩ h1
 have hnew:=heap_alloc_new w (.cells #[.int .i64 k,.int .i64 (z:Int)] 110)
 have g0:(w.alloc (.cells #[.int .i64 k,.int .i64 (z:Int)] 110)).cell? ⟨lb,0,none⟩=some x:=(World.cell?_alloc_past _ _ _ hpl).trans h0
 have g1:(w.alloc (.cells #[.int .i64 k,.int .i64 (z:Int)] 110)).cell? ⟨fb,0,none⟩=some y0:=(World.cell?_alloc_past _ _ _ hql).trans h1
 have g2:(w.alloc (.cells #[.int .i64 k,.int .i64 (z:Int)] 110)).cell? ⟨fb,1,none⟩=some y1:=(World.cell?_alloc_past _ _ _ hql).trans h2
 have e0:(w.alloc (.cells #[.int .i64 k,.int .i64 (z:Int)] 110)).frozen? ⟨lb,0,none⟩=false:=(World.frozen?_of_block (heap_al w _ lb hpl)).trans f0
 have e1:(w.alloc (.cells #[.int .i64 k,.int .i64 (z:Int)] 110)).frozen? ⟨fb,0,none⟩=false:=(World.frozen?_of_block (heap_al w _ fb hql)).trans f1
 have e2:(w.alloc (.cells #[.int .i64 k,.int .i64 (z:Int)] 110)).frozen? ⟨fb,1,none⟩=false:=(World.frozen?_of_block (heap_al w _ fb hql)).trans f2
 have n0:(w.alloc (.cells #[.int .i64 k,.int .i64 (z:Int)] 110)).cell? ⟨w.heap.size,0,none⟩=some (.int .i64 k):=by rw[Lib.cell_of_heap hnew];rfl
 have n1:(w.alloc (.cells #[.int .i64 k,.int .i64 (z:Int)] 110)).cell? ⟨w.heap.size,1,none⟩=some (.int .i64 (z:Int)):=by rw[Lib.cell_of_heap hnew];rfl
 have HB:Hid (Below B w (w.alloc (.cells #[.int .i64 k,.int .i64 (z:Int)] 110))):=(Below.refl B w).alloc (by omega) _
 have m1:¬w.heap.size=lb:=by omega
 have m2:¬w.heap.size=fb:=by omega
 clear h0 h1 h2 f0 f1 f2 hpl hql hnew
 generalize w.alloc (.cells #[.int .i64 k,.int .i64 (z:Int)] 110)=W at *
 generalize w.heap.size=Z at *
 go_region_with fail
 all_goals
  have hb:Below B w (((W.setCell ⟨lb,0,none⟩ (.slice none 0 0)).setCell ⟨fb,0,none⟩ (.int .i64 k)).setCell ⟨fb,1,none⟩ (.int .i64 (z:Int))).drew:=(((HB.out.setCell (p:=⟨lb,0,none⟩) hB _).setCell (p:=⟨fb,0,none⟩) hB2 _).setCell (p:=⟨fb,1,none⟩) hB2 _).drew
  cases c₀
  simp[bodyPostS,results,Tryz.results139,go_sem,g0,g1,g2,hb]
theorem RwS.mono {n m:Nat}{w:World}{l:List Sm}{v:Value}{vs:List (List Value)}(h:RwS n w l v vs)(hm:m≤n):RwS m w l v vs:=⟨row_mono h.row hm,h.fa.mono fun _ _ f=>f.mono fun _ hg _=>⟨Nat.le_trans hm hg.1,hg.2⟩⟩
def ParP (w:World)(r:Except Ft (List Sm))(e:Ending)(w':World):Prop:=
 (∀ (k z:Nat),r= .error (k,z)→e= .returned (.tuple #[.slice none 0 0,.agg #[.int .i64 (k:Int),.int .i64 (z:Int)]]))∧
 (∀ l,r= .ok l→∃ v vs,e= .returned (.tuple #[v,.agg #[.int .i64 0,.int .i64 0]])∧RwS w.heap.size w' l v vs)∧Below w.heap.size w w'
def bpW (tv:Value)(n:Nat)(w:World):World:=((w.alloc (.cells #[.slice none 0 0] 100)).alloc (.cells #[.int .i64 0,.int .i64 0] 110)).alloc (.cells #[tv,.int .i64 n,.int .i64 0,.bool false,.int .i64 0] 194)
theorem bp_facts {B:Nat}{toks:List Tk}{ao:Option Addr}{cp:Nat}{w:World}(n:Nat)(hr:w.ownsRow B 255 4 (.slice ao toks.length cp) toks.length (tcs toks)):∃ T,PsA (w.heap.size+1+1) T (bpW (.slice ao toks.length cp) n w) ⟨toks,n,0,false,0⟩∧Below w.heap.size w (bpW (.slice ao toks.length cp) n w)∧
  (bpW (.slice ao toks.length cp) n w).heap[w.heap.size]? =some (.cells #[.slice none 0 0] 100 (0,0))∧(bpW (.slice ao toks.length cp) n w).heap[w.heap.size+1]? =some (.cells #[.int .i64 0,.int .i64 0] 110 (0,0))∧(bpW (.slice ao toks.length cp) n w).heap.size=w.heap.size+1+1+1:=by
 have s1:(w.alloc (.cells #[.slice none 0 0] 100)).heap.size=w.heap.size+1:=World.size_alloc _ _
 have s2:((w.alloc (.cells #[.slice none 0 0] 100)).alloc (.cells #[.int .i64 0,.int .i64 0] 110)).heap.size=w.heap.size+1+1:=by rw[World.size_alloc,s1]
 have s3:(bpW (.slice ao toks.length cp) n w).heap.size=w.heap.size+1+1+1:=by unfold bpW;rw[World.size_alloc,s2]
 have k0:∀ g,g<w.heap.size→(bpW (.slice ao toks.length cp) n w).heap[g]? =w.heap[g]? :=fun g hg=>by
  unfold bpW
  rw[heap_al _ _ _ (by rw[s2];omega),heap_al _ _ _ (by rw[s1];omega),heap_al _ _ _ hg]
 have b0:(bpW (.slice ao toks.length cp) n w).heap[w.heap.size]? =some (.cells #[.slice none 0 0] 100 (0,0)):=by
  unfold bpW
  rw[heap_al _ _ _ (by rw[s2];omega),heap_al _ _ _ (by rw[s1];omega)]
  exact heap_alloc_new w _
 have b1:(bpW (.slice ao toks.length cp) n w).heap[w.heap.size+1]? =some (.cells #[.int .i64 0,.int .i64 0] 110 (0,0)):=by
  unfold bpW
  rw[heap_al _ _ _ (by rw[s2];omega),←s1]
  exact heap_alloc_new _ _
 have b2:(bpW (.slice ao toks.length cp) n w).heap[w.heap.size+1+1]? =some (.cells #[.slice ao toks.length cp,.int .i64 n,.int .i64 0,.bool false,.int .i64 0] 194 (0,0)):=by
  unfold bpW
  rw[←s2]
  exact heap_alloc_new _ _
 have hbb:Below w.heap.size w (bpW (.slice ao toks.length cp) n w):=by
  unfold bpW
  exact(((Below.refl _ w).alloc (Nat.le_refl _) _).alloc (by rw[s1];omega) _).alloc (by rw[s2];omega) _
 rcases hr.2 with⟨_,e0⟩|⟨g,cap,cur,hv,h2,h3,h4,h5,h6,h7⟩
 ·exact⟨0,⟨ao,cp,0,b2,(by show toks.length≤cp;omega),Nat.zero_le _,(fun h=>absurd h (by show ¬0<toks.length;omega)),(fun j hj=>absurd hj (by show ¬j<toks.length*4;omega)),by omega,by omega,Nat.zero_le _,Nat.zero_le _⟩,hbb,b0,b1,s3⟩
 ·cases hv
  have hg:g<w.heap.size:=(Array.getElem?_eq_some_iff.1 h3).1
  refine⟨g,⟨some ⟨g,0,none⟩,cp,0,b2,h4,Nat.zero_le _,fun _=>rfl,fun j hj=>?_,by omega,by omega,Nat.zero_le _,Nat.zero_le _⟩,hbb,b0,b1,s3⟩
  ·rw[Nat.zero_add,Lib.cell_of_heap ((k0 g hg).trans h3),←h7,List.getElem?_take_of_lt hj]
   simp
theorem parse_any {B:Nat}{toks:List Tk}{tv:Value}{w:World}(he:ErrR w)(n:Nat)(hr:w.ownsRow B 255 4 tv toks.length (tcs toks)){E:Ps→Px Ex}(hE:∀ P T,MethC P T 247 E){l:List Sm}{q:Ps}(hz:srcF E ⟨toks,n,0,false,0⟩=some (.ok (l,q))):
  Calls Tryz.prog 110 #[tv,.int .i64 n] w (ParP w (.ok l)):=by
 have hmf:∀ (fn:Fn) (first cap:Array Value) (w:World),(Instr.makeFunc fn first cap).run Tryz.prog w= .ok (.func fn first cap) w:=fun _ _ _ _=>rfl
 obtain⟨ao,cp,rfl⟩:=row_shape hr
 obtain⟨T,t0,hb0,l0,f0,s0⟩:=bp_facts n hr
 have HLn:=source_any (stD_any (hE _ T) 40) _ _ _ t0 (he.up hb0) hz
 rw[s0]at HLn
 have HB0:Hid (Below w.heap.size w (bpW (.slice ao toks.length cp) n w)∧(bpW (.slice ao toks.length cp) n w).heap[w.heap.size]? =some (.cells #[.slice none 0 0] 100 (0,0))∧(bpW (.slice ao toks.length cp) n w).heap[w.heap.size+1]? =some (.cells #[.int .i64 0,.int .i64 0] 110 (0,0))∧(bpW (.slice ao toks.length cp) n w).heap.size=w.heap.size+1+1+1):=⟨hb0,l0,f0,s0⟩
 clear t0 hb0 l0 f0 s0 hr hz hE he
 unfold bpW at *
 go_enter_defers Tryz.func110,Tryz.ntmps110
 go_wp2_with fail
 refine HLn.mono ?_
 rintro e w1 ⟨v,rfl,⟨vs,hrw⟩,hps,hk⟩
 obtain⟨a1,c1,rfl⟩:=row_shape hrw.row
 have l1:=(hk.blk w.heap.size (by have:=HB0.out.2.2.2;omega) (by omega)).trans HB0.out.2.1
 have f1:=(hk.blk (w.heap.size+1) (by have:=HB0.out.2.2.2;omega) (by omega)).trans HB0.out.2.2.1
 have HB1:Hid (Below w.heap.size w w1):=HB0.out.1.trans (hk.below (by omega) (by have:=HB0.out.2.2.2;omega))
 have q0:w1.cell? ⟨w.heap.size,0,none⟩=some (.slice none 0 0):=by rw[Lib.cell_of_heap l1];rfl
 have q1:w1.cell? ⟨w.heap.size+1,0,none⟩=some (.int .i64 0):=by rw[Lib.cell_of_heap f1];rfl
 have q2:w1.cell? ⟨w.heap.size+1,1,none⟩=some (.int .i64 0):=by rw[Lib.cell_of_heap f1];rfl
 have r0:w1.frozen? ⟨w.heap.size,0,none⟩=false:=Lib.frozen_of_heap l1 0
 have r1:w1.frozen? ⟨w.heap.size+1,0,none⟩=false:=Lib.frozen_of_heap f1 0
 have r2:w1.frozen? ⟨w.heap.size+1,1,none⟩=false:=Lib.frozen_of_heap f1 1
 have s0:(((w1.setCell ⟨w.heap.size,0,none⟩ (.slice a1 l.length c1)).setCell ⟨w.heap.size+1,0,none⟩ (.int .i64 0)).setCell ⟨w.heap.size+1,1,none⟩ (.int .i64 0)).cell? ⟨w.heap.size,0,none⟩=some (.slice a1 l.length c1):=by simp[go_sem,q0]
 have s1:(((w1.setCell ⟨w.heap.size,0,none⟩ (.slice a1 l.length c1)).setCell ⟨w.heap.size+1,0,none⟩ (.int .i64 0)).setCell ⟨w.heap.size+1,1,none⟩ (.int .i64 0)).cell? ⟨w.heap.size+1,0,none⟩=some (.int .i64 0):=by simp[go_sem,q1]
 have s2:(((w1.setCell ⟨w.heap.size,0,none⟩ (.slice a1 l.length c1)).setCell ⟨w.heap.size+1,0,none⟩ (.int .i64 0)).setCell ⟨w.heap.size+1,1,none⟩ (.int .i64 0)).cell? ⟨w.heap.size+1,1,none⟩=some (.int .i64 0):=by simp[go_sem,q2]
 have HS:Hid ((((w1.setCell ⟨w.heap.size,0,none⟩ (.slice a1 l.length c1)).setCell ⟨w.heap.size+1,0,none⟩ (.int .i64 0)).setCell ⟨w.heap.size+1,1,none⟩ (.int .i64 0)).cell? ⟨w.heap.size,0,none⟩=some (.slice a1 l.length c1)∧(((w1.setCell ⟨w.heap.size,0,none⟩ (.slice a1 l.length c1)).setCell ⟨w.heap.size+1,0,none⟩ (.int .i64 0)).setCell ⟨w.heap.size+1,1,none⟩ (.int .i64 0)).cell? ⟨w.heap.size+1,0,none⟩=some (.int .i64 0)∧(((w1.setCell ⟨w.heap.size,0,none⟩ (.slice a1 l.length c1)).setCell ⟨w.heap.size+1,0,none⟩ (.int .i64 0)).setCell ⟨w.heap.size+1,1,none⟩ (.int .i64 0)).cell? ⟨w.heap.size+1,1,none⟩=some (.int .i64 0)):=⟨s0,s1,s2⟩
 have hkw:∀ g,w.heap.size+1+1+1≤g→g<w1.heap.size→(((w1.setCell ⟨w.heap.size,0,none⟩ (.slice a1 l.length c1)).setCell ⟨w.heap.size+1,0,none⟩ (.int .i64 0)).setCell ⟨w.heap.size+1,1,none⟩ (.int .i64 0)).heap[g]? =w1.heap[g]? :=fun g hg _=>(Below.heap_setCell _ ⟨w.heap.size+1,1,none⟩ _ g (by show ¬g=w.heap.size+1;omega)).trans ((Below.heap_setCell _ ⟨w.heap.size+1,0,none⟩ _ g (by show ¬g=w.heap.size+1;omega)).trans (Below.heap_setCell _ ⟨w.heap.size,0,none⟩ _ g (by show ¬g=w.heap.size;omega)))
 have HO:Hid (RwS (w.heap.size+1+1+1) (((w1.setCell ⟨w.heap.size,0,none⟩ (.slice a1 l.length c1)).setCell ⟨w.heap.size+1,0,none⟩ (.int .i64 0)).setCell ⟨w.heap.size+1,1,none⟩ (.int .i64 0)) l (.slice a1 l.length c1) vs):=hrw.keep hkw
 have HB2:Hid (Below w.heap.size w (((w1.setCell ⟨w.heap.size,0,none⟩ (.slice a1 l.length c1)).setCell ⟨w.heap.size+1,0,none⟩ (.int .i64 0)).setCell ⟨w.heap.size+1,1,none⟩ (.int .i64 0))):=((HB1.out.setCell (p:=⟨w.heap.size,0,none⟩) (Nat.le_refl _) _).setCell (p:=⟨w.heap.size+1,0,none⟩) (Nat.le_succ _) _).setCell (p:=⟨w.heap.size+1,1,none⟩) (Nat.le_succ _) _
 clear s0 s1 s2 hkw hrw hps hk l1 f1 HB0 HLn
 go_wp2
 generalize(((w1.setCell ⟨w.heap.size,0,none⟩ (.slice a1 l.length c1)).setCell ⟨w.heap.size+1,0,none⟩ (.int .i64 0)).setCell ⟨w.heap.size+1,1,none⟩ (.int .i64 0))=w2 at *
 refine leaves_cons (f:=139) (args:=#[.pointer (some ⟨w.heap.size,0,none⟩),.pointer (some ⟨w.heap.size+1,0,none⟩)]) (by simp) (by simp[go_sem]) ?_
 refine(pcatch_idle ⟨w.heap.size,0,none⟩ ⟨w.heap.size+1,0,none⟩ _).mono ?_
 rintro e u' w3 ⟨rfl,rfl,hb3⟩
 have k0:=(hb3.cell (World.block_lt_of_cell? w2 _ HS.out.1)).trans HS.out.1
 have k1:=(hb3.cell (World.block_lt_of_cell? w2 _ HS.out.2.1)).trans HS.out.2.1
 have k2:=(hb3.cell (World.block_lt_of_cell? w2 _ HS.out.2.2)).trans HS.out.2.2
 have hle:w.heap.size≤w2.heap.size:=Nat.le_of_lt (World.block_lt_of_cell? w2 _ HS.out.1)
 simp[Leaves,settle,results,Tryz.results110,go_sem,k0,k1,k2]
 refine⟨(fun k' z' hz=>by cases hz),fun l' hl=>?_,HB2.out.trans (hb3.mono hle)⟩
 cases hl
 exact⟨_,vs,rfl,(HO.out.keep (fun g _ hg=>hb3.block g hg)).mono (by omega)⟩
theorem parse_err {B:Nat}{toks:List Tk}{tv:Value}{w:World}(he:ErrR w)(n:Nat)(hr:w.ownsRow B 255 4 tv toks.length (tcs toks)){E:Ps→Px Ex}(hE:∀ P T,MethC P T 247 E){k z:Nat}(hz:srcF E ⟨toks,n,0,false,0⟩=some (.error (k,z))):
  Calls Tryz.prog 110 #[tv,.int .i64 n] w (ParP w (.error (k,z))):=by
 have hmf:∀ (fn:Fn) (first cap:Array Value) (w:World),(Instr.makeFunc fn first cap).run Tryz.prog w= .ok (.func fn first cap) w:=fun _ _ _ _=>rfl
 obtain⟨ao,cp,rfl⟩:=row_shape hr
 obtain⟨T,t0,hb0,l0,f0,s0⟩:=bp_facts n hr
 have HLn:=source_any (stD_any (hE _ T) 40) _ _ _ t0 (he.up hb0) hz
 have HB0:Hid (Below w.heap.size w (bpW (.slice ao toks.length cp) n w)∧(bpW (.slice ao toks.length cp) n w).heap[w.heap.size]? =some (.cells #[.slice none 0 0] 100 (0,0))∧(bpW (.slice ao toks.length cp) n w).heap[w.heap.size+1]? =some (.cells #[.int .i64 0,.int .i64 0] 110 (0,0))∧(bpW (.slice ao toks.length cp) n w).heap.size=w.heap.size+1+1+1):=⟨hb0,l0,f0,s0⟩
 clear t0 hb0 l0 f0 s0 hr hz hE he
 unfold bpW at *
 go_enter_defers Tryz.func110,Tryz.ntmps110
 go_wp2_with fail
 refine HLn.mono ?_
 rintro e w1 ⟨rfl,hk⟩
 have l1:=(hk.blk w.heap.size (by have:=HB0.out.2.2.2;omega) (by omega)).trans HB0.out.2.1
 have f1:=(hk.blk (w.heap.size+1) (by have:=HB0.out.2.2.2;omega) (by omega)).trans HB0.out.2.2.1
 have HB1:Hid (Below w.heap.size w w1):=HB0.out.1.trans (hk.below (by omega) (by have:=HB0.out.2.2.2;omega))
 have q0:w1.cell? ⟨w.heap.size,0,none⟩=some (.slice none 0 0):=by rw[Lib.cell_of_heap l1];rfl
 have q1:w1.cell? ⟨w.heap.size+1,0,none⟩=some (.int .i64 0):=by rw[Lib.cell_of_heap f1];rfl
 have q2:w1.cell? ⟨w.heap.size+1,1,none⟩=some (.int .i64 0):=by rw[Lib.cell_of_heap f1];rfl
 have r0:w1.frozen? ⟨w.heap.size,0,none⟩=false:=Lib.frozen_of_heap l1 0
 have r1:w1.frozen? ⟨w.heap.size+1,0,none⟩=false:=Lib.frozen_of_heap f1 0
 have r2:w1.frozen? ⟨w.heap.size+1,1,none⟩=false:=Lib.frozen_of_heap f1 1
 clear hk l1 f1 HB0 HLn
 go_wp2
 refine leaves_cons (f:=139) (args:=#[.pointer (some ⟨w.heap.size,0,none⟩),.pointer (some ⟨w.heap.size+1,0,none⟩)]) (by simp) (by simp[go_sem]) ?_
 refine(pcatch_pan w.heap.size w.heap.size (w.heap.size+1) _ _ _ k z [] _ q0 q1 q2 r0 r1 r2 (by omega) (Nat.le_refl _) (Nat.le_succ _)).mono ?_
 rintro e u' w2 ⟨rfl,rfl,s0,s1,s2,hb2⟩
 simp[Leaves,settle,results,Tryz.results110,go_sem,s0,s1,s2]
 refine⟨fun k' z' hz=>?_,(fun l hl=>by cases hl),HB1.out.trans hb2⟩
 cases hz
 rfl
def parR (L:List UInt8):Option (Except Ft (List Sm)):=match splitA L with
 | .error (k,z)=>bif k==0 then none else some (.error (k,z))
 | .ok toks=>match srcF (exF 40) ⟨toks,L.length,0,false,0⟩with
  |none=>none
  |some (.error x)=>some (.error x)
  |some (.ok (l,_))=>some (.ok l)
theorem parR_some {L:List UInt8}{r:Except Ft (List Sm)}(h:parR L=some r):(∃ k z,splitA L= .error (k,z)∧k≠0∧r= .error (k,z))∨∃ toks,splitA L= .ok toks∧((∃ x,srcF (exF 40) ⟨toks,L.length,0,false,0⟩=some (.error x)∧r= .error x)∨∃ l q,srcF (exF 40) ⟨toks,L.length,0,false,0⟩=some (.ok (l,q))∧r= .ok l):=by
 unfold parR at h
 match hs:splitA L,h with
 | .error (k,z),h=>
  simp only at h
  cases hk:k==0 with
  |true=>rw[hk]at h;cases h
  |false=>
   rw[hk]at h
   cases h
   exact .inl ⟨k,z,rfl,by simpa using hk,rfl⟩
 | .ok toks,h=>
  simp only at h
  match hr:srcF (exF 40) ⟨toks,L.length,0,false,0⟩,h with
  |some (.error x),h=>cases h;exact .inr ⟨toks,rfl,.inl ⟨x,hr,rfl⟩⟩
  |some (.ok (l,q)),h=>cases h;exact .inr ⟨toks,rfl,.inr ⟨l,q,hr,rfl⟩⟩
theorem Parse_fault (L:List UInt8)(w:World)(hr:ErrR w){k z:Nat}(hk:k≠0)(h1:splitA L= .error (k,z)):
  Calls Tryz.prog 77 #[.string (mkB L)] w (ParP w (.error (k,z))):=by
 have hrW:ErrR (w.alloc (.cells #[.int .i64 0,.int .i64 0] 110)):=hr.up (alB w _)
 have HS:=Split_any L (w.alloc (.cells #[.int .i64 0,.int .i64 0] 110)) hrW
 rw[h1]at HS
 have HB:Hid (Below w.heap.size w (w.alloc (.cells #[.int .i64 0,.int .i64 0] 110))):=alB w _
 have hs0:(w.alloc (.cells #[.int .i64 0,.int .i64 0] 110)).heap.size=w.heap.size+1:=World.size_alloc _ _
 have hf0:=heap_alloc_new w (.cells #[.int .i64 0,.int .i64 0] 110)
 have hki:¬(k:Int)=0:=by omega
 have hkb:((k:Int)==0)=false:=beq_eq_false_iff_ne.2 hki
 clear h1 hrW hr hk
 go_enter Tryz.func77,Tryz.ntmps77
 go_wp2_with fail
 refine HS.mono ?_
 rintro e w1 ⟨hbad,_,hb1⟩
 obtain rfl:=hbad k z rfl
 have hf1:=(hb1.block w.heap.size (by omega)).trans hf0
 have hs1:w.heap.size<w1.heap.size:=(Array.getElem?_eq_some_iff.1 hf1).1
 have g0:w1.cell? ⟨w.heap.size,0,none⟩=some (.int .i64 0):=by rw[Lib.cell_of_heap hf1];rfl
 have g1:w1.cell? ⟨w.heap.size,1,none⟩=some (.int .i64 0):=by rw[Lib.cell_of_heap hf1];rfl
 have k0:w1.frozen? ⟨w.heap.size,0,none⟩=false:=Lib.frozen_of_heap hf1 0
 have k1:w1.frozen? ⟨w.heap.size,1,none⟩=false:=Lib.frozen_of_heap hf1 1
 have hbs:=((HB.out.trans (hb1.mono (by omega))).setCell (p:=⟨w.heap.size,0,none⟩) (Nat.le_refl _) (.int .i64 (k:Int))).setCell (p:=⟨w.heap.size,1,none⟩) (Nat.le_refl _) (.int .i64 (z:Int))
 have HZ:Hid (Below w.heap.size w ((((w1.setCell ⟨w.heap.size,0,none⟩ (.int .i64 (k:Int))).setCell ⟨w.heap.size,1,none⟩ (.int .i64 (z:Int))).alloc (.cells #[.int .i64 k,.int .i64 z] 110)).drew)):=(hbs.alloc (by have:=hbs.size;omega) _).drew
 clear hbad hb1 hf1 hf0 HS hbs
 go_wp2
 go_region
 all_goals
  go_wp2
  refine bodyPost_ret (v:= .tuple #[.slice none 0 0,.agg #[.int .i64 k,.int .i64 z]]) (by simp[results,Tryz.results77,go_sem,g0,g1,hs1]) rfl ⟨fun k' z' hz=>?_,(fun l' hl'=>by cases hl'),HZ.out⟩
  cases hz
  rfl
theorem Parse_err (L:List UInt8)(w:World)(hr:ErrR w){toks:List Tk}{k z:Nat}(h1:splitA L= .ok toks)(h3:srcF (exF 40) ⟨toks,L.length,0,false,0⟩=some (.error (k,z))):
  Calls Tryz.prog 77 #[.string (mkB L)] w (ParP w (.error (k,z))):=by
 have hrW:ErrR (w.alloc (.cells #[.int .i64 0,.int .i64 0] 110)):=hr.up (alB w _)
 have HS:=Split_any L (w.alloc (.cells #[.int .i64 0,.int .i64 0] 110)) hrW
 rw[h1]at HS
 have HP:Hid (∀ (V:World) (B:Nat) (tv:Value),ErrR V→V.ownsRow B 255 4 tv toks.length (tcs toks)→Calls Tryz.prog 110 #[tv,.int .i64 L.length] V (ParP V (.error (k,z)))):=fun V B tv he hV=>parse_err he L.length hV (fun P T=>exF_any 40) h3
 have HB:Hid (Below w.heap.size w (w.alloc (.cells #[.int .i64 0,.int .i64 0] 110))):=alB w _
 have hs0:(w.alloc (.cells #[.int .i64 0,.int .i64 0] 110)).heap.size=w.heap.size+1:=World.size_alloc _ _
 have hf0:=heap_alloc_new w (.cells #[.int .i64 0,.int .i64 0] 110)
 have hsz:=mk_size L
 have HErr:Hid (∀ W',Below w.heap.size w W'→ErrR W'):=fun W' hb=>hr.up hb
 clear h1 h3 hrW hr
 go_enter Tryz.func77,Tryz.ntmps77
 go_wp2_with fail
 refine HS.mono ?_
 rintro e w1 ⟨_,hok,hb1⟩
 obtain⟨tv,rfl,hown⟩:=hok toks rfl
 obtain⟨ao,cp,rfl⟩:=row_shape hown
 have hf1:=(hb1.block w.heap.size (by omega)).trans hf0
 have hs1:w.heap.size<w1.heap.size:=(Array.getElem?_eq_some_iff.1 hf1).1
 have hownX:(w1.alloc (.cells #[.int .i64 0,.int .i64 0] 110)).ownsRow _ 255 4 (.slice ao toks.length cp) toks.length (tcs toks):=own_heap hown (fun g hg=>heap_al w1 _ g (hown.lt g hg).2)
 have HPa:=HP.out _ _ _ (HErr.out _ (HB.out.trans ((hb1.trans ((alB w1 _).mono hb1.size)).mono (by omega)))) hownX
 have hf2:(w1.alloc (.cells #[.int .i64 0,.int .i64 0] 110)).heap[w.heap.size]? =some (.cells #[.int .i64 0,.int .i64 0] 110 (0,0)):=(heap_al _ _ _ hs1).trans hf1
 have HQ:Hid (Below w.heap.size w (w1.alloc (.cells #[.int .i64 0,.int .i64 0] 110))∧(w1.alloc (.cells #[.int .i64 0,.int .i64 0] 110)).heap[w.heap.size]? =some (.cells #[.int .i64 0,.int .i64 0] 110 (0,0))):=⟨(HB.out.trans (hb1.mono (by omega))).trans ((alB w1 _).mono (by omega)),hf2⟩
 clear hok hb1 hown hownX hf1 hf2 HP HS hf0
 go_wp2_with fail
 refine HPa.mono ?_
 rintro e w2 ⟨hbad,_,hb2⟩
 obtain rfl:=hbad k z rfl
 have hf3:=(hb2.block w.heap.size (Array.getElem?_eq_some_iff.1 HQ.out.2).1).trans HQ.out.2
 have g0:w2.cell? ⟨w.heap.size,0,none⟩=some (.int .i64 0):=by rw[Lib.cell_of_heap hf3];rfl
 have g1:w2.cell? ⟨w.heap.size,1,none⟩=some (.int .i64 0):=by rw[Lib.cell_of_heap hf3];rfl
 have k0:w2.frozen? ⟨w.heap.size,0,none⟩=false:=Lib.frozen_of_heap hf3 0
 have k1:w2.frozen? ⟨w.heap.size,1,none⟩=false:=Lib.frozen_of_heap hf3 1
 have HZ:Hid (Below w.heap.size w ((w2.setCell ⟨w.heap.size,0,none⟩ (.int .i64 (k:Int))).setCell ⟨w.heap.size,1,none⟩ (.int .i64 (z:Int)))):=((HQ.out.1.trans (hb2.mono HQ.out.1.size)).setCell (p:=⟨w.heap.size,0,none⟩) (Nat.le_refl _) _).setCell (p:=⟨w.heap.size,1,none⟩) (Nat.le_refl _) _
 clear hbad hb2 hf3 HPa HQ
 go_wp2
 refine bodyPost_ret (v:= .tuple #[.slice none 0 0,.agg #[.int .i64 k,.int .i64 z]]) (by simp[results,Tryz.results77,go_sem,g0,g1]) rfl ⟨fun k' z' hz=>?_,(fun l' hl'=>by cases hl'),HZ.out⟩
 cases hz
 rfl
theorem Parse_fine (L:List UInt8)(w:World)(hr:ErrR w){toks:List Tk}{l:List Sm}{q:Ps}(h1:splitA L= .ok toks)(h3:srcF (exF 40) ⟨toks,L.length,0,false,0⟩=some (.ok (l,q))):
  Calls Tryz.prog 77 #[.string (mkB L)] w (ParP w (.ok l)):=by
 have hrW:ErrR (w.alloc (.cells #[.int .i64 0,.int .i64 0] 110)):=hr.up (alB w _)
 have HS:=Split_any L (w.alloc (.cells #[.int .i64 0,.int .i64 0] 110)) hrW
 rw[h1]at HS
 have HP:Hid (∀ (V:World) (B:Nat) (tv:Value),ErrR V→V.ownsRow B 255 4 tv toks.length (tcs toks)→Calls Tryz.prog 110 #[tv,.int .i64 L.length] V (ParP V (.ok l))):=fun V B tv he hV=>parse_any he L.length hV (fun P T=>exF_any 40) h3
 have HB:Hid (Below w.heap.size w (w.alloc (.cells #[.int .i64 0,.int .i64 0] 110))):=alB w _
 have hs0:(w.alloc (.cells #[.int .i64 0,.int .i64 0] 110)).heap.size=w.heap.size+1:=World.size_alloc _ _
 have hf0:=heap_alloc_new w (.cells #[.int .i64 0,.int .i64 0] 110)
 have hsz:=mk_size L
 have HErr:Hid (∀ W',Below w.heap.size w W'→ErrR W'):=fun W' hb=>hr.up hb
 clear h1 h3 hrW hr
 go_enter Tryz.func77,Tryz.ntmps77
 go_wp2_with fail
 refine HS.mono ?_
 rintro e w1 ⟨_,hok,hb1⟩
 obtain⟨tv,rfl,hown⟩:=hok toks rfl
 obtain⟨ao,cp,rfl⟩:=row_shape hown
 have hf1:=(hb1.block w.heap.size (by omega)).trans hf0
 have hs1:w.heap.size<w1.heap.size:=(Array.getElem?_eq_some_iff.1 hf1).1
 have hownX:(w1.alloc (.cells #[.int .i64 0,.int .i64 0] 110)).ownsRow _ 255 4 (.slice ao toks.length cp) toks.length (tcs toks):=own_heap hown (fun g hg=>heap_al w1 _ g (hown.lt g hg).2)
 have HPa:=HP.out _ _ _ (HErr.out _ (HB.out.trans ((hb1.trans ((alB w1 _).mono hb1.size)).mono (by omega)))) hownX
 have hf2:(w1.alloc (.cells #[.int .i64 0,.int .i64 0] 110)).heap[w.heap.size]? =some (.cells #[.int .i64 0,.int .i64 0] 110 (0,0)):=(heap_al _ _ _ hs1).trans hf1
 have HQ:Hid (Below w.heap.size w (w1.alloc (.cells #[.int .i64 0,.int .i64 0] 110))∧(w1.alloc (.cells #[.int .i64 0,.int .i64 0] 110)).heap[w.heap.size]? =some (.cells #[.int .i64 0,.int .i64 0] 110 (0,0))):=⟨(HB.out.trans (hb1.mono (by omega))).trans ((alB w1 _).mono (by omega)),hf2⟩
 clear hok hb1 hown hownX hf1 hf2 HP HS hf0
 go_wp2_with fail
 refine HPa.mono ?_
 rintro e w2 ⟨_,hok,hb2⟩
 obtain⟨v,vs,rfl,hrw⟩:=hok l rfl
 obtain⟨a3,c3,rfl⟩:=row_shape hrw.row
 have hf3:=(hb2.block w.heap.size (Array.getElem?_eq_some_iff.1 HQ.out.2).1).trans HQ.out.2
 have g0:w2.cell? ⟨w.heap.size,0,none⟩=some (.int .i64 0):=by rw[Lib.cell_of_heap hf3];rfl
 have g1:w2.cell? ⟨w.heap.size,1,none⟩=some (.int .i64 0):=by rw[Lib.cell_of_heap hf3];rfl
 have k0:w2.frozen? ⟨w.heap.size,0,none⟩=false:=Lib.frozen_of_heap hf3 0
 have k1:w2.frozen? ⟨w.heap.size,1,none⟩=false:=Lib.frozen_of_heap hf3 1
 have HZ:Hid (Below w.heap.size w ((w2.setCell ⟨w.heap.size,0,none⟩ (.int .i64 0)).setCell ⟨w.heap.size,1,none⟩ (.int .i64 0))∧RwS w.heap.size ((w2.setCell ⟨w.heap.size,0,none⟩ (.int .i64 0)).setCell ⟨w.heap.size,1,none⟩ (.int .i64 0)) l (.slice a3 l.length c3) vs):=by
  refine⟨((HQ.out.1.trans (hb2.mono HQ.out.1.size)).setCell (p:=⟨w.heap.size,0,none⟩) (Nat.le_refl _) _).setCell (p:=⟨w.heap.size,1,none⟩) (Nat.le_refl _) _,?_⟩
  have hsX:=(Array.getElem?_eq_some_iff.1 HQ.out.2).1
  exact(hrw.keep (fun g hg _=>(Below.heap_setCell _ ⟨w.heap.size,1,none⟩ _ g (by show ¬g=w.heap.size;omega)).trans (Below.heap_setCell _ ⟨w.heap.size,0,none⟩ _ g (by show ¬g=w.heap.size;omega)))).mono (by omega)
 clear hok hb2 hrw hf3 HPa HQ
 go_wp2
 refine bodyPost_ret (v:= .tuple #[.slice a3 l.length c3,.agg #[.int .i64 0,.int .i64 0]]) (by simp[results,Tryz.results77,go_sem,g0,g1]) rfl ⟨(fun k z hz=>by cases hz),fun l' hl'=>?_,HZ.out.1⟩
 cases hl'
 exact⟨_,vs,rfl,HZ.out.2⟩
theorem Parse_any (L:List UInt8)(w:World)(hr:ErrR w){r:Except Ft (List Sm)}(h:parR L=some r):
  Calls Tryz.prog 77 #[.string (mkB L)] w (ParP w r):=by
 rcases parR_some h with⟨k,z,h1,hk,rfl⟩|⟨toks,h1,⟨⟨k,z⟩,h3,rfl⟩|⟨l,q,h3,rfl⟩⟩
 ·exact Parse_fault L w hr hk h1
 ·exact Parse_err L w hr h1 h3
 ·exact Parse_fine L w hr h1 h3
end Go.Proofs.YthfgpkdbclogpaaGreatDoor
