/- 23. -/
import Derived.Test.YthfgpkdbclogpaaGreatDoorTx22
set_option maxHeartbeats 40000000
set_option maxRecDepth 100000
namespace Go.Proofs.YthfgpkdbclogpaaGreatDoor
open Go.RowKit Go.Shelf
structure KM (r M:Nat)(w w':World):Prop where
 os:w'.os=w.os
 tape:w'.tape=w.tape
 output:w'.output=w.output
 size:w.heap.size≤w'.heap.size
 blk:∀ g,g<w.heap.size→g≠r→g≠M→w'.heap[g]? =w.heap[g]?
theorem KM.refl (r M:Nat)(w:World):KM r M w w:=⟨rfl,rfl,rfl,Nat.le_refl _,fun _ _ _ _=>rfl⟩
theorem KM.trans {r M:Nat}{a b c:World}(h:KM r M a b)(k:KM r M b c):KM r M a c:=⟨k.os.trans h.os,k.tape.trans h.tape,k.output.trans h.output,Nat.le_trans h.size k.size,fun g hg h1 h2=>(k.blk g (Nat.lt_of_lt_of_le hg h.size) h1 h2).trans (h.blk g hg h1 h2)⟩
theorem KM.of_kp {r:Nat}(M:Nat){w w':World}(h:KP r w w'):KM r M w w':=⟨h.os,h.tape,h.output,h.size,fun g hg h1 _=>h.blk g hg h1⟩
theorem KM.of_put {r M:Nat}{w w':World}(h:w.mapTurned w' M):KM r M w w':=by
 have k:=h.grown
 exact⟨k.os,k.tape,k.output,k.size,fun g hg _ h2=>k.block g hg fun e=>h2 (Option.some.inj e)⟩
theorem KM.below {r M B:Nat}{w w':World}(h:KM r M w w')(h1:B≤r)(h2:B≤M)(hs:B≤w.heap.size):Below B w w':=⟨h.os,h.tape,h.output,h.size,fun g hg=>h.blk g (by omega) (by omega) (by omega)⟩
abbrev putV (env:List UInt8→Option Va)(t:List UInt8)(v:Va):List UInt8→Option Va:=fun s=>if s=t then some v else env s
section
variable {env:List UInt8→Option Va} {E:List (List UInt8×Value)} {w:World} {wb r M S q n m k lo d:Nat} {t:List UInt8} {v:Va} {x:Ex} {a0 a3 a4:Option Addr} {n0 c0 n3 c3 n4 c4:Nat} {ce:List Value}
theorem EvS.put {w':World}(h:EvS env E w wb r M S q n)(mv:MV w' M (k+1) ((t,vaV v)::E))(hk:k+1+n≤1000000)(hm:w.mapTurned w' M)(hok:vaOk v)(ht:t.length≤1000):EvS (putV env t v) ((t,vaV v)::E) w' wb r M S q n:=by
 have hg:=hm.grown
 have hs:=hg.size
 have blk:∀ g,g<w.heap.size→g≠M→w'.heap[g]? =w.heap[g]? :=fun g h1 h2=>hg.block g h1 fun e=>h2 (Option.some.inj e)
 have cl:∀ g o,g<w.heap.size→g≠M→w'.cell? ⟨g,o,none⟩=w.cell? ⟨g,o,none⟩:=fun g o h1 h2=>World.cell?_of_block (blk g h1 h2)
 obtain⟨c,hc⟩:=h.ra
 obtain⟨M2,h2⟩:=h.home
 obtain⟨M3,h3⟩:=h.bt
 have hr:w'.heap[r]? =w.heap[r]? :=blk r h.wk.lr fun e=>h.nem e.symm
 refine⟨⟨Nat.lt_of_lt_of_le h.wk.lw hs,Nat.lt_of_lt_of_le h.wk.lr hs,(cl wb 0 h.wk.lw h.nm.1).trans h.wk.run,(World.cell?_of_block hr).trans h.wk.fuel,(World.frozen?_of_block hr).trans h.wk.warm,h.wk.most⟩,⟨c,hr.trans hc⟩,h.ne,h.neq,Nat.lt_of_lt_of_le h.lq hs,(cl q 0 h.lq h.nm.2.1).trans h.atq,(World.cell?_of_block hr).trans h.sg,fun t f c e V hV=>h.sgm t f c e V (hV.trans (blk S h.nes.2 h.nm.2.2)),⟨h.nes.1,Nat.lt_of_lt_of_le h.nes.2 hs⟩,(cl wb 1 h.wk.lw h.nm.1).trans h.own,⟨M2,(cl wb 2 h.wk.lw h.nm.1).trans h2⟩,⟨M3,(World.cell?_of_block hr).trans h3⟩,h.nem,⟨k+1,mv,hk⟩,fun s u hs=>?_,fun s u hs=>?_,h.nm,(World.cell?_of_block hr).trans h.tg⟩
 ·by_cases he:s=t
  ·rw[putV,if_pos he]at hs
   cases hs
   exact⟨by show(if s=t then _ else _)=_;rw[if_pos he],by rw[he];exact ht⟩
  ·rw[putV,if_neg he]at hs
   exact⟨by show(if s=t then _ else _)=_;rw[if_neg he];exact(h.ev s u hs).1,(h.ev s u hs).2⟩
 ·by_cases he:s=t
  ·rw[putV,if_pos he]at hs
   cases hs
   exact hok
  ·rw[putV,if_neg he]at hs
   exact h.ok s u hs
theorem EvS.alloc (h:EvS env E w wb r M S q n){w':World}(hb:Below w.heap.size w w'):EvS env E w' wb r M S q n:=by
 obtain⟨c,hc⟩:=h.ra
 exact h.fr (Nat.le_refl _) (Fr.same hc h.wk.fuel hb)
theorem set_told (hs:EvS env E w wb r M S q (n+1))(hl:r<lo)(hx:ExA w (fun g=>lo≤g) x ce)(he:evE env d x n=some (.ok v,m))(ht:t.length≤1000)(ke xe:Int)(te:ByteArray)(a1 a2:Option Addr)(n1 c1 n2 c2:Nat)(hce:ce=[.int .i64 ke,.int .i64 xe,.string te,.slice a1 n1 c1,.slice a2 n2 c2]):
  Calls Tryz.prog 111 #[.pointer (some ⟨wb,0,none⟩),.agg (stV 3 (mkB t) (.slice a0 n0 c0) ke xe te (.slice a1 n1 c1) (.slice a2 n2 c2) (.slice a3 n3 c3) (.slice a4 n4 c4))] w fun e w'=>e= .returned .nilIface∧EvS (putV env t v) ((t,vaV v)::E) w' wb r M S q m∧KM r M w w':=by
 obtain⟨c,hc⟩:=hs.ra
 obtain⟨k,mv,hk⟩:=hs.mv
 obtain⟨hok,hmn⟩:=ev_ok hs.ok d x n _ he
 refine set_go (v:=vaV v) hs.wk hc (by omega) hs.ne hs.own mv.lt hs.nm.1 fun W F=>?_
 rw[less1]at F
 have hW:=hs.fr (Nat.le_succ n) F
 have hX:=ex_keep hx hl F
 rw[hce]at hX
 refine(ev_any hl d x n _ he W _ hW hX).mono ?_
 intro e w' hp
 obtain⟨rfl,F2⟩:=hp.1 v rfl
 have h2:=hW.fr hmn F2
 have kp:=kp_of F2
 have mv2:MV w' M k E:=omapV mv ((kp.blk M (Nat.lt_of_lt_of_le mv.lt F.size) h2.nem).trans ((kp_of F).blk M mv.lt h2.nem))
 obtain⟨w4,hu,mv4,hm4⟩:=mv2.put Tryz.underlying46 (by unfold maxLen;omega) (s:=mkB t) (by rw[mk_size];unfold maxLen;omega) (vaV v)
 rw[mk_data]at mv4
 exact⟨rfl,kp,w4,hu,hm4,h2.put mv4 (by show k+1+m≤1000000;have:m≤n:=hmn;omega) hm4 (hok v rfl) ht,((KM.of_kp M (kp_of F)).trans (KM.of_kp M kp)).trans (KM.of_put hm4)⟩
theorem set_gave {j:Nat}(hs:EvS env E w wb r M S q (n+1))(hl:r<lo)(hx:ExA w (fun g=>lo≤g) x ce)(he:evE env d x n=some (.error j,m))(ke xe:Int)(te:ByteArray)(a1 a2:Option Addr)(n1 c1 n2 c2:Nat)(hce:ce=[.int .i64 ke,.int .i64 xe,.string te,.slice a1 n1 c1,.slice a2 n2 c2]):
  Calls Tryz.prog 111 #[.pointer (some ⟨wb,0,none⟩),.agg (stV 3 (mkB t) (.slice a0 n0 c0) ke xe te (.slice a1 n1 c1) (.slice a2 n2 c2) (.slice a3 n3 c3) (.slice a4 n4 c4))] w fun e w'=>e=PE (j:Nat)∧KP r w w':=by
 obtain⟨c,hc⟩:=hs.ra
 refine set_no hs.wk hc (by omega) hs.ne hs.own fun W F=>?_
 rw[less1]at F
 have hW:=hs.fr (Nat.le_succ n) F
 have hX:=ex_keep hx hl F
 rw[hce]at hX
 exact(ev_any hl d x n _ he W _ hW hX).mono fun e w' hp=>hp.2 j rfl
end
def StI (I:Nat→World→Prop)(P:World→Prop)(jj:Int)(wb g i:Nat)(W:World):Prop:=∃ (k:Int) (t:ByteArray) (a0:Option Addr) (n0 c0:Nat) (ke xe:Int) (te:ByteArray) (a1:Option Addr) (n1 c1:Nat) (a2:Option Addr) (n2 c2:Nat) (a3:Option Addr) (n3 c3:Nat) (a4:Option Addr) (n4 c4:Nat),
 (∀ j u,([.int .i64 k,.string t,.slice a0 n0 c0,.int .i64 ke,.int .i64 xe,.string te,.slice a1 n1 c1,.slice a2 n2 c2,.slice a3 n3 c3,.slice a4 n4 c4]:List Value)[j]? =some u→W.cell? ⟨g,i*10+j,none⟩=some u)∧
 ∀ V,Below W.heap.size W V→Calls Tryz.prog 111 #[.pointer (some ⟨wb,0,none⟩),.agg (stV k t (.slice a0 n0 c0) ke xe te (.slice a1 n1 c1) (.slice a2 n2 c2) (.slice a3 n3 c3) (.slice a4 n4 c4))] V fun e w'=>(e= .returned .nilIface∧I (i+1) w')∨(e=PE jj∧P w')
theorem stmts_go {I:Nat→World→Prop}{P:World→Prop}{jj:Int}{wb g len cap:Nat}(hlen:len≤1000000)(hI:∀ i W,i<len→I i W→StI I P jj wb g i W)(w:World)(h0:I 0 w):
  Calls Tryz.prog 78 #[.pointer (some ⟨wb,0,none⟩),.slice (some ⟨g,0,none⟩) len cap] w fun e w'=>(e= .returned .nilIface∧I len w')∨(e=PE jj∧P w'):=by
 have HI:Hid (∀ i W,i<len→I i W→StI I P jj wb g i W):=hI
 have H0:Hid (I 0 w):=h0
 clear hI h0
 go_enter Tryz.func78,Tryz.ntmps78
 go_wp2
 go_loopw [10] (fun i wr=>∃ k:Nat,k≤len∧i= .int .i64 (k:Int)∧Hid (I k wr)) (fun i _=>len-(intOf i).toNat)
 case atStart=>exact⟨0,Nat.zero_le _,rfl,H0⟩
 case round=>
  obtain⟨i,hi,rfl,HK⟩:=hrel
  clear H0
  by_cases hl:i<len
  ·have hli:(i:Int)<(len:Int):=by omega
   obtain⟨k,t,a0,n0,c0,ke,xe,te,a1,n1,c1,a2,n2,c2,a3,n3,c3,a4,n4,c4,hc,hC⟩:=HI.out i wr hl HK.out
   have u0:=hc 0 _ rfl
   have u1:=hc 1 _ rfl
   have u2:=hc 2 _ rfl
   have u3:=hc 3 _ rfl
   have u4:=hc 4 _ rfl
   have u5:=hc 5 _ rfl
   have u6:=hc 6 _ rfl
   have u7:=hc 7 _ rfl
   have u8:=hc 8 _ rfl
   have u9:=hc 9 _ rfl
   simp only[Nat.add_zero]at u0
   have HC:=hC _ ((Below.refl _ wr).alloc (Nat.le_refl _) (.cells (stV k t (.slice a0 n0 c0) ke xe te (.slice a1 n1 c1) (.slice a2 n2 c2) (.slice a3 n3 c3) (.slice a4 n4 c4)) 164))
   clear hc hC
   go_wp2_with fail
   refine HC.mono ?_
   rintro e w' (⟨rfl,hq⟩|⟨rfl,hq⟩)
   ·have HQ:Hid (I (i+1) w'):=hq
    clear hq
    go_wp2
    exact⟨⟨i+1,by omega,by simp,HQ⟩,by simp only[intOf];omega⟩
   ·exact⟨rfl,.inr ⟨rfl,hq⟩⟩
  ·have hli:¬(i:Int)<(len:Int):=by omega
   have he:i=len:=by omega
   subst he
   go_wp2
   go_ret
   exact .inl ⟨rfl,HK.out⟩
end Go.Proofs.YthfgpkdbclogpaaGreatDoor
namespace Go.Proofs.YthfgpkdbclogpaaGreatDoor
open Go.RowKit Go.Shelf
attribute [local go_sem ↓] fld0 fld1 fld2 fld3
def tkLen (P:Nat)(w:World):Nat:=match w.cell? ⟨P,0,none⟩with
 |some (.slice _ n _)=>n
 |_=>0
theorem PsA.tk {P T:Nat}{w:World}{p:Ps}(h:PsA P T w p):tkLen P w=p.toks.length:=by
 obtain⟨_,_,c0,_⟩:=h.cells
 unfold tkLen
 rw[c0]
theorem poE_fin2 {P T:Nat}{w w1:World}{R:Nat}(hR:w.heap.size≤R){S:Nat→Prop}{x:Ex}{c:List Value}(hx:ExA w1 S x c)(hS:∀ g,S g→w.heap.size≤g∧g≠R){q:Ps}(hps:PsA P T w1 q)(hk:KP P w w1)(hP:P<w.heap.size)(hT:T<w.heap.size):
  PoA P T (VE w.heap.size) w (.ok (x,q)) (.returned (.agg c.toArray)) (w1.setCells R 0 c):=
 ⟨_,rfl,⟨c,rfl,hx.keep (fun g hg _=>heap_sets R c 0 w1 g (hS g hg).2) (fun g hg _=>(hS g hg).1)⟩,hps.sets (by omega) (by omega) _,hk.sets hR _⟩
theorem cells_of_range {w:World}{b:Nat}{c:List Value}{c0:Array Value}{ty:TypeId}(h:w.heap[b]? =some (.cells c0 ty (0,0)))(hl:c.length=c0.size):(w.setCells b 0 c).rangeAt b 0 c:=World.rangeAt_setCells_same _ _ _ _ (by rw[hl];exact there_of h)
def EV (w:World)(L:Nat)(c:List Value):Prop:=(∃ c0,w.heap[L]? =some (.cells c0 162 (0,0))∧c0.size=5)∧w.rangeAt L 0 c
theorem EV.lt {w:World}{L:Nat}{c:List Value}(h:EV w L c):L<w.heap.size:=by
 obtain⟨⟨c0,h,_⟩,_⟩:=h
 exact(Array.getElem?_eq_some_iff.1 h).1
theorem EV.keep {w w':World}{L:Nat}{c:List Value}(h:EV w L c)(hk:w'.heap[L]? =w.heap[L]?):EV w' L c:=by
 obtain⟨⟨c0,h1,h2⟩,h3⟩:=h
 refine⟨⟨c0,hk.trans h1,h2⟩,fun j v hv=>?_⟩
 rw[←h3 j v hv]
 simp[World.cell?,hk]
theorem heap_set_same (b:Nat){c0:Array Value}{ty:TypeId}:∀ (vs:List Value) (o:Nat) (w:World),w.heap[b]? =some (.cells c0 ty (0,0))→∃ c1:Array Value,(w.setCells b o vs).heap[b]? =some (.cells c1 ty (0,0))∧c1.size=c0.size
 |[],_,_,h=>⟨c0,h,rfl⟩
 |v::vs,o,w,h=>by
  have h2:(w.setCell ⟨b,o,none⟩ v).heap[b]? =some (.cells (c0.setIfInBounds o v) ty (0,0)):=Go.Joins.block_setCell h v
  obtain⟨c1,h3,h4⟩:=heap_set_same b vs (o+1) _ h2
  exact⟨c1,h3,by rw[h4];simp⟩
theorem EV.put {w:World}{L:Nat}{c:List Value}(h:EV w L c){c':List Value}(hl:c'.length=5):EV (w.setCells L 0 c') L c':=by
 obtain⟨⟨c0,h1,h2⟩,_⟩:=h
 obtain⟨c1,h3,h4⟩:=heap_set_same L c' 0 w h1
 exact⟨⟨c1,h3,by rw[h4,h2]⟩,cells_of_range h1 (by rw[hl,h2])⟩
theorem EV.new {w1:World}{c:List Value}(hl:c.length=5):EV ((w1.alloc ez).setCells w1.heap.size 0 c) w1.heap.size c:=by
 have hr:(w1.alloc ez).heap[w1.heap.size]? =some ez:=heap_alloc_new w1 _
 obtain⟨c1,h3,h4⟩:=heap_set_same w1.heap.size c 0 _ hr
 exact⟨⟨c1,h3,h4⟩,cells_of_range hr hl⟩
theorem EV.there {w:World}{L:Nat}{c:List Value}(h:EV w L c){c':List Value}(hl:c'.length=5):w.there L 0 c'.toArray.size:=by
 obtain⟨⟨c0,h1,h2⟩,_⟩:=h
 have:c'.toArray.size=c0.size:=hl.trans h2.symm
 rw[this]
 exact there_of h1
def JoI (P T n L:Nat)(w:World)(m:Ps→Px Ex)(l:List (List UInt8))(z:Except Ft (Ex×Ps))(wr:World):Prop:=∃ e p f c,jnL m l f e p=some z∧PsA P T wr p∧KP P w wr∧EV wr L c∧ExA wr (fun g=>n+1≤g∧g≠L) e c∧wr.heap[n]? =some ez
theorem joined_any {P T F:Nat}{caps:Array Value}{w:World}{p:Ps}{m:Ps→Px Ex}(h:PsA P T w p)(hm:PartC P T F caps w m){sgv:Value}{l:List (List UInt8)}(hsg:SgA P w sgv l){z:Except Ft (Ex×Ps)}(hz:jn m l p=some z):
  Calls Tryz.prog 285 #[pt P,.func (.func F) #[] caps,sgv] w (PoA P T (VE w.heap.size) w z):=by
 have hPl:=h.lt
 have hTl:=h.ltT
 have hent:=hm.1
 have HM:Hid (PartC P T F caps w m):=hm
 have HSG:Hid (SgA P w sgv l):=hsg
 have hk0:KP P w (w.alloc ez):=KP.of_below (alB w ez)
 have hr0:(w.alloc ez).heap[w.heap.size]? =some ez:=heap_alloc_new w ez
 have HC:Hid (∀ z',m p=some z'→Calls Tryz.prog F caps (w.alloc ez) (PoA P T (VE (w.heap.size+1)) (w.alloc ez) z')):=fun z' hz'=>by
  have:=hm.2 _ p z' hk0 (h.up (alB w ez)) hz'
  rwa [World.size_alloc]at this
 have HV:Hid (KP P w (w.alloc ez)∧(w.alloc ez).heap[w.heap.size]? =some ez):=⟨hk0,hr0⟩
 clear hm hk0 hr0 h hsg
 rcases bnd_some hz with⟨x,hx,rfl⟩|⟨x,q,hx,hq⟩
 ·have HC1:=HC.out _ hx
  clear HC
  go_enter Tryz.func285,Tryz.ntmps285
  go_wp2_with fail
  refine HC1.mono ?_
  rintro e w1 hpo
  obtain⟨rfl,hk⟩:=bad_panic hpo HV.out.1
  exact⟨rfl,rfl,hk⟩
 ·have HC1:=HC.out _ hx
  clear HC
  go_enter Tryz.func285,Tryz.ntmps285
  go_wp2_with fail
  refine HC1.mono ?_
  rintro e w1 ⟨v,rfl,⟨c,rfl,hx1⟩,hp1,hk1⟩
  have hr1:w1.heap[w.heap.size]? =some ez:=(hk1.blk _ (Array.getElem?_eq_some_iff.1 HV.out.2).1 (by omega)).trans HV.out.2
  have hs1:w.heap.size<w1.heap.size:=(Array.getElem?_eq_some_iff.1 hr1).1
  have hkw:=HV.out.1.trans hk1
  obtain⟨t1,r1,x1,g1⟩:=var5 hx1
  obtain⟨-,i1,o1,-,j1⟩:=fin5 hr1 rfl hx1
  have HF:Hid ((w1.alloc ez).there w1.heap.size 0 c.toArray.size∧(Tryz.prog.info? 162).map (·.size)=some c.toArray.size∧c.toArray.all (·.oneCell')=true):=⟨t1,i1,o1⟩
  have HJ:Hid (JoI P T w.heap.size w1.heap.size w m l z ((w1.alloc ez).setCells w1.heap.size 0 c)):=⟨x,q,_,c,hq,hp1.keep (g1 P (by omega)) (g1 T (by omega)),(hkw.trans (KP.of_below (alB w1 ez))).sets (by omega) c,EV.new hx1.len,x1.mono (fun g hg _=>⟨hg.1,by omega⟩),(g1 _ hs1).trans hr1⟩
  clear t1 r1 x1 g1 i1 o1 j1 hkw hr1 hk1 hp1 hx1 HC1 HV hq hx hz
  go_wp2_with (first
   |(refine wpList_store_mid rfl 162 (Operand.tmp 7) (Operand.tmp 9) rfl w1.heap.size 0 c.toArray rfl rfl HF.out.1 HF.out.2.1 HF.out.2.2 ?_)
   |fail)
  simp only[Act.put]
  go_loopw [] (fun wr=>Hid (JoI P T w.heap.size w1.heap.size w m l z wr)) (fun wr=>tkLen P wr)
  case atStart=>exact HJ
  case round=>
   obtain⟨e,p',f,c',hj,hps,hk,hev,hxe,hrr⟩:=hrel.out
   clear hrel HJ HF
   cases f with
   |zero=>cases hj
   |succ f=>
   have HS:=seesSign_any hps (HSG.out.keep hk)
   unfold jnL at hj
   cases hb:p'.sees l with
   |false=>
    rw[hb]at hj HS
    cases hj
    go_wp2_with fail
    refine HS.mono ?_
    rintro e2 w2 ⟨rfl,hb2⟩
    have hxe2:ExA w2 (fun g=>w.heap.size+1≤g∧g≠w1.heap.size) e c':=hxe.keep (fun g _ hg=>hb2.block g hg) (fun g hg _=>hg)
    have hev2:=hev.keep (hb2.block _ hev.lt)
    have hrr2:=(hb2.block _ (Array.getElem?_eq_some_iff.1 hrr).1).trans hrr
    obtain⟨t2,i2,o2,l2,j2⟩:=fin5 hrr2 rfl hxe2
    have HE:Hid (PoA P T (VE w.heap.size) w (.ok (e,p')) (.returned (.agg c'.toArray)) (w2.setCells w.heap.size 0 c')):=poE_fin2 (Nat.le_refl _) hxe2 (fun g hg=>⟨by omega,by omega⟩) (hps.up hb2) (hk.trans (KP.of_below hb2)) hPl hTl
    have HF:Hid (w2.rangeAt w1.heap.size 0 c'∧(Tryz.prog.info? 162).map (·.size)=some c'.length∧w2.there w.heap.size 0 c'.toArray.size∧(Tryz.prog.info? 162).map (·.size)=some c'.toArray.size∧c'.toArray.all (·.oneCell')=true∧(loadVar 162 ⟨w.heap.size,0,none⟩).run Tryz.prog (w2.setCells w.heap.size 0 c')= .ok (.agg c'.toArray) (w2.setCells w.heap.size 0 c')):=⟨hev2.2,j2,t2,i2,o2,l2⟩
    clear hxe2 hev2 hrr2 t2 i2 o2 l2 j2 hb2 HS hxe hev hrr hps hk
    go_wp2_with (first
     |(refine wpList_load_mid rfl 162 (Operand.tmp 7) rfl w1.heap.size 0 rfl c' _ HF.out.1 Tryz.underlying162 rfl HF.out.2.1 ?_)
     |(refine wpList_store_mid rfl 162 (Operand.tmp 6) (Operand.tmp 17) rfl w.heap.size 0 c'.toArray rfl rfl HF.out.2.2.1 HF.out.2.2.2.1 HF.out.2.2.2.2.1 ?_)
     |fail)
    refine bodyPost_ret (v:= .agg c'.toArray) (res_one Tryz.results285 _ _ rfl HF.out.2.2.2.2.2) rfl HE.out
   |true=>
    rw[hb]at hj HS
    replace hj:(bnd (m p'.adv) fun x q=>iff (less q p') (jnL m l f ⟨14,0,p'.nx.text,[e,x],[]⟩ q))=some z:=hj
    go_wp2_with fail
    refine HS.mono ?_
    rintro e2 w2 ⟨rfl,hb2⟩
    have hxe2:ExA w2 (fun g=>w.heap.size+1≤g∧g≠w1.heap.size) e c':=hxe.keep (fun g _ hg=>hb2.block g hg) (fun g hg _=>hg)
    have hev2:=hev.keep (hb2.block _ hev.lt)
    have hrr2:=(hb2.block _ (Array.getElem?_eq_some_iff.1 hrr).1).trans hrr
    have hk2:=hk.trans (KP.of_below (P:=P) hb2)
    have hps2:=hps.up hb2
    have htk:=hps.tk
    obtain⟨-,-,-,-,j2⟩:=fin5 hrr2 rfl hxe2
    rcases bnd_some hj with⟨y,hy,rfl⟩|⟨y,q2,hy,hq2⟩
    ·have HP:=pair_any hps2 (HM.out.keep hk2) hb hxe2 (fun g hg=>by omega) (z:= .error y) (by rw[hy];rfl)
     have HF:Hid (w2.rangeAt w1.heap.size 0 c'∧(Tryz.prog.info? 162).map (·.size)=some c'.length):=⟨hev2.2,j2⟩
     clear hxe2 hev2 hrr2 j2 hb2 HS hxe hev hrr hps hk hj hps2 hy
     go_wp2_with (first
      |(refine wpList_load_mid rfl 162 (Operand.tmp 7) rfl w1.heap.size 0 rfl c' _ HF.out.1 Tryz.underlying162 rfl HF.out.2 ?_)
      |fail)
     refine HP.mono ?_
     rintro e3 w3 hpo
     obtain⟨rfl,hk3⟩:=bad_panic hpo hk2
     exact⟨rfl,rfl,hk3⟩
    ·obtain⟨hle,hj2⟩:=iff_some hq2
     have hle2:q2.toks.length<p'.toks.length:=of_decide_eq_true hle
     have HP:=pair_any hps2 (HM.out.keep hk2) hb hxe2 (fun g hg=>by omega) (z:= .ok (_,q2)) (by rw[hy];rfl)
     have HF:Hid (w2.rangeAt w1.heap.size 0 c'∧(Tryz.prog.info? 162).map (·.size)=some c'.length):=⟨hev2.2,j2⟩
     have HH:Hid (EV w2 w1.heap.size c'∧w2.heap[w.heap.size]? =some ez∧w1.heap.size<w2.heap.size):=⟨hev2,hrr2,hev2.lt⟩
     clear hxe2 hev2 hrr2 j2 hb2 HS hxe hev hrr hps hk hj hps2 hy hq2 hle
     go_wp2_with (first
      |(refine wpList_load_mid rfl 162 (Operand.tmp 7) rfl w1.heap.size 0 rfl c' _ HF.out.1 Tryz.underlying162 rfl HF.out.2 ?_)
      |fail)
     refine HP.mono ?_
     rintro e3 w3 ⟨v3,rfl,⟨c3,rfl,hx3⟩,hp3,hk3⟩
     have hr3:=(hk3.blk _ (Array.getElem?_eq_some_iff.1 HH.out.2.1).1 (by omega)).trans HH.out.2.1
     have hl3:EV w3 w1.heap.size c':=HH.out.1.keep (hk3.blk _ HH.out.2.2 (by omega))
     obtain⟨-,i3,o3,-,j3⟩:=fin5 hr3 rfl hx3
     have HG:Hid (w3.there w1.heap.size 0 c3.toArray.size∧(Tryz.prog.info? 162).map (·.size)=some c3.toArray.size∧c3.toArray.all (·.oneCell')=true):=⟨hl3.there hx3.len,i3,o3⟩
     have hK3:KP P w (w3.setCells w1.heap.size 0 c3):=(hk2.trans hk3).sets (by omega) _
     have hP3:PsA P T (w3.setCells w1.heap.size 0 c3) q2:=hp3.sets (by omega) (by omega) _
     have HJ:Hid (JoI P T w.heap.size w1.heap.size w m l z (w3.setCells w1.heap.size 0 c3)):=⟨_,q2,f,c3,hj2,hP3,hK3,hl3.put hx3.len,hx3.keep (fun g hg _=>heap_sets _ c3 0 w3 g (by rcases hg with hg|hg;(· exact hg.2);(· have:=HH.out.2.2;omega))) (fun g hg _=>by rcases hg with hg|hg;(· exact hg);(· have:=HH.out.2.2;omega)),(heap_sets _ c3 0 w3 _ (by omega)).trans hr3⟩
     have htk3:=hP3.tk
     clear hr3 hl3 i3 o3 j3 hK3 hP3 hx3 hp3 hk3 HP HH HF
     go_wp2_with (first
      |(refine wpList_store_mid rfl 162 (Operand.tmp 7) (Operand.tmp 16) rfl w1.heap.size 0 c3.toArray rfl rfl HG.out.1 HG.out.2.1 HG.out.2.2 ?_)
      |fail)
     refine⟨⟨_,_,_,_,_,_,_,HJ,rfl⟩,?_⟩
     show tkLen P _<tkLen P _
     rw[htk3,htk]
     exact hle2
end Go.Proofs.YthfgpkdbclogpaaGreatDoor
