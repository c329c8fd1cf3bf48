/- 17. -/
import Derived.Test.YtcaeeackccgclaaGreatDoorTx11
set_option maxHeartbeats 40000000
set_option maxRecDepth 100000
namespace Go.Proofs.YtcaeeackccgclaaGreatDoor
open Go.RowKit Go.Shelf
attribute [local go_sem ↓] fld0 fld1 fld2 fld3
def tkLen (P:Nat)(w:World):Nat:=match w.cell? ⟨P,0,none⟩with
 |some (.slice _ n _)=>n
 |_=>0
theorem PsA.tk {P T:Nat}{w:World}{p:Ps}(h:PsA P T w p):tkLen P w=p.toks.length:=by
 obtain⟨_,_,c0,_⟩:=h.cells
 unfold tkLen
 rw[c0]
theorem poE_fin2 {P T:Nat}{w w1:World}{R:Nat}(hR:w.heap.size≤R){S:Nat→Prop}{x:Ex}{c:List Value}(hx:ExA w1 S x c)(hS:∀ g,S g→w.heap.size≤g∧g≠R){q:Ps}(hps:PsA P T w1 q)(hk:KP P w w1)(hP:P<w.heap.size)(hT:T<w.heap.size):
  PoA P T (VE w.heap.size) w (.ok (x,q)) (.returned (.agg c.toArray)) (w1.setCells R 0 c):=
 ⟨_,rfl,⟨c,rfl,hx.keep (fun g hg _=>heap_sets R c 0 w1 g (hS g hg).2) (fun g hg _=>(hS g hg).1)⟩,hps.sets (by omega) (by omega) _,hk.sets hR _⟩
theorem cells_of_range {w:World}{b:Nat}{c:List Value}{c0:Array Value}{ty:TypeId}(h:w.heap[b]? =some (.cells c0 ty (0,0)))(hl:c.length=c0.size):(w.setCells b 0 c).rangeAt b 0 c:=World.rangeAt_setCells_same _ _ _ _ (by rw[hl];exact there_of h)
def EV (w:World)(L:Nat)(c:List Value):Prop:=(∃ c0,w.heap[L]? =some (.cells c0 38 (0,0))∧c0.size=5)∧w.rangeAt L 0 c
theorem EV.lt {w:World}{L:Nat}{c:List Value}(h:EV w L c):L<w.heap.size:=by
 obtain⟨⟨c0,h,_⟩,_⟩:=h
 exact(Array.getElem?_eq_some_iff.1 h).1
theorem EV.keep {w w':World}{L:Nat}{c:List Value}(h:EV w L c)(hk:w'.heap[L]? =w.heap[L]?):EV w' L c:=by
 obtain⟨⟨c0,h1,h2⟩,h3⟩:=h
 refine⟨⟨c0,hk.trans h1,h2⟩,fun j v hv=>?_⟩
 rw[←h3 j v hv]
 simp[World.cell?,hk]
theorem heap_set_same (b:Nat){c0:Array Value}{ty:TypeId}:∀ (vs:List Value) (o:Nat) (w:World),w.heap[b]? =some (.cells c0 ty (0,0))→∃ c1:Array Value,(w.setCells b o vs).heap[b]? =some (.cells c1 ty (0,0))∧c1.size=c0.size
 |[],_,_,h=>⟨c0,h,rfl⟩
 |v::vs,o,w,h=>by
  have h2:(w.setCell ⟨b,o,none⟩ v).heap[b]? =some (.cells (c0.setIfInBounds o v) ty (0,0)):=Go.Joins.block_setCell h v
  obtain⟨c1,h3,h4⟩:=heap_set_same b vs (o+1) _ h2
  exact⟨c1,h3,by rw[h4];simp⟩
theorem EV.put {w:World}{L:Nat}{c:List Value}(h:EV w L c){c':List Value}(hl:c'.length=5):EV (w.setCells L 0 c') L c':=by
 obtain⟨⟨c0,h1,h2⟩,_⟩:=h
 obtain⟨c1,h3,h4⟩:=heap_set_same L c' 0 w h1
 exact⟨⟨c1,h3,by rw[h4,h2]⟩,cells_of_range h1 (by rw[hl,h2])⟩
theorem EV.new {w1:World}{c:List Value}(hl:c.length=5):EV ((w1.alloc ez).setCells w1.heap.size 0 c) w1.heap.size c:=by
 have hr:(w1.alloc ez).heap[w1.heap.size]? =some ez:=heap_alloc_new w1 _
 obtain⟨c1,h3,h4⟩:=heap_set_same w1.heap.size c 0 _ hr
 exact⟨⟨c1,h3,h4⟩,cells_of_range hr hl⟩
theorem EV.there {w:World}{L:Nat}{c:List Value}(h:EV w L c){c':List Value}(hl:c'.length=5):w.there L 0 c'.toArray.size:=by
 obtain⟨⟨c0,h1,h2⟩,_⟩:=h
 have:c'.toArray.size=c0.size:=hl.trans h2.symm
 rw[this]
 exact there_of h1
def JoI (P T n L:Nat)(w:World)(m:Ps→Px Ex)(l:List (List UInt8))(z:Except Ft (Ex×Ps))(wr:World):Prop:=∃ e p f c,jnL m l f e p=some z∧PsA P T wr p∧KP P w wr∧EV wr L c∧ExA wr (fun g=>n+1≤g∧g≠L) e c∧wr.heap[n]? =some ez
theorem joined_any {P T F:Nat}{caps:Array Value}{w:World}{p:Ps}{m:Ps→Px Ex}(h:PsA P T w p)(hm:PartC P T F caps w m){sgv:Value}{l:List (List UInt8)}(hsg:SgA P w sgv l){z:Except Ft (Ex×Ps)}(hz:jn m l p=some z):
  Calls Tryz.prog 108 #[pt P,.func (.func F) #[] caps,sgv] w (PoA P T (VE w.heap.size) w z):=by
 have hPl:=h.lt
 have hTl:=h.ltT
 have hent:=hm.1
 have HM:Hid (PartC P T F caps w m):=hm
 have HSG:Hid (SgA P w sgv l):=hsg
 have hk0:KP P w (w.alloc ez):=KP.of_below (alB w ez)
 have hr0:(w.alloc ez).heap[w.heap.size]? =some ez:=heap_alloc_new w ez
 have HC:Hid (∀ z',m p=some z'→Calls Tryz.prog F caps (w.alloc ez) (PoA P T (VE (w.heap.size+1)) (w.alloc ez) z')):=fun z' hz'=>by
  have:=hm.2 _ p z' hk0 (h.up (alB w ez)) hz'
  rwa [World.size_alloc]at this
 have HV:Hid (KP P w (w.alloc ez)∧(w.alloc ez).heap[w.heap.size]? =some ez):=⟨hk0,hr0⟩
 clear hm hk0 hr0 h hsg
 rcases bnd_some hz with⟨x,hx,rfl⟩|⟨x,q,hx,hq⟩
 ·have HC1:=HC.out _ hx
  clear HC
  go_enter Tryz.func108,Tryz.ntmps108
  go_wp2_with fail
  refine HC1.mono ?_
  rintro e w1 hpo
  obtain⟨rfl,hk⟩:=bad_panic hpo HV.out.1
  exact⟨rfl,rfl,hk⟩
 ·have HC1:=HC.out _ hx
  clear HC
  go_enter Tryz.func108,Tryz.ntmps108
  go_wp2_with fail
  refine HC1.mono ?_
  rintro e w1 ⟨v,rfl,⟨c,rfl,hx1⟩,hp1,hk1⟩
  have hr1:w1.heap[w.heap.size]? =some ez:=(hk1.blk _ (Array.getElem?_eq_some_iff.1 HV.out.2).1 (by omega)).trans HV.out.2
  have hs1:w.heap.size<w1.heap.size:=(Array.getElem?_eq_some_iff.1 hr1).1
  have hkw:=HV.out.1.trans hk1
  obtain⟨t1,r1,x1,g1⟩:=var5 hx1
  obtain⟨-,i1,o1,-,j1⟩:=fin5 hr1 rfl hx1
  have HF:Hid ((w1.alloc ez).there w1.heap.size 0 c.toArray.size∧(Tryz.prog.info? 38).map (·.size)=some c.toArray.size∧c.toArray.all (·.oneCell')=true):=⟨t1,i1,o1⟩
  have HJ:Hid (JoI P T w.heap.size w1.heap.size w m l z ((w1.alloc ez).setCells w1.heap.size 0 c)):=⟨x,q,_,c,hq,hp1.keep (g1 P (by omega)) (g1 T (by omega)),(hkw.trans (KP.of_below (alB w1 ez))).sets (by omega) c,EV.new hx1.len,x1.mono (fun g hg _=>⟨hg.1,by omega⟩),(g1 _ hs1).trans hr1⟩
  clear t1 r1 x1 g1 i1 o1 j1 hkw hr1 hk1 hp1 hx1 HC1 HV hq hx hz
  go_wp2_with (first
   |(refine wpList_store_mid rfl 38 (Operand.tmp 7) (Operand.tmp 9) rfl w1.heap.size 0 c.toArray rfl rfl HF.out.1 HF.out.2.1 HF.out.2.2 ?_)
   |fail)
  simp only[Act.put]
  go_loopw [] (fun wr=>Hid (JoI P T w.heap.size w1.heap.size w m l z wr)) (fun wr=>tkLen P wr)
  case atStart=>exact HJ
  case round=>
   obtain⟨e,p',f,c',hj,hps,hk,hev,hxe,hrr⟩:=hrel.out
   clear hrel HJ HF
   cases f with
   |zero=>cases hj
   |succ f=>
   have HS:=seesSign_any hps (HSG.out.keep hk)
   unfold jnL at hj
   cases hb:p'.sees l with
   |false=>
    rw[hb]at hj HS
    cases hj
    go_wp2_with fail
    refine HS.mono ?_
    rintro e2 w2 ⟨rfl,hb2⟩
    have hxe2:ExA w2 (fun g=>w.heap.size+1≤g∧g≠w1.heap.size) e c':=hxe.keep (fun g _ hg=>hb2.block g hg) (fun g hg _=>hg)
    have hev2:=hev.keep (hb2.block _ hev.lt)
    have hrr2:=(hb2.block _ (Array.getElem?_eq_some_iff.1 hrr).1).trans hrr
    obtain⟨t2,i2,o2,l2,j2⟩:=fin5 hrr2 rfl hxe2
    have HE:Hid (PoA P T (VE w.heap.size) w (.ok (e,p')) (.returned (.agg c'.toArray)) (w2.setCells w.heap.size 0 c')):=poE_fin2 (Nat.le_refl _) hxe2 (fun g hg=>⟨by omega,by omega⟩) (hps.up hb2) (hk.trans (KP.of_below hb2)) hPl hTl
    have HF:Hid (w2.rangeAt w1.heap.size 0 c'∧(Tryz.prog.info? 38).map (·.size)=some c'.length∧w2.there w.heap.size 0 c'.toArray.size∧(Tryz.prog.info? 38).map (·.size)=some c'.toArray.size∧c'.toArray.all (·.oneCell')=true∧(loadVar 38 ⟨w.heap.size,0,none⟩).run Tryz.prog (w2.setCells w.heap.size 0 c')= .ok (.agg c'.toArray) (w2.setCells w.heap.size 0 c')):=⟨hev2.2,j2,t2,i2,o2,l2⟩
    clear hxe2 hev2 hrr2 t2 i2 o2 l2 j2 hb2 HS hxe hev hrr hps hk
    go_wp2_with (first
     |(refine wpList_load_mid rfl 38 (Operand.tmp 7) rfl w1.heap.size 0 rfl c' _ HF.out.1 Tryz.underlying38 rfl HF.out.2.1 ?_)
     |(refine wpList_store_mid rfl 38 (Operand.tmp 6) (Operand.tmp 17) rfl w.heap.size 0 c'.toArray rfl rfl HF.out.2.2.1 HF.out.2.2.2.1 HF.out.2.2.2.2.1 ?_)
     |fail)
    refine bodyPost_ret (v:= .agg c'.toArray) (res_one Tryz.results108 _ _ rfl HF.out.2.2.2.2.2) rfl HE.out
   |true=>
    rw[hb]at hj HS
    replace hj:(bnd (m p'.adv) fun x q=>iff (less q p') (jnL m l f ⟨14,0,p'.nx.text,[e,x],[]⟩ q))=some z:=hj
    go_wp2_with fail
    refine HS.mono ?_
    rintro e2 w2 ⟨rfl,hb2⟩
    have hxe2:ExA w2 (fun g=>w.heap.size+1≤g∧g≠w1.heap.size) e c':=hxe.keep (fun g _ hg=>hb2.block g hg) (fun g hg _=>hg)
    have hev2:=hev.keep (hb2.block _ hev.lt)
    have hrr2:=(hb2.block _ (Array.getElem?_eq_some_iff.1 hrr).1).trans hrr
    have hk2:=hk.trans (KP.of_below (P:=P) hb2)
    have hps2:=hps.up hb2
    have htk:=hps.tk
    obtain⟨-,-,-,-,j2⟩:=fin5 hrr2 rfl hxe2
    rcases bnd_some hj with⟨y,hy,rfl⟩|⟨y,q2,hy,hq2⟩
    ·have HP:=pair_any hps2 (HM.out.keep hk2) hb hxe2 (fun g hg=>by omega) (z:= .error y) (by rw[hy];rfl)
     have HF:Hid (w2.rangeAt w1.heap.size 0 c'∧(Tryz.prog.info? 38).map (·.size)=some c'.length):=⟨hev2.2,j2⟩
     clear hxe2 hev2 hrr2 j2 hb2 HS hxe hev hrr hps hk hj hps2 hy
     go_wp2_with (first
      |(refine wpList_load_mid rfl 38 (Operand.tmp 7) rfl w1.heap.size 0 rfl c' _ HF.out.1 Tryz.underlying38 rfl HF.out.2 ?_)
      |fail)
     refine HP.mono ?_
     rintro e3 w3 hpo
     obtain⟨rfl,hk3⟩:=bad_panic hpo hk2
     exact⟨rfl,rfl,hk3⟩
    ·obtain⟨hle,hj2⟩:=iff_some hq2
     have hle2:q2.toks.length<p'.toks.length:=of_decide_eq_true hle
     have HP:=pair_any hps2 (HM.out.keep hk2) hb hxe2 (fun g hg=>by omega) (z:= .ok (_,q2)) (by rw[hy];rfl)
     have HF:Hid (w2.rangeAt w1.heap.size 0 c'∧(Tryz.prog.info? 38).map (·.size)=some c'.length):=⟨hev2.2,j2⟩
     have HH:Hid (EV w2 w1.heap.size c'∧w2.heap[w.heap.size]? =some ez∧w1.heap.size<w2.heap.size):=⟨hev2,hrr2,hev2.lt⟩
     clear hxe2 hev2 hrr2 j2 hb2 HS hxe hev hrr hps hk hj hps2 hy hq2 hle
     go_wp2_with (first
      |(refine wpList_load_mid rfl 38 (Operand.tmp 7) rfl w1.heap.size 0 rfl c' _ HF.out.1 Tryz.underlying38 rfl HF.out.2 ?_)
      |fail)
     refine HP.mono ?_
     rintro e3 w3 ⟨v3,rfl,⟨c3,rfl,hx3⟩,hp3,hk3⟩
     have hr3:=(hk3.blk _ (Array.getElem?_eq_some_iff.1 HH.out.2.1).1 (by omega)).trans HH.out.2.1
     have hl3:EV w3 w1.heap.size c':=HH.out.1.keep (hk3.blk _ HH.out.2.2 (by omega))
     obtain⟨-,i3,o3,-,j3⟩:=fin5 hr3 rfl hx3
     have HG:Hid (w3.there w1.heap.size 0 c3.toArray.size∧(Tryz.prog.info? 38).map (·.size)=some c3.toArray.size∧c3.toArray.all (·.oneCell')=true):=⟨hl3.there hx3.len,i3,o3⟩
     have hK3:KP P w (w3.setCells w1.heap.size 0 c3):=(hk2.trans hk3).sets (by omega) _
     have hP3:PsA P T (w3.setCells w1.heap.size 0 c3) q2:=hp3.sets (by omega) (by omega) _
     have HJ:Hid (JoI P T w.heap.size w1.heap.size w m l z (w3.setCells w1.heap.size 0 c3)):=⟨_,q2,f,c3,hj2,hP3,hK3,hl3.put hx3.len,hx3.keep (fun g hg _=>heap_sets _ c3 0 w3 g (by rcases hg with hg|hg;(· exact hg.2);(· have:=HH.out.2.2;omega))) (fun g hg _=>by rcases hg with hg|hg;(· exact hg);(· have:=HH.out.2.2;omega)),(heap_sets _ c3 0 w3 _ (by omega)).trans hr3⟩
     have htk3:=hP3.tk
     clear hr3 hl3 i3 o3 j3 hK3 hP3 hx3 hp3 hk3 HP HH HF
     go_wp2_with (first
      |(refine wpList_store_mid rfl 38 (Operand.tmp 7) (Operand.tmp 16) rfl w1.heap.size 0 c3.toArray rfl rfl HG.out.1 HG.out.2.1 HG.out.2.2 ?_)
      |fail)
     refine⟨⟨_,_,_,_,_,_,_,HJ,rfl⟩,?_⟩
     show tkLen P _<tkLen P _
     rw[htk3,htk]
     exact hle2
end Go.Proofs.YtcaeeackccgclaaGreatDoor
namespace Go.Proofs.YtcaeeackccgclaaGreatDoor
open Go.RowKit Go.Shelf
attribute [local go_sem ↓] fld0 fld1 fld2 fld3
def MethC (P T Y:Nat)(m:Ps→Px Ex):Prop:=∀ W p z,PsA P T W p→m p=some z→Calls Tryz.prog Y #[pt P] W (PoA P T (VE W.heap.size) W z)
def BoxA (P b:Nat)(w:World):Prop:=b≠P∧w.cell? ⟨b,0,none⟩=some (pt P)
theorem BoxA.keep {P b:Nat}{w w':World}(h:BoxA P b w)(hk:KP P w w'):BoxA P b w':=by
 have hl:b<w.heap.size:=World.block_lt_of_cell? w ⟨b,0,none⟩ h.2
 refine⟨h.1,?_⟩
 rw[←h.2]
 simp[World.cell?,hk.blk b hl h.1]
theorem KP.al (P:Nat)(w:World)(o:Obj):KP P w (w.alloc o):=KP.of_below (alB w o)
theorem BoxA.new {P:Nat}{w:World}(hP:P<w.heap.size):BoxA P w.heap.size (w.alloc (.cells #[pt P] 73)):=by
 refine⟨by omega,?_⟩
 rw[Lib.cell_of_heap (heap_alloc_new w _)]
 rfl
theorem mk_func (fn:Fn)(first cap:Array Value)(w:World):(Instr.makeFunc fn first cap).run Tryz.prog w= .ok (.func fn first cap) w:=rfl
attribute [local go_sem] mk_func
theorem exC_any {P T:Nat}{m:Ps→Px Ex}(hY:MethC P T 111 m){b:Nat}{w:World}(hb:BoxA P b w):PartC P T 110 #[pt b] w m:=by
 refine⟨enters_of Tryz.func110 (by kernel_rfl) rfl,fun W p z hk h hz=>?_⟩
 have hPl:=h.lt
 have hTl:=h.ltT
 have hW:=h.up (alB W ez)
 have hk0:=KP.al P W ez
 have cb:=((hb.keep hk).keep hk0).2
 have hr0:=heap_alloc_new W ez
 have HC:=hY (W.alloc ez) p z hW hz
 rw[World.size_alloc]at HC
 clear hb hk h hY hz
 go_enter Tryz.func110,Tryz.ntmps110
 go_wp2_with fail
 refine HC.mono ?_
 rintro e w1 hpo
 cases z with
 |error x=>
  obtain⟨rfl,hk1⟩:=bad_panic hpo hk0
  exact⟨rfl,rfl,hk1⟩
 |ok r=>
  obtain⟨x,q⟩:=r
  obtain⟨v,rfl,⟨c,rfl,hx1⟩,hp1,hk1⟩:=hpo
  have hr1:=(hk1.blk _ (Array.getElem?_eq_some_iff.1 hr0).1 (by omega)).trans hr0
  obtain⟨t2,i2,o2,l2,j2⟩:=fin5 hr1 rfl hx1
  have HE:Hid (PoA P T (VE W.heap.size) W (.ok (x,q)) (.returned (.agg c.toArray)) (w1.setCells (W.heap.size) 0 c)):=poE_fin (by omega) (by omega) hx1 hp1 (hk0.trans hk1) hPl hTl
  have HF:Hid (w1.there (W.heap.size) 0 c.toArray.size∧(Tryz.prog.info? 38).map (·.size)=some c.toArray.size∧c.toArray.all (·.oneCell')=true∧(loadVar 38 ⟨W.heap.size,0,none⟩).run Tryz.prog (w1.setCells (W.heap.size) 0 c)= .ok (.agg c.toArray) (w1.setCells (W.heap.size) 0 c)):=⟨t2,i2,o2,l2⟩
  clear t2 i2 o2 l2 j2 hx1 hp1 hk1 hr1 hk0 hr0 HC hW
  go_wp2_with (first
   |(refine wpList_store_mid rfl 38 (Operand.tmp 1) (Operand.tmp 3) rfl (W.heap.size) 0 c.toArray rfl rfl HF.out.1 HF.out.2.1 HF.out.2.2.1 ?_)
   |fail)
  refine bodyPost_ret (v:= .agg c.toArray) (res_one Tryz.results110 _ _ rfl HF.out.2.2.2) rfl HE.out
theorem ngC_any {P T:Nat}{m:Ps→Px Ex}(hY:MethC P T 111 m){b:Nat}{w:World}(hb:BoxA P b w):PartC P T 128 #[pt b] w m:=by
 refine⟨enters_of Tryz.func128 (by kernel_rfl) rfl,fun W p z hk h hz=>?_⟩
 have hPl:=h.lt
 have hTl:=h.ltT
 have hW:=h.up (alB W ez)
 have hk0:=KP.al P W ez
 have cb:=((hb.keep hk).keep hk0).2
 have hr0:=heap_alloc_new W ez
 have HC:=hY (W.alloc ez) p z hW hz
 rw[World.size_alloc]at HC
 clear hb hk h hY hz
 go_enter Tryz.func128,Tryz.ntmps128
 go_wp2_with fail
 refine HC.mono ?_
 rintro e w1 hpo
 cases z with
 |error x=>
  obtain⟨rfl,hk1⟩:=bad_panic hpo hk0
  exact⟨rfl,rfl,hk1⟩
 |ok r=>
  obtain⟨x,q⟩:=r
  obtain⟨v,rfl,⟨c,rfl,hx1⟩,hp1,hk1⟩:=hpo
  have hr1:=(hk1.blk _ (Array.getElem?_eq_some_iff.1 hr0).1 (by omega)).trans hr0
  obtain⟨t2,i2,o2,l2,j2⟩:=fin5 hr1 rfl hx1
  have HE:Hid (PoA P T (VE W.heap.size) W (.ok (x,q)) (.returned (.agg c.toArray)) (w1.setCells (W.heap.size) 0 c)):=poE_fin (by omega) (by omega) hx1 hp1 (hk0.trans hk1) hPl hTl
  have HF:Hid (w1.there (W.heap.size) 0 c.toArray.size∧(Tryz.prog.info? 38).map (·.size)=some c.toArray.size∧c.toArray.all (·.oneCell')=true∧(loadVar 38 ⟨W.heap.size,0,none⟩).run Tryz.prog (w1.setCells (W.heap.size) 0 c)= .ok (.agg c.toArray) (w1.setCells (W.heap.size) 0 c)):=⟨t2,i2,o2,l2⟩
  clear t2 i2 o2 l2 j2 hx1 hp1 hk1 hr1 hk0 hr0 HC hW
  go_wp2_with (first
   |(refine wpList_store_mid rfl 38 (Operand.tmp 1) (Operand.tmp 3) rfl (W.heap.size) 0 c.toArray rfl rfl HF.out.1 HF.out.2.1 HF.out.2.2.1 ?_)
   |fail)
  refine bodyPost_ret (v:= .agg c.toArray) (res_one Tryz.results128 _ _ rfl HF.out.2.2.2) rfl HE.out
theorem cmC_any {P T:Nat}{m:Ps→Px Ex}(hY:MethC P T 139 m){b:Nat}{w:World}(hb:BoxA P b w):PartC P T 140 #[pt b] w m:=by
 refine⟨enters_of Tryz.func140 (by kernel_rfl) rfl,fun W p z hk h hz=>?_⟩
 have hPl:=h.lt
 have hTl:=h.ltT
 have hW:=h.up (alB W ez)
 have hk0:=KP.al P W ez
 have cb:=((hb.keep hk).keep hk0).2
 have hr0:=heap_alloc_new W ez
 have HC:=hY (W.alloc ez) p z hW hz
 rw[World.size_alloc]at HC
 clear hb hk h hY hz
 go_enter Tryz.func140,Tryz.ntmps140
 go_wp2_with fail
 refine HC.mono ?_
 rintro e w1 hpo
 cases z with
 |error x=>
  obtain⟨rfl,hk1⟩:=bad_panic hpo hk0
  exact⟨rfl,rfl,hk1⟩
 |ok r=>
  obtain⟨x,q⟩:=r
  obtain⟨v,rfl,⟨c,rfl,hx1⟩,hp1,hk1⟩:=hpo
  have hr1:=(hk1.blk _ (Array.getElem?_eq_some_iff.1 hr0).1 (by omega)).trans hr0
  obtain⟨t2,i2,o2,l2,j2⟩:=fin5 hr1 rfl hx1
  have HE:Hid (PoA P T (VE W.heap.size) W (.ok (x,q)) (.returned (.agg c.toArray)) (w1.setCells (W.heap.size) 0 c)):=poE_fin (by omega) (by omega) hx1 hp1 (hk0.trans hk1) hPl hTl
  have HF:Hid (w1.there (W.heap.size) 0 c.toArray.size∧(Tryz.prog.info? 38).map (·.size)=some c.toArray.size∧c.toArray.all (·.oneCell')=true∧(loadVar 38 ⟨W.heap.size,0,none⟩).run Tryz.prog (w1.setCells (W.heap.size) 0 c)= .ok (.agg c.toArray) (w1.setCells (W.heap.size) 0 c)):=⟨t2,i2,o2,l2⟩
  clear t2 i2 o2 l2 j2 hx1 hp1 hk1 hr1 hk0 hr0 HC hW
  go_wp2_with (first
   |(refine wpList_store_mid rfl 38 (Operand.tmp 1) (Operand.tmp 3) rfl (W.heap.size) 0 c.toArray rfl rfl HF.out.1 HF.out.2.1 HF.out.2.2.1 ?_)
   |fail)
  refine bodyPost_ret (v:= .agg c.toArray) (res_one Tryz.results140 _ _ rfl HF.out.2.2.2) rfl HE.out
theorem smC_any {P T:Nat}{m:Ps→Px Ex}(hY:MethC P T 151 m){b:Nat}{w:World}(hb:BoxA P b w):PartC P T 150 #[pt b] w m:=by
 refine⟨enters_of Tryz.func150 (by kernel_rfl) rfl,fun W p z hk h hz=>?_⟩
 have hPl:=h.lt
 have hTl:=h.ltT
 have hW:=h.up (alB W ez)
 have hk0:=KP.al P W ez
 have cb:=((hb.keep hk).keep hk0).2
 have hr0:=heap_alloc_new W ez
 have HC:=hY (W.alloc ez) p z hW hz
 rw[World.size_alloc]at HC
 clear hb hk h hY hz
 go_enter Tryz.func150,Tryz.ntmps150
 go_wp2_with fail
 refine HC.mono ?_
 rintro e w1 hpo
 cases z with
 |error x=>
  obtain⟨rfl,hk1⟩:=bad_panic hpo hk0
  exact⟨rfl,rfl,hk1⟩
 |ok r=>
  obtain⟨x,q⟩:=r
  obtain⟨v,rfl,⟨c,rfl,hx1⟩,hp1,hk1⟩:=hpo
  have hr1:=(hk1.blk _ (Array.getElem?_eq_some_iff.1 hr0).1 (by omega)).trans hr0
  obtain⟨t2,i2,o2,l2,j2⟩:=fin5 hr1 rfl hx1
  have HE:Hid (PoA P T (VE W.heap.size) W (.ok (x,q)) (.returned (.agg c.toArray)) (w1.setCells (W.heap.size) 0 c)):=poE_fin (by omega) (by omega) hx1 hp1 (hk0.trans hk1) hPl hTl
  have HF:Hid (w1.there (W.heap.size) 0 c.toArray.size∧(Tryz.prog.info? 38).map (·.size)=some c.toArray.size∧c.toArray.all (·.oneCell')=true∧(loadVar 38 ⟨W.heap.size,0,none⟩).run Tryz.prog (w1.setCells (W.heap.size) 0 c)= .ok (.agg c.toArray) (w1.setCells (W.heap.size) 0 c)):=⟨t2,i2,o2,l2⟩
  clear t2 i2 o2 l2 j2 hx1 hp1 hk1 hr1 hk0 hr0 HC hW
  go_wp2_with (first
   |(refine wpList_store_mid rfl 38 (Operand.tmp 1) (Operand.tmp 3) rfl (W.heap.size) 0 c.toArray rfl rfl HF.out.1 HF.out.2.1 HF.out.2.2.1 ?_)
   |fail)
  refine bodyPost_ret (v:= .agg c.toArray) (res_one Tryz.results150 _ _ rfl HF.out.2.2.2) rfl HE.out
theorem unC_any {P T:Nat}{m:Ps→Px Ex}(hY:MethC P T 151 m){b:Nat}{w:World}(hb:BoxA P b w):PartC P T 157 #[pt b] w m:=by
 refine⟨enters_of Tryz.func157 (by kernel_rfl) rfl,fun W p z hk h hz=>?_⟩
 have hPl:=h.lt
 have hTl:=h.ltT
 have hW:=h.up (alB W ez)
 have hk0:=KP.al P W ez
 have cb:=((hb.keep hk).keep hk0).2
 have hr0:=heap_alloc_new W ez
 have HC:=hY (W.alloc ez) p z hW hz
 rw[World.size_alloc]at HC
 clear hb hk h hY hz
 go_enter Tryz.func157,Tryz.ntmps157
 go_wp2_with fail
 refine HC.mono ?_
 rintro e w1 hpo
 cases z with
 |error x=>
  obtain⟨rfl,hk1⟩:=bad_panic hpo hk0
  exact⟨rfl,rfl,hk1⟩
 |ok r=>
  obtain⟨x,q⟩:=r
  obtain⟨v,rfl,⟨c,rfl,hx1⟩,hp1,hk1⟩:=hpo
  have hr1:=(hk1.blk _ (Array.getElem?_eq_some_iff.1 hr0).1 (by omega)).trans hr0
  obtain⟨t2,i2,o2,l2,j2⟩:=fin5 hr1 rfl hx1
  have HE:Hid (PoA P T (VE W.heap.size) W (.ok (x,q)) (.returned (.agg c.toArray)) (w1.setCells (W.heap.size) 0 c)):=poE_fin (by omega) (by omega) hx1 hp1 (hk0.trans hk1) hPl hTl
  have HF:Hid (w1.there (W.heap.size) 0 c.toArray.size∧(Tryz.prog.info? 38).map (·.size)=some c.toArray.size∧c.toArray.all (·.oneCell')=true∧(loadVar 38 ⟨W.heap.size,0,none⟩).run Tryz.prog (w1.setCells (W.heap.size) 0 c)= .ok (.agg c.toArray) (w1.setCells (W.heap.size) 0 c)):=⟨t2,i2,o2,l2⟩
  clear t2 i2 o2 l2 j2 hx1 hp1 hk1 hr1 hk0 hr0 HC hW
  go_wp2_with (first
   |(refine wpList_store_mid rfl 38 (Operand.tmp 1) (Operand.tmp 3) rfl (W.heap.size) 0 c.toArray rfl rfl HF.out.1 HF.out.2.1 HF.out.2.2.1 ?_)
   |fail)
  refine bodyPost_ret (v:= .agg c.toArray) (res_one Tryz.results157 _ _ rfl HF.out.2.2.2) rfl HE.out
theorem exB_any {P T:Nat}{m:Ps→Px Ex}{b:Nat}{w:World}(hb:BoxA P b w)(hm:∀ w',BoxA P b w'→PartC P T 110 #[pt b] w' m):PartC P T 109 #[pt b] w (jn m [[97,110,100]]):=by
 refine⟨enters_of Tryz.func109 (by kernel_rfl) rfl,fun W p z hk h hz=>?_⟩
 have hPl:=h.lt
 have hTl:=h.ltT
 have s1:(W.alloc ez).heap.size=W.heap.size+1:=World.size_alloc _ _
 have hW:=(h.up (alB W ez)).up (alB (W.alloc ez) (.cells #[.string ⟨#[97,110,100]⟩] 9))
 have s2:((W.alloc ez).alloc (.cells #[.string ⟨#[97,110,100]⟩] 9)).heap.size=W.heap.size+1+1:=by rw[World.size_alloc,s1]
 have hk0:=(KP.al P W ez).trans (KP.al P (W.alloc ez) (.cells #[.string ⟨#[97,110,100]⟩] 9))
 have cb:=((hb.keep hk).keep (KP.al P W ez)).2
 have hr0:((W.alloc ez).alloc (.cells #[.string ⟨#[97,110,100]⟩] 9)).heap[W.heap.size]? =some ez:=(heap_al _ _ _ (by omega)).trans (heap_alloc_new W ez)
 have HC:=joined_any hW (hm _ ((hb.keep hk).keep hk0)) (SgA.new P (W.alloc ez) [[97,110,100]] (by simp) (by omega)) hz
 rw[s2,s1]at HC
 clear hb hk h hm hz s1 s2
 go_enter Tryz.func109,Tryz.ntmps109
 go_wp2_with fail
 refine HC.mono ?_
 rintro e w1 hpo
 cases z with
 |error x=>
  obtain⟨rfl,hk1⟩:=bad_panic hpo hk0
  exact⟨rfl,rfl,hk1⟩
 |ok r=>
  obtain⟨x,q⟩:=r
  obtain⟨v,rfl,⟨c,rfl,hx1⟩,hp1,hk1⟩:=hpo
  have hr1:=(hk1.blk _ (Array.getElem?_eq_some_iff.1 hr0).1 (by omega)).trans hr0
  obtain⟨t2,i2,o2,l2,j2⟩:=fin5 hr1 rfl hx1
  have HE:Hid (PoA P T (VE W.heap.size) W (.ok (x,q)) (.returned (.agg c.toArray)) (w1.setCells (W.heap.size) 0 c)):=poE_fin (by omega) (by omega) hx1 hp1 (hk0.trans hk1) hPl hTl
  have HF:Hid (w1.there (W.heap.size) 0 c.toArray.size∧(Tryz.prog.info? 38).map (·.size)=some c.toArray.size∧c.toArray.all (·.oneCell')=true∧(loadVar 38 ⟨W.heap.size,0,none⟩).run Tryz.prog (w1.setCells (W.heap.size) 0 c)= .ok (.agg c.toArray) (w1.setCells (W.heap.size) 0 c)):=⟨t2,i2,o2,l2⟩
  clear t2 i2 o2 l2 j2 hx1 hp1 hk1 hr1 hk0 hr0 HC hW
  go_wp2_with (first
   |(refine wpList_store_mid rfl 38 (Operand.tmp 1) (Operand.tmp 5) rfl (W.heap.size) 0 c.toArray rfl rfl HF.out.1 HF.out.2.1 HF.out.2.2.1 ?_)
   |fail)
  refine bodyPost_ret (v:= .agg c.toArray) (res_one Tryz.results109 _ _ rfl HF.out.2.2.2) rfl HE.out
theorem exA_any {P T:Nat}{m:Ps→Px Ex}{b:Nat}{w:World}(hb:BoxA P b w)(hm:∀ w',BoxA P b w'→PartC P T 109 #[pt b] w' m):PartC P T 107 #[pt b] w (jn m [[111,114]]):=by
 refine⟨enters_of Tryz.func107 (by kernel_rfl) rfl,fun W p z hk h hz=>?_⟩
 have hPl:=h.lt
 have hTl:=h.ltT
 have s1:(W.alloc ez).heap.size=W.heap.size+1:=World.size_alloc _ _
 have hW:=(h.up (alB W ez)).up (alB (W.alloc ez) (.cells #[.string ⟨#[111,114]⟩] 9))
 have s2:((W.alloc ez).alloc (.cells #[.string ⟨#[111,114]⟩] 9)).heap.size=W.heap.size+1+1:=by rw[World.size_alloc,s1]
 have hk0:=(KP.al P W ez).trans (KP.al P (W.alloc ez) (.cells #[.string ⟨#[111,114]⟩] 9))
 have cb:=((hb.keep hk).keep (KP.al P W ez)).2
 have hr0:((W.alloc ez).alloc (.cells #[.string ⟨#[111,114]⟩] 9)).heap[W.heap.size]? =some ez:=(heap_al _ _ _ (by omega)).trans (heap_alloc_new W ez)
 have HC:=joined_any hW (hm _ ((hb.keep hk).keep hk0)) (SgA.new P (W.alloc ez) [[111,114]] (by simp) (by omega)) hz
 rw[s2,s1]at HC
 clear hb hk h hm hz s1 s2
 go_enter Tryz.func107,Tryz.ntmps107
 go_wp2_with fail
 refine HC.mono ?_
 rintro e w1 hpo
 cases z with
 |error x=>
  obtain⟨rfl,hk1⟩:=bad_panic hpo hk0
  exact⟨rfl,rfl,hk1⟩
 |ok r=>
  obtain⟨x,q⟩:=r
  obtain⟨v,rfl,⟨c,rfl,hx1⟩,hp1,hk1⟩:=hpo
  have hr1:=(hk1.blk _ (Array.getElem?_eq_some_iff.1 hr0).1 (by omega)).trans hr0
  obtain⟨t2,i2,o2,l2,j2⟩:=fin5 hr1 rfl hx1
  have HE:Hid (PoA P T (VE W.heap.size) W (.ok (x,q)) (.returned (.agg c.toArray)) (w1.setCells (W.heap.size) 0 c)):=poE_fin (by omega) (by omega) hx1 hp1 (hk0.trans hk1) hPl hTl
  have HF:Hid (w1.there (W.heap.size) 0 c.toArray.size∧(Tryz.prog.info? 38).map (·.size)=some c.toArray.size∧c.toArray.all (·.oneCell')=true∧(loadVar 38 ⟨W.heap.size,0,none⟩).run Tryz.prog (w1.setCells (W.heap.size) 0 c)= .ok (.agg c.toArray) (w1.setCells (W.heap.size) 0 c)):=⟨t2,i2,o2,l2⟩
  clear t2 i2 o2 l2 j2 hx1 hp1 hk1 hr1 hk0 hr0 HC hW
  go_wp2_with (first
   |(refine wpList_store_mid rfl 38 (Operand.tmp 1) (Operand.tmp 5) rfl (W.heap.size) 0 c.toArray rfl rfl HF.out.1 HF.out.2.1 HF.out.2.2.1 ?_)
   |fail)
  refine bodyPost_ret (v:= .agg c.toArray) (res_one Tryz.results107 _ _ rfl HF.out.2.2.2) rfl HE.out
theorem smB_any {P T:Nat}{m:Ps→Px Ex}{b:Nat}{w:World}(hb:BoxA P b w)(hm:∀ w',BoxA P b w'→PartC P T 150 #[pt b] w' m):PartC P T 149 #[pt b] w (jn m [[42],[47,47],[37]]):=by
 refine⟨enters_of Tryz.func149 (by kernel_rfl) rfl,fun W p z hk h hz=>?_⟩
 have hPl:=h.lt
 have hTl:=h.ltT
 have s1:(W.alloc ez).heap.size=W.heap.size+1:=World.size_alloc _ _
 have hW:=(h.up (alB W ez)).up (alB (W.alloc ez) (.cells #[.string ⟨#[42]⟩,.string ⟨#[47,47]⟩,.string ⟨#[37]⟩] 9))
 have s2:((W.alloc ez).alloc (.cells #[.string ⟨#[42]⟩,.string ⟨#[47,47]⟩,.string ⟨#[37]⟩] 9)).heap.size=W.heap.size+1+1:=by rw[World.size_alloc,s1]
 have hk0:=(KP.al P W ez).trans (KP.al P (W.alloc ez) (.cells #[.string ⟨#[42]⟩,.string ⟨#[47,47]⟩,.string ⟨#[37]⟩] 9))
 have cb:=((hb.keep hk).keep (KP.al P W ez)).2
 have hr0:((W.alloc ez).alloc (.cells #[.string ⟨#[42]⟩,.string ⟨#[47,47]⟩,.string ⟨#[37]⟩] 9)).heap[W.heap.size]? =some ez:=(heap_al _ _ _ (by omega)).trans (heap_alloc_new W ez)
 have HC:=joined_any hW (hm _ ((hb.keep hk).keep hk0)) (SgA.new P (W.alloc ez) [[42],[47,47],[37]] (by simp) (by omega)) hz
 rw[s2,s1]at HC
 clear hb hk h hm hz s1 s2
 go_enter Tryz.func149,Tryz.ntmps149
 go_wp2_with fail
 refine HC.mono ?_
 rintro e w1 hpo
 cases z with
 |error x=>
  obtain⟨rfl,hk1⟩:=bad_panic hpo hk0
  exact⟨rfl,rfl,hk1⟩
 |ok r=>
  obtain⟨x,q⟩:=r
  obtain⟨v,rfl,⟨c,rfl,hx1⟩,hp1,hk1⟩:=hpo
  have hr1:=(hk1.blk _ (Array.getElem?_eq_some_iff.1 hr0).1 (by omega)).trans hr0
  obtain⟨t2,i2,o2,l2,j2⟩:=fin5 hr1 rfl hx1
  have HE:Hid (PoA P T (VE W.heap.size) W (.ok (x,q)) (.returned (.agg c.toArray)) (w1.setCells (W.heap.size) 0 c)):=poE_fin (by omega) (by omega) hx1 hp1 (hk0.trans hk1) hPl hTl
  have HF:Hid (w1.there (W.heap.size) 0 c.toArray.size∧(Tryz.prog.info? 38).map (·.size)=some c.toArray.size∧c.toArray.all (·.oneCell')=true∧(loadVar 38 ⟨W.heap.size,0,none⟩).run Tryz.prog (w1.setCells (W.heap.size) 0 c)= .ok (.agg c.toArray) (w1.setCells (W.heap.size) 0 c)):=⟨t2,i2,o2,l2⟩
  clear t2 i2 o2 l2 j2 hx1 hp1 hk1 hr1 hk0 hr0 HC hW
  go_wp2_with (first
   |(refine wpList_store_mid rfl 38 (Operand.tmp 1) (Operand.tmp 5) rfl (W.heap.size) 0 c.toArray rfl rfl HF.out.1 HF.out.2.1 HF.out.2.2.1 ?_)
   |fail)
  refine bodyPost_ret (v:= .agg c.toArray) (res_one Tryz.results149 _ _ rfl HF.out.2.2.2) rfl HE.out
theorem sum_any {P T:Nat}{m:Ps→Px Ex}(hm:∀ b w',BoxA P b w'→PartC P T 149 #[pt b] w' m):MethC P T 139 (jn m [[43],[45]]):=by
 intro W p z h hz
 have hPl:=h.lt
 have hTl:=h.ltT
 have s0:(W.alloc (.cells #[pt P] 73)).heap.size=W.heap.size+1:=World.size_alloc _ _
 have s1:((W.alloc (.cells #[pt P] 73)).alloc ez).heap.size=W.heap.size+1+1:=by rw[World.size_alloc,s0]
 have hW:=((h.up (alB W (.cells #[pt P] 73))).up (alB _ ez)).up (alB ((W.alloc (.cells #[pt P] 73)).alloc ez) (.cells #[.string ⟨#[43]⟩,.string ⟨#[45]⟩] 9))
 have hk0:=((KP.al P W (.cells #[pt P] 73)).trans (KP.al P _ ez)).trans (KP.al P ((W.alloc (.cells #[pt P] 73)).alloc ez) (.cells #[.string ⟨#[43]⟩,.string ⟨#[45]⟩] 9))
 have s2:(((W.alloc (.cells #[pt P] 73)).alloc ez).alloc (.cells #[.string ⟨#[43]⟩,.string ⟨#[45]⟩] 9)).heap.size=W.heap.size+1+1+1:=by rw[World.size_alloc,s1]
 have hb:=(BoxA.new hPl).keep ((KP.al P _ ez).trans (KP.al P ((W.alloc (.cells #[pt P] 73)).alloc ez) (.cells #[.string ⟨#[43]⟩,.string ⟨#[45]⟩] 9)))
 have hr0:(((W.alloc (.cells #[pt P] 73)).alloc ez).alloc (.cells #[.string ⟨#[43]⟩,.string ⟨#[45]⟩] 9)).heap[W.heap.size+1]? =some ez:=by
  have:=heap_alloc_new (W.alloc (.cells #[pt P] 73)) ez
  rw[s0]at this
  exact(heap_al _ _ _ (by omega)).trans this
 have HC:=joined_any hW (hm _ _ hb) (SgA.new P ((W.alloc (.cells #[pt P] 73)).alloc ez) [[43],[45]] (by simp) (by omega)) hz
 rw[s2,s1]at HC
 clear hb h hm hz s1 s0 s2
 go_enter Tryz.func139,Tryz.ntmps139
 go_wp2_with fail
 refine HC.mono ?_
 rintro e w1 hpo
 cases z with
 |error x=>
  obtain⟨rfl,hk1⟩:=bad_panic hpo hk0
  exact⟨rfl,rfl,hk1⟩
 |ok r=>
  obtain⟨x,q⟩:=r
  obtain⟨v,rfl,⟨c,rfl,hx1⟩,hp1,hk1⟩:=hpo
  have hr1:=(hk1.blk _ (Array.getElem?_eq_some_iff.1 hr0).1 (by omega)).trans hr0
  obtain⟨t2,i2,o2,l2,j2⟩:=fin5 hr1 rfl hx1
  have HE:Hid (PoA P T (VE W.heap.size) W (.ok (x,q)) (.returned (.agg c.toArray)) (w1.setCells (W.heap.size+1) 0 c)):=poE_fin (by omega) (by omega) hx1 hp1 (hk0.trans hk1) hPl hTl
  have HF:Hid (w1.there (W.heap.size+1) 0 c.toArray.size∧(Tryz.prog.info? 38).map (·.size)=some c.toArray.size∧c.toArray.all (·.oneCell')=true∧(loadVar 38 ⟨W.heap.size+1,0,none⟩).run Tryz.prog (w1.setCells (W.heap.size+1) 0 c)= .ok (.agg c.toArray) (w1.setCells (W.heap.size+1) 0 c)):=⟨t2,i2,o2,l2⟩
  clear t2 i2 o2 l2 j2 hx1 hp1 hk1 hr1 hk0 hr0 HC hW
  go_wp2_with (first
   |(refine wpList_store_mid rfl 38 (Operand.tmp 2) (Operand.tmp 6) rfl (W.heap.size+1) 0 c.toArray rfl rfl HF.out.1 HF.out.2.1 HF.out.2.2.1 ?_)
   |fail)
  refine bodyPost_ret (v:= .agg c.toArray) (res_one Tryz.results139 _ _ rfl HF.out.2.2.2) rfl HE.out
end Go.Proofs.YtcaeeackccgclaaGreatDoor
