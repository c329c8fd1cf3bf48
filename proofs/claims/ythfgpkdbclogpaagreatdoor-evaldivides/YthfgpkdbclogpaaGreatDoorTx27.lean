/- 27. -/
import Derived.Test.YthfgpkdbclogpaaGreatDoorTx26
set_option maxHeartbeats 40000000
set_option maxRecDepth 100000
namespace Go.Proofs.YthfgpkdbclogpaaGreatDoor
open Go.RowKit Go.Shelf
attribute [local go_sem ↓] fld0 fld1 fld2 fld3
def CallC (P T Y:Nat)(m:Ex→Ps→Px Ex):Prop:=∀ (W:World) (S:Nat→Prop) (e:Ex) (c:List Value) (p:Ps) (z:Except Ft (Ex×Ps)),PsA P T W p→ExA W S e c→(∀ g,S g→g≠P)→m e p=some z→Calls Tryz.prog Y #[pt P,.agg c.toArray] W (PoA P T (fun w' x v=>∃ c',v= .agg c'.toArray∧ExA w' (fun g=>S g∨W.heap.size≤g) x c') W z)
def PoI (P T n L:Nat)(w:World)(E:Ps→Px Ex)(z:Except Ft (Ex×Ps))(wr:World):Prop:=∃ e p f c,psL E f e p=some z∧PsA P T wr p∧KP P w wr∧EV wr L c∧ExA wr (fun g=>n+1≤g∧g≠L) e c∧wr.heap[n]? =some ez
theorem EV.five {w:World}{L:Nat}{v0 v1 v2 v3 v4:Value}(h:EV w L [v0,v1,v2,v3,v4]):w.cell? ⟨L,0,none⟩=some v0∧w.cell? ⟨L,1,none⟩=some v1∧w.cell? ⟨L,2,none⟩=some v2∧w.cell? ⟨L,3,none⟩=some v3∧w.cell? ⟨L,4,none⟩=some v4:=⟨h.2 0 v0 rfl,h.2 1 v1 rfl,h.2 2 v2 rfl,h.2 3 v3 rfl,h.2 4 v4 rfl⟩
theorem EV.fz {w:World}{L:Nat}{c:List Value}(h:EV w L c)(i:Nat):w.frozen? ⟨L,i,none⟩=false:=by
 obtain⟨⟨c0,h1,_⟩,_⟩:=h
 exact Lib.frozen_of_heap h1 i
theorem idx_facts {P T n m:Nat}{W w4:World}{L:Nat}{e y:Ex}{a1 a2 b1 b2:Option Addr}{c1 c2 d1 d2:Nat}{q:Ps}(hPl:P<W.heap.size)(hTl:T<W.heap.size)(hs1:W.heap.size<L)(hev:EV w4 L [.int .i64 e.kind,.int .i64 e.num,.string (mkB e.text),.slice a1 e.kids.length c1,.slice a2 e.names.length c2])(hr:w4.heap[W.heap.size]? =some ez)
  (hx:ExA w4 (fun g=>n+1≤g∧g≠L) e [.int .i64 e.kind,.int .i64 e.num,.string (mkB e.text),.slice a1 e.kids.length c1,.slice a2 e.names.length c2]) (hy:ExA w4 (fun g=>m≤g) y [.int .i64 y.kind,.int .i64 y.num,.string (mkB y.text),.slice b1 y.kids.length d1,.slice b2 y.names.length d2]) (hm:L<m) (hp:PsA P T w4 q) (hk:KP P W w4) (hn:n=W.heap.size):
  PsA P T ((w4.alloc (.cells #[.int .i64 e.kind,.int .i64 e.num,.string (mkB e.text),.slice a1 e.kids.length c1,.slice a2 e.names.length c2,.int .i64 y.kind,.int .i64 y.num,.string (mkB y.text),.slice b1 y.kids.length d1,.slice b2 y.names.length d2] 162)).setCells L 0 [.int .i64 11,.int .i64 0,.string ⟨#[]⟩,.slice (some ⟨w4.heap.size,0,none⟩) 2 2,.slice none 0 0]) q∧((w4.alloc (.cells #[.int .i64 e.kind,.int .i64 e.num,.string (mkB e.text),.slice a1 e.kids.length c1,.slice a2 e.names.length c2,.int .i64 y.kind,.int .i64 y.num,.string (mkB y.text),.slice b1 y.kids.length d1,.slice b2 y.names.length d2] 162)).setCells L 0 [.int .i64 11,.int .i64 0,.string ⟨#[]⟩,.slice (some ⟨w4.heap.size,0,none⟩) 2 2,.slice none 0 0]).heap[W.heap.size]? =some ez∧EV ((w4.alloc (.cells #[.int .i64 e.kind,.int .i64 e.num,.string (mkB e.text),.slice a1 e.kids.length c1,.slice a2 e.names.length c2,.int .i64 y.kind,.int .i64 y.num,.string (mkB y.text),.slice b1 y.kids.length d1,.slice b2 y.names.length d2] 162)).setCells L 0 [.int .i64 11,.int .i64 0,.string ⟨#[]⟩,.slice (some ⟨w4.heap.size,0,none⟩) 2 2,.slice none 0 0]) L [.int .i64 11,.int .i64 0,.string ⟨#[]⟩,.slice (some ⟨w4.heap.size,0,none⟩) 2 2,.slice none 0 0]∧KP P W ((w4.alloc (.cells #[.int .i64 e.kind,.int .i64 e.num,.string (mkB e.text),.slice a1 e.kids.length c1,.slice a2 e.names.length c2,.int .i64 y.kind,.int .i64 y.num,.string (mkB y.text),.slice b1 y.kids.length d1,.slice b2 y.names.length d2] 162)).setCells L 0 [.int .i64 11,.int .i64 0,.string ⟨#[]⟩,.slice (some ⟨w4.heap.size,0,none⟩) 2 2,.slice none 0 0])∧ExA ((w4.alloc (.cells #[.int .i64 e.kind,.int .i64 e.num,.string (mkB e.text),.slice a1 e.kids.length c1,.slice a2 e.names.length c2,.int .i64 y.kind,.int .i64 y.num,.string (mkB y.text),.slice b1 y.kids.length d1,.slice b2 y.names.length d2] 162)).setCells L 0 [.int .i64 11,.int .i64 0,.string ⟨#[]⟩,.slice (some ⟨w4.heap.size,0,none⟩) 2 2,.slice none 0 0]) (fun g=>n+1≤g∧g≠L) ⟨11,0,[],[e,y],[]⟩ [.int .i64 11,.int .i64 0,.string ⟨#[]⟩,.slice (some ⟨w4.heap.size,0,none⟩) 2 2,.slice none 0 0]∧L<((w4.alloc (.cells #[.int .i64 e.kind,.int .i64 e.num,.string (mkB e.text),.slice a1 e.kids.length c1,.slice a2 e.names.length c2,.int .i64 y.kind,.int .i64 y.num,.string (mkB y.text),.slice b1 y.kids.length d1,.slice b2 y.names.length d2] 162)).setCells L 0 [.int .i64 11,.int .i64 0,.string ⟨#[]⟩,.slice (some ⟨w4.heap.size,0,none⟩) 2 2,.slice none 0 0]).heap.size∧
  (w4.alloc (.cells #[.int .i64 e.kind,.int .i64 e.num,.string (mkB e.text),.slice a1 e.kids.length c1,.slice a2 e.names.length c2,.int .i64 y.kind,.int .i64 y.num,.string (mkB y.text),.slice b1 y.kids.length d1,.slice b2 y.names.length d2] 162)).cell? ⟨L,0,none⟩=some (.int .i64 e.kind)∧(w4.alloc (.cells #[.int .i64 e.kind,.int .i64 e.num,.string (mkB e.text),.slice a1 e.kids.length c1,.slice a2 e.names.length c2,.int .i64 y.kind,.int .i64 y.num,.string (mkB y.text),.slice b1 y.kids.length d1,.slice b2 y.names.length d2] 162)).cell? ⟨L,1,none⟩=some (.int .i64 e.num)∧(w4.alloc (.cells #[.int .i64 e.kind,.int .i64 e.num,.string (mkB e.text),.slice a1 e.kids.length c1,.slice a2 e.names.length c2,.int .i64 y.kind,.int .i64 y.num,.string (mkB y.text),.slice b1 y.kids.length d1,.slice b2 y.names.length d2] 162)).cell? ⟨L,2,none⟩=some (.string (mkB e.text))∧(w4.alloc (.cells #[.int .i64 e.kind,.int .i64 e.num,.string (mkB e.text),.slice a1 e.kids.length c1,.slice a2 e.names.length c2,.int .i64 y.kind,.int .i64 y.num,.string (mkB y.text),.slice b1 y.kids.length d1,.slice b2 y.names.length d2] 162)).cell? ⟨L,3,none⟩=some (.slice a1 e.kids.length c1)∧(w4.alloc (.cells #[.int .i64 e.kind,.int .i64 e.num,.string (mkB e.text),.slice a1 e.kids.length c1,.slice a2 e.names.length c2,.int .i64 y.kind,.int .i64 y.num,.string (mkB y.text),.slice b1 y.kids.length d1,.slice b2 y.names.length d2] 162)).cell? ⟨L,4,none⟩=some (.slice a2 e.names.length c2)∧
  (w4.alloc (.cells #[.int .i64 e.kind,.int .i64 e.num,.string (mkB e.text),.slice a1 e.kids.length c1,.slice a2 e.names.length c2,.int .i64 y.kind,.int .i64 y.num,.string (mkB y.text),.slice b1 y.kids.length d1,.slice b2 y.names.length d2] 162)).frozen? ⟨L,0,none⟩=false∧(w4.alloc (.cells #[.int .i64 e.kind,.int .i64 e.num,.string (mkB e.text),.slice a1 e.kids.length c1,.slice a2 e.names.length c2,.int .i64 y.kind,.int .i64 y.num,.string (mkB y.text),.slice b1 y.kids.length d1,.slice b2 y.names.length d2] 162)).frozen? ⟨L,1,none⟩=false∧(w4.alloc (.cells #[.int .i64 e.kind,.int .i64 e.num,.string (mkB e.text),.slice a1 e.kids.length c1,.slice a2 e.names.length c2,.int .i64 y.kind,.int .i64 y.num,.string (mkB y.text),.slice b1 y.kids.length d1,.slice b2 y.names.length d2] 162)).frozen? ⟨L,2,none⟩=false∧(w4.alloc (.cells #[.int .i64 e.kind,.int .i64 e.num,.string (mkB e.text),.slice a1 e.kids.length c1,.slice a2 e.names.length c2,.int .i64 y.kind,.int .i64 y.num,.string (mkB y.text),.slice b1 y.kids.length d1,.slice b2 y.names.length d2] 162)).frozen? ⟨L,3,none⟩=false∧(w4.alloc (.cells #[.int .i64 e.kind,.int .i64 e.num,.string (mkB e.text),.slice a1 e.kids.length c1,.slice a2 e.names.length c2,.int .i64 y.kind,.int .i64 y.num,.string (mkB y.text),.slice b1 y.kids.length d1,.slice b2 y.names.length d2] 162)).frozen? ⟨L,4,none⟩=false:=by
 subst hn
 have hl:=hev.lt
 have hA:EV (w4.alloc (.cells #[.int .i64 e.kind,.int .i64 e.num,.string (mkB e.text),.slice a1 e.kids.length c1,.slice a2 e.names.length c2,.int .i64 y.kind,.int .i64 y.num,.string (mkB y.text),.slice b1 y.kids.length d1,.slice b2 y.names.length d2] 162)) L [.int .i64 e.kind,.int .i64 e.num,.string (mkB e.text),.slice a1 e.kids.length c1,.slice a2 e.names.length c2]:=hev.keep (heap_al _ _ _ hl)
 obtain⟨u0,u1,u2,u3,u4⟩:=hA.five
 have gF:∀ g,g≠L→g<w4.heap.size→((w4.alloc (.cells #[.int .i64 e.kind,.int .i64 e.num,.string (mkB e.text),.slice a1 e.kids.length c1,.slice a2 e.names.length c2,.int .i64 y.kind,.int .i64 y.num,.string (mkB y.text),.slice b1 y.kids.length d1,.slice b2 y.names.length d2] 162)).setCells L 0 [.int .i64 11,.int .i64 0,.string ⟨#[]⟩,.slice (some ⟨w4.heap.size,0,none⟩) 2 2,.slice none 0 0]).heap[g]? =w4.heap[g]? :=fun g hg hg2=>(heap_sets _ [.int .i64 11,.int .i64 0,.string ⟨#[]⟩,.slice (some ⟨w4.heap.size,0,none⟩) 2 2,.slice none 0 0] 0 _ g hg).trans (heap_al w4 _ g hg2)
 have gT:((w4.alloc (.cells #[.int .i64 e.kind,.int .i64 e.num,.string (mkB e.text),.slice a1 e.kids.length c1,.slice a2 e.names.length c2,.int .i64 y.kind,.int .i64 y.num,.string (mkB y.text),.slice b1 y.kids.length d1,.slice b2 y.names.length d2] 162)).setCells L 0 [.int .i64 11,.int .i64 0,.string ⟨#[]⟩,.slice (some ⟨w4.heap.size,0,none⟩) 2 2,.slice none 0 0]).heap[w4.heap.size]? =some (.cells #[.int .i64 e.kind,.int .i64 e.num,.string (mkB e.text),.slice a1 e.kids.length c1,.slice a2 e.names.length c2,.int .i64 y.kind,.int .i64 y.num,.string (mkB y.text),.slice b1 y.kids.length d1,.slice b2 y.names.length d2] 162):=(heap_sets _ [.int .i64 11,.int .i64 0,.string ⟨#[]⟩,.slice (some ⟨w4.heap.size,0,none⟩) 2 2,.slice none 0 0] 0 _ _ (by omega)).trans (heap_alloc_new w4 _)
 have hrl:W.heap.size<w4.heap.size:=(Array.getElem?_eq_some_iff.1 hr).1
 refine⟨hp.keep (gF P (by omega) (by omega)) (gF T (by omega) (by omega)),(gF _ (by omega) hrl).trans hr,hA.put rfl,(hk.trans (KP.al P w4 _)).sets (by omega) _,?_,by rw[size_sets,World.size_alloc];omega,u0,u1,u2,u3,u4,hA.fz 0,hA.fz 1,hA.fz 2,hA.fz 3,hA.fz 4⟩
 refine ExA.make (x:=⟨11,0,[],[e,y],[]⟩) (vs:=[[.int .i64 e.kind,.int .i64 e.num,.string (mkB e.text),.slice a1 e.kids.length c1,.slice a2 e.names.length c2],[.int .i64 y.kind,.int .i64 y.num,.string (mkB y.text),.slice b1 y.kids.length d1,.slice b2 y.names.length d2]]) ⟨rfl,.inr ⟨w4.heap.size,2,_,rfl,Nat.zero_le _,gT,Nat.le_refl _,by decide,rfl,rfl⟩⟩ (World.ownsRow_nil _ _ _ _) (fun g hg=>?_) (fun g hg=>by cases hg) ⟨hx.keep (fun g hg hg2=>gF g hg.2 hg2) (fun g hg _=>hg),hy.keep (fun g hg hg2=>gF g (by omega) hg2) (fun g hg _=>⟨by omega,by omega⟩),trivial⟩
 have:=ob_le (k:=w4.heap.size) hg (Nat.le_refl _)
 exact⟨by omega,by omega⟩
set_option linter.unusedSimpArgs false in
theorem post_any {P T:Nat}{E:Ps→Px Ex}(hE:MethC P T 247 E)(hAt:MethC P T 320 (atm E))(hCa:CallC P T 321 (fun e=>lst [41] (caE E) ⟨10,0,[],[e],[]⟩)):MethC P T 318 (pst E):=by
 intro W p z h hz
 have hPl:=h.lt
 have hTl:=h.ltT
 have h0:=h.up (alB W ez)
 have hk0:=KP.al P W ez
 have hr0:=heap_alloc_new W ez
 have HE:Hid (MethC P T 247 E):=hE
 have HCa:Hid (CallC P T 321 (fun e=>lst [41] (caE E) ⟨10,0,[],[e],[]⟩)):=hCa
 have HC:Hid (∀ z',atm E p=some z'→Calls Tryz.prog 320 #[pt P] (W.alloc ez) (PoA P T (VE (W.heap.size+1)) (W.alloc ez) z')):=fun z' hz'=>by
  have:=hAt _ p z' h0 hz'
  rwa [World.size_alloc]at this
 clear hE hAt hCa h h0
 rcases bnd_some hz with⟨x,hx,rfl⟩|⟨x,q,hx,hq⟩
 ·have HC1:=HC.out _ hx
  clear HC
  go_enter Tryz.func318,Tryz.ntmps318
  go_wp2_with fail
  refine HC1.mono ?_
  rintro e w1 hpo
  obtain⟨rfl,hk⟩:=bad_panic hpo hk0
  exact⟨rfl,rfl,hk⟩
 ·have HC1:=HC.out _ hx
  clear HC
  go_enter Tryz.func318,Tryz.ntmps318
  go_wp2_with fail
  refine HC1.mono ?_
  rintro e w1 ⟨v,rfl,⟨c,rfl,hx1⟩,hp1,hk1⟩
  have hr1:=hk1.heapEq hr0 (by omega)
  have hs1:W.heap.size<w1.heap.size:=(Array.getElem?_eq_some_iff.1 hr1).1
  have hkw:=hk0.trans hk1
  obtain⟨t1,r1,x1,g1⟩:=var5 hx1
  obtain⟨-,i1,o1,-,j1⟩:=fin5 hr1 rfl hx1
  have HF:Hid ((w1.alloc ez).there w1.heap.size 0 c.toArray.size∧(Tryz.prog.info? 162).map (·.size)=some c.toArray.size∧c.toArray.all (·.oneCell')=true):=⟨t1,i1,o1⟩
  have HJ:Hid (PoI P T W.heap.size w1.heap.size W E z ((w1.alloc ez).setCells w1.heap.size 0 c)):=⟨x,q,_,c,hq,hp1.keep (g1 P (by omega)) (g1 T (by omega)),(hkw.trans (KP.al P w1 ez)).sets (by omega) c,EV.new hx1.len,x1.mono (fun g hg _=>⟨hg.1,by omega⟩),(g1 _ hs1).trans hr1⟩
  clear t1 r1 x1 g1 i1 o1 j1 hkw hr1 hk1 hp1 hx1 HC1 hk0 hr0 hq hx hz
  go_wp2_with (first
   |(refine wpList_store_mid rfl 162 (Operand.tmp 3) (Operand.tmp 5) rfl w1.heap.size 0 c.toArray rfl rfl HF.out.1 HF.out.2.1 HF.out.2.2 ?_)
   |fail)
  simp only[Act.put]
  go_loopw [] (fun wr=>Hid (PoI P T W.heap.size w1.heap.size W E z wr)) (fun wr=>tkLen P wr)
  case atStart=>exact HJ
  case round=>
   obtain⟨e,p',f,c',hj,hps,hk,hev,hxe,hrr⟩:=hrel.out
   clear hrel HJ HF
   cases f with
   |zero=>cases hj
   |succ f=>
   unfold psL at hj
   have htk:=hps.tk
   cases hb0:p'.sees [[40]]with
   |true=>
    simp only[hb0,cond_true]at hj
    go_wp2_with fail
    refine(passSign_yes hps (x:=[40]) hb0).mono ?_
    rintro e2 w2 ⟨rfl,hk2,hp2⟩
    have hxe2:ExA w2 (fun g=>W.heap.size+1≤g∧g≠w1.heap.size) e c':=hxe.keep (fun g hg hg2=>hk2.blk g hg2 (by omega)) (fun g hg _=>hg)
    have hev2:=hev.keep (hk2.blk _ hev.lt (by omega))
    have hrr2:=hk2.heapEq hrr (by omega)
    have hkw2:=hk.trans hk2
    have HG:Hid (w2.rangeAt w1.heap.size 0 c'∧(Tryz.prog.info? 162).map (·.size)=some c'.length):=⟨hev2.2,by rw[hxe2.len];exact szE⟩
    clear hk2 hxe hev hrr hk hps
    rcases bnd_some hj with⟨y,hy,rfl⟩|⟨y,q2,hy,hj2⟩
    ·have HD:=HCa.out w2 _ e c' p'.adv _ hp2 hxe2 (fun g hg e9=>by have:=hg.1;omega) hy
     clear hj hy hp2 HE HCa hxe2 hev2 hrr2
     go_wp2_with (first
      |(refine wpList_load_mid rfl 162 (Operand.tmp 3) rfl w1.heap.size 0 rfl c' _ HG.out.1 Tryz.underlying162 rfl HG.out.2 ?_)
      |fail)
     refine HD.mono ?_
     rintro e3 w3 hpo
     obtain⟨rfl,hk3⟩:=bad_panic hpo hkw2
     exact⟨rfl,rfl,hk3⟩
    ·have HD:=HCa.out w2 _ e c' p'.adv _ hp2 hxe2 (fun g hg e9=>by have:=hg.1;omega) hy
     obtain⟨hle,hj4⟩:=iff_some hj2
     have hle2:q2.toks.length<p'.toks.length:=of_decide_eq_true hle
     clear hj hy hp2 HE HCa hxe2 hj2 hle
     go_wp2_with (first
      |(refine wpList_load_mid rfl 162 (Operand.tmp 3) rfl w1.heap.size 0 rfl c' _ HG.out.1 Tryz.underlying162 rfl HG.out.2 ?_)
      |fail)
     refine HD.mono ?_
     rintro e3 w3 ⟨v3,rfl,⟨c3,rfl,hx3⟩,hp3,hk3⟩
     have hev3:=hev2.keep (hk3.blk _ hev2.lt (by omega))
     have hrr3:=hk3.heapEq hrr2 (by omega)
     have hl2:=hev2.lt
     have htk3:=hp3.tk
     have ht3:w3.there w1.heap.size 0 c3.toArray.size:=by
      obtain⟨⟨c0,h1,h2⟩,_⟩:=hev3
      have h3:c3.toArray.size=c0.size:=by rw[h2];exact hx3.len
      rw[h3]
      exact there_of h1
     have HK:Hid (w3.there w1.heap.size 0 c3.toArray.size∧(Tryz.prog.info? 162).map (·.size)=some c3.toArray.size∧c3.toArray.all (·.oneCell')=true):=⟨ht3,by have:c3.toArray.size=5:=hx3.len;rw[this];exact szE,all_oneCell_toArray hx3.one⟩
     have HJ:Hid (PoI P T W.heap.size w1.heap.size W E z (w3.setCells w1.heap.size 0 c3)):=⟨y,q2,f,c3,hj4,hp3.sets (by omega) (by omega) _,(hkw2.trans hk3).sets (by omega) _,hev3.put hx3.len,hx3.keep (fun g hg _=>heap_sets w1.heap.size c3 0 w3 g (by rcases hg with hg|hg;(· exact hg.2);(· omega))) (fun g hg _=>by rcases hg with hg|hg;(· exact hg);(· exact⟨by omega,by omega⟩)),(heap_sets w1.heap.size c3 0 w3 _ (by omega)).trans hrr3⟩
     have htk9:tkLen P (w3.setCells w1.heap.size 0 c3)=tkLen P w3:=by
      unfold tkLen
      rw[show(w3.setCells w1.heap.size 0 c3).cell? ⟨P,0,none⟩=w3.cell? ⟨P,0,none⟩from World.cell?_of_block (heap_sets w1.heap.size c3 0 w3 P (by omega))]
     clear ht3 hev3 hrr3 hx3 hp3 hk3 HD hev2 hrr2 hkw2 HG hj4
     go_wp2_with (first
      |(refine wpList_store_mid rfl 162 (Operand.tmp 3) (Operand.tmp 12) rfl w1.heap.size 0 c3.toArray rfl rfl HK.out.1 HK.out.2.1 HK.out.2.2 ?_)
      |fail)
     simp only[Act.put]
     go_roundw
     case rel=>exact HJ
     case measure=>rw[htk,htk9,htk3];exact hle2
   |false=>
   simp only[hb0,cond_false]at hj
   go_wp2_with fail
   refine(passSign_no hps (x:=[40]) hb0).mono ?_
   rintro e2 w2 ⟨rfl,hk2,hp2⟩
   have hxe2:ExA w2 (fun g=>W.heap.size+1≤g∧g≠w1.heap.size) e c':=hxe.keep (fun g hg hg2=>hk2.blk g hg2 (by omega)) (fun g hg _=>hg)
   have hev2:=hev.keep (hk2.blk _ hev.lt (by omega))
   have hrr2:=hk2.heapEq hrr (by omega)
   have hkw2:=hk.trans hk2
   clear hk2 hxe hev hrr hk hps
   cases hb1:p'.sees [[91]]with
   |false=>
    simp only[hb1,cond_false]at hj
    cases hj
    go_wp2_with fail
    refine(passSign_no hp2 (x:=[91]) hb1).mono ?_
    rintro e3 w3 ⟨rfl,hk3,hp3⟩
    have hxe3:ExA w3 (fun g=>W.heap.size+1≤g∧g≠w1.heap.size) e c':=hxe2.keep (fun g hg hg2=>hk3.blk g hg2 (by omega)) (fun g hg _=>hg)
    have hev3:=hev2.keep (hk3.blk _ hev2.lt (by omega))
    have hrr3:=hk3.heapEq hrr2 (by omega)
    obtain⟨t2,i2,o2,l2,j2⟩:=fin5 hrr3 rfl hxe3
    have HZ:Hid (PoA P T (VE W.heap.size) W (.ok (e,p')) (.returned (.agg c'.toArray)) (w3.setCells W.heap.size 0 c')):=poE_fin2 (Nat.le_refl _) hxe3 (fun g hg=>⟨by omega,by omega⟩) hp3 (hkw2.trans hk3) hPl hTl
    have HG:Hid (w3.rangeAt w1.heap.size 0 c'∧(Tryz.prog.info? 162).map (·.size)=some c'.length∧w3.there W.heap.size 0 c'.toArray.size∧(Tryz.prog.info? 162).map (·.size)=some c'.toArray.size∧c'.toArray.all (·.oneCell')=true∧(loadVar 162 ⟨W.heap.size,0,none⟩).run Tryz.prog (w3.setCells W.heap.size 0 c')= .ok (.agg c'.toArray) (w3.setCells W.heap.size 0 c')):=⟨hev3.2,j2,t2,i2,o2,l2⟩
    clear t2 i2 o2 l2 j2 hxe2 hev2 hrr2 hkw2 hp2 hxe3 hev3 hrr3 hk3 hp3
    go_wp2_with (first
     |(refine wpList_load_mid rfl 162 (Operand.tmp 3) rfl w1.heap.size 0 rfl c' _ HG.out.1 Tryz.underlying162 rfl HG.out.2.1 ?_)
     |(refine wpList_store_mid rfl 162 (Operand.tmp 2) (Operand.tmp 6) rfl W.heap.size 0 c'.toArray rfl rfl HG.out.2.2.1 HG.out.2.2.2.1 HG.out.2.2.2.2.1 ?_)
     |fail)
    refine bodyPost_ret (v:= .agg c'.toArray) (res_one Tryz.results318 _ _ rfl HG.out.2.2.2.2.2) rfl HZ.out
   |true=>
    simp only[hb1,cond_true]at hj
    go_wp2_with fail
    refine(passSign_yes hp2 (x:=[91]) hb1).mono ?_
    rintro e3 w3 ⟨rfl,hk3,hp3⟩
    have hxe3:ExA w3 (fun g=>W.heap.size+1≤g∧g≠w1.heap.size) e c':=hxe2.keep (fun g hg hg2=>hk3.blk g hg2 (by omega)) (fun g hg _=>hg)
    obtain⟨a1,c1,a2,c2,hc3⟩:=hxe3.form
    subst hc3
    have hev3:=hev2.keep (hk3.blk _ hev2.lt (by omega))
    have hrr3:=hk3.heapEq hrr2 (by omega)
    obtain⟨x0,x1,x2,x3,x4⟩:=hev3.five
    have HB:Hid (KP P W w3∧EV w3 w1.heap.size [.int .i64 e.kind,.int .i64 e.num,.string (mkB e.text),.slice a1 e.kids.length c1,.slice a2 e.names.length c2]∧w3.heap[W.heap.size]? =some ez∧ExA w3 (fun g=>W.heap.size+1≤g∧g≠w1.heap.size) e [.int .i64 e.kind,.int .i64 e.num,.string (mkB e.text),.slice a1 e.kids.length c1,.slice a2 e.names.length c2]):=⟨hkw2.trans hk3,hev3,hrr3,hxe3⟩
    clear hxe2 hev2 hrr2 hkw2 hp2 hev3 hrr3 hk3 hxe3
    rcases bnd_some hj with⟨y,hy,rfl⟩|⟨y,q2,hy,hj2⟩
    ·have HD:=HE.out w3.drew _ _ (hp3.drewN 1) hy
     clear hj hy hp3 HE HCa
     go_wp2_with fail
     refine wp_region_any (by kernel_rfl) ?_
     refine wpAny_take (i:=1) (v:=pt P) (by rfl) (by kernel_rfl) (by kernel_rfl) (by kernel_rfl) (by intro c a w h;exact h) (.inl ⟨by kernel_rfl,fun _=>by kernel_rfl⟩) ?_
     try simp only[Act.put,List.setIfInBounds_toArray,List.set_cons_zero,List.set_cons_succ]
     change wpAny _ _ _ _ _ _ _ w3.drew
     refine wpAny_ready (rs:=[0,2]) (by kernel_rfl) (by simp) (AllReady.cons (by rfl) (fun K hK=>?_) (AllReady.cons (by rfl) (fun K hK=>?_) AllReady.nil))
     ·refine step_call (by rfl) ?_
      go_simp
      refine hK _ _ ?_
      clear hK K
      try simp only[Act.put,List.setIfInBounds_toArray,List.set_cons_zero,List.set_cons_succ]
      refine wpAny_ready (rs:=[2]) (by kernel_rfl) (by simp) (AllReady.cons (by rfl) (fun K hK=>?_) AllReady.nil)
      refine step_call (by rfl) ?_
      go_simp
      refine HD.mono ?_
      rintro e9 w4 hpo
      obtain⟨rfl,hk4⟩:=bad_panic hpo HB.out.1.drew
      exact⟨rfl,rfl,hk4⟩
     ·refine step_call (by rfl) ?_
      go_simp
      refine HD.mono ?_
      rintro e9 w4 hpo
      obtain⟨rfl,hk4⟩:=bad_panic hpo HB.out.1.drew
      exact⟨rfl,rfl,hk4⟩
    ·have HD:=HE.out w3.drew _ _ (hp3.drewN 1) hy
     clear hj hy hp3 HE HCa
     go_wp2_with fail
     refine wp_region_any (by kernel_rfl) ?_
     refine wpAny_take (i:=1) (v:=pt P) (by rfl) (by kernel_rfl) (by kernel_rfl) (by kernel_rfl) (by intro c a w h;exact h) (.inl ⟨by kernel_rfl,fun _=>by kernel_rfl⟩) ?_
     try simp only[Act.put,List.setIfInBounds_toArray,List.set_cons_zero,List.set_cons_succ]
     change wpAny _ _ _ _ _ _ _ w3.drew
     refine wpAny_ready (rs:=[0,2]) (by kernel_rfl) (by simp) (AllReady.cons (by rfl) (fun K hK=>?_) (AllReady.cons (by rfl) (fun K hK=>?_) AllReady.nil))
     ·refine step_call (by rfl) ?_
      go_simp
      refine hK _ _ ?_
      clear hK K
      try simp only[Act.put,List.setIfInBounds_toArray,List.set_cons_zero,List.set_cons_succ]
      refine wpAny_ready (rs:=[2]) (by kernel_rfl) (by simp) (AllReady.cons (by rfl) (fun K hK=>?_) AllReady.nil)
      refine step_call (by rfl) ?_
      go_simp
      refine HD.mono ?_
      rintro e9 w4 ⟨v4,rfl,⟨c4,rfl,hx4⟩,hp4,hk4⟩
      obtain⟨b1,d1,b2,d2,hc4⟩:=hx4.form
      subst hc4
      have hev4:EV w4 w1.heap.size [.int .i64 e.kind,.int .i64 e.num,.string (mkB e.text),.slice a1 e.kids.length c1,.slice a2 e.names.length c2]:=HB.out.2.1.keep (hk4.blk _ HB.out.2.1.lt (by omega))
      have hr4:w4.heap[W.heap.size]? =some ez:=hk4.heapEq (a:=w3.drew) HB.out.2.2.1 (by omega)
      have hs4:w1.heap.size<w4.heap.size:=hev4.lt
      obtain⟨u0,u1,u2,u3,u4⟩:=hev4.five
      obtain⟨hT5,hR5,hS5,hP5,hK5,hX5,ho0,ho1,ho2,ho3,ho4,hf0,hf1,hf2,hf3,hf4⟩:=idx_facts hPl hTl hs1 hev4 hr4 (HB.out.2.2.2.keep (fun g hg hg2=>hk4.blk g hg2 (by omega)) (fun g hg _=>hg)) hx4 (by show w1.heap.size<w3.heap.size;exact HB.out.2.1.lt) hp4 (HB.out.1.drew.trans hk4) rfl
      clear hx4 hp4 hk4 hr4 hev4
      refine hK _ _ ?_
      clear hK K
      try simp only[Act.put,List.setIfInBounds_toArray,List.set_cons_zero,List.set_cons_succ]
      clear u0 u1 u2 u3 u4 hs4
      refine wpAny_ready (rs:=[3]) (by kernel_rfl) (by simp) (AllReady.cons (by rfl) (fun K hK=>?_) AllReady.nil)
      refine step_call (by rfl) ?_
      go_simp
      refine hK _ _ ?_
      clear hK K
      try simp only[Act.put,List.setIfInBounds_toArray,List.set_cons_zero,List.set_cons_succ]
      refine wpAny_ready (rs:=[4]) (by kernel_rfl) (by simp) (AllReady.cons (by rfl) (fun K hK=>?_) AllReady.nil)
      refine step_call (by rfl) ?_
      go_simp
      refine hK _ _ ?_
      clear hK K
      try simp only[Act.put,List.setIfInBounds_toArray,List.set_cons_zero,List.set_cons_succ]
      refine wpAny_ready (rs:=[5]) (by kernel_rfl) (by simp) (AllReady.cons (by rfl) (fun K hK=>?_) AllReady.nil)
      refine step_call (by rfl) ?_
      go_simp
      refine hK _ _ ?_
      clear hK K
      refine wpAny_done (by kernel_rfl) ?_ _
      try simp only[Act.put,List.setIfInBounds_toArray,List.set_cons_zero,List.set_cons_succ]
      rw[sets5]at hT5 hR5 hS5 hP5 hK5 hX5
      rcases bnd_some hj2 with⟨x9,hx9,rfl⟩|⟨_,q4,hx9,hj3⟩
      ·have HT:=takeSign_any hT5 [93] hx9
       go_wp2_with fail
       refine HT.mono ?_
       rintro e8 w8 hpo
       obtain⟨rfl,hk8⟩:=bad_panic hpo hP5
       exact⟨rfl,rfl,hk8⟩
      ·have HT:=takeSign_any hT5 [93] hx9
       obtain⟨hle,hj4⟩:=iff_some hj3
       have hle2:q4.toks.length<p'.toks.length:=of_decide_eq_true hle
       go_wp2_with fail
       refine HT.mono ?_
       rintro e8 w8 ⟨v8,rfl,rfl,hp8,hk8⟩
       have htk8:=hp8.tk
       have HJ:Hid (PoI P T W.heap.size w1.heap.size W E z w8):=⟨_,q4,f,_,hj4,hp8,hP5.trans hk8,hS5.keep (hk8.blk _ hX5 (by omega)),hK5.keep (fun g hg hg2=>hk8.blk g hg2 (by omega)) (fun g hg _=>hg),hk8.heapEq hR5 (by omega)⟩
       clear hle hj3 hj4 hj2 hT5 hR5 hS5 hP5 hK5 hX5 HT hp8 hk8 HB HD
       go_wp2
       exact⟨HJ,by rw[htk8,htk];exact hle2⟩
     ·refine step_call (by rfl) ?_
      go_simp
      refine HD.mono ?_
      rintro e9 w4 ⟨v4,rfl,⟨c4,rfl,hx4⟩,hp4,hk4⟩
      obtain⟨b1,d1,b2,d2,hc4⟩:=hx4.form
      subst hc4
      have hev4:EV w4 w1.heap.size [.int .i64 e.kind,.int .i64 e.num,.string (mkB e.text),.slice a1 e.kids.length c1,.slice a2 e.names.length c2]:=HB.out.2.1.keep (hk4.blk _ HB.out.2.1.lt (by omega))
      have hr4:w4.heap[W.heap.size]? =some ez:=hk4.heapEq (a:=w3.drew) HB.out.2.2.1 (by omega)
      have hs4:w1.heap.size<w4.heap.size:=hev4.lt
      obtain⟨u0,u1,u2,u3,u4⟩:=hev4.five
      obtain⟨hT5,hR5,hS5,hP5,hK5,hX5,ho0,ho1,ho2,ho3,ho4,hf0,hf1,hf2,hf3,hf4⟩:=idx_facts hPl hTl hs1 hev4 hr4 (HB.out.2.2.2.keep (fun g hg hg2=>hk4.blk g hg2 (by omega)) (fun g hg _=>hg)) hx4 (by show w1.heap.size<w3.heap.size;exact HB.out.2.1.lt) hp4 (HB.out.1.drew.trans hk4) rfl
      clear hx4 hp4 hk4 hr4 hev4
      refine hK _ _ ?_
      clear hK K
      try simp only[Act.put,List.setIfInBounds_toArray,List.set_cons_zero,List.set_cons_succ]
      refine wpAny_ready (rs:=[0]) (by kernel_rfl) (by simp) (AllReady.cons (by rfl) (fun K hK=>?_) AllReady.nil)
      refine step_call (by rfl) ?_
      go_simp
      refine hK _ _ ?_
      clear hK K
      try simp only[Act.put,List.setIfInBounds_toArray,List.set_cons_zero,List.set_cons_succ]
      clear u0 u1 u2 u3 u4 hs4
      refine wpAny_ready (rs:=[3]) (by kernel_rfl) (by simp) (AllReady.cons (by rfl) (fun K hK=>?_) AllReady.nil)
      refine step_call (by rfl) ?_
      go_simp
      refine hK _ _ ?_
      clear hK K
      try simp only[Act.put,List.setIfInBounds_toArray,List.set_cons_zero,List.set_cons_succ]
      refine wpAny_ready (rs:=[4]) (by kernel_rfl) (by simp) (AllReady.cons (by rfl) (fun K hK=>?_) AllReady.nil)
      refine step_call (by rfl) ?_
      go_simp
      refine hK _ _ ?_
      clear hK K
      try simp only[Act.put,List.setIfInBounds_toArray,List.set_cons_zero,List.set_cons_succ]
      refine wpAny_ready (rs:=[5]) (by kernel_rfl) (by simp) (AllReady.cons (by rfl) (fun K hK=>?_) AllReady.nil)
      refine step_call (by rfl) ?_
      go_simp
      refine hK _ _ ?_
      clear hK K
      refine wpAny_done (by kernel_rfl) ?_ _
      try simp only[Act.put,List.setIfInBounds_toArray,List.set_cons_zero,List.set_cons_succ]
      rw[sets5]at hT5 hR5 hS5 hP5 hK5 hX5
      rcases bnd_some hj2 with⟨x9,hx9,rfl⟩|⟨_,q4,hx9,hj3⟩
      ·have HT:=takeSign_any hT5 [93] hx9
       go_wp2_with fail
       refine HT.mono ?_
       rintro e8 w8 hpo
       obtain⟨rfl,hk8⟩:=bad_panic hpo hP5
       exact⟨rfl,rfl,hk8⟩
      ·have HT:=takeSign_any hT5 [93] hx9
       obtain⟨hle,hj4⟩:=iff_some hj3
       have hle2:q4.toks.length<p'.toks.length:=of_decide_eq_true hle
       go_wp2_with fail
       refine HT.mono ?_
       rintro e8 w8 ⟨v8,rfl,rfl,hp8,hk8⟩
       have htk8:=hp8.tk
       have HJ:Hid (PoI P T W.heap.size w1.heap.size W E z w8):=⟨_,q4,f,_,hj4,hp8,hP5.trans hk8,hS5.keep (hk8.blk _ hX5 (by omega)),hK5.keep (fun g hg hg2=>hk8.blk g hg2 (by omega)) (fun g hg _=>hg),hk8.heapEq hR5 (by omega)⟩
       clear hle hj3 hj4 hj2 hT5 hR5 hS5 hP5 hK5 hX5 HT hp8 hk8 HB HD
       go_wp2
       exact⟨HJ,by rw[htk8,htk];exact hle2⟩
end Go.Proofs.YthfgpkdbclogpaaGreatDoor
namespace Go.Proofs.YthfgpkdbclogpaaGreatDoor
open Go.RowKit Go.Shelf
attribute [local go_sem ↓] fld0 fld1 fld2 fld3
def LPo {σ:Type}(J:World→σ→Ps→Prop)(N:World→Prop)(z:Except Ft (σ×Ps))(e:Ending)(w':World):Prop:=match z with
 | .error (k,x)=>e=PF k x∧N w'
 | .ok (s,q)=>e= .returned (.tuple #[])∧J w' s q
structure Liv {σ:Type}(P T:Nat)(J:World→σ→Ps→Prop)(N:World→Prop):Prop where
 ps:∀ W s p,J W s p→PsA P T W p
 kp:∀ W s p w' p',J W s p→KP P W w'→PsA P T w' p'→J w' s p'
 n:∀ W s p,J W s p→N W
 nk:∀ W w',N W→KP P W w'→N w'
def EachC {σ:Type}(F:Nat)(caps:Array Value)(J:World→σ→Ps→Prop)(N:World→Prop)(each:σ→Ps→Px σ):Prop:=(∀ args w,(callFunc F args).run Tryz.prog w= .ok (.enter F args) w)∧∀ W s p z,J W s p→each s p=some z→Calls Tryz.prog F caps W (LPo J N z)
theorem bad_lpo {σ:Type}{J:World→σ→Ps→Prop}{N:World→Prop}{x:Ft}{e:Ending}{w2:World}(h:LPo J N (.error x) e w2):e=PF x.1 x.2∧N w2:=by
 obtain⟨k,a⟩:=x
 exact h
theorem lpo_err {σ:Type}{J:World→σ→Ps→Prop}{N:World→Prop}{x:Ft}{w2:World}(h:N w2):LPo J N (.error x) (PF x.1 x.2) w2:=by
 obtain⟨k,a⟩:=x
 exact⟨rfl,h⟩
def LsI {σ:Type}(J:World→σ→Ps→Prop)(c:List UInt8)(each:σ→Ps→Px σ)(z:Except Ft (σ×Ps))(b:Bool)(wr:World):Prop:=∃ s p f,lsL c each f b s p=some z∧J wr s p
theorem listed_any {σ:Type}{P T F:Nat}{caps:Array Value}{J:World→σ→Ps→Prop}{N:World→Prop}(hL:Liv P T J N){each:σ→Ps→Px σ}(hm:EachC F caps J N each)(c:List UInt8){w:World}{s:σ}{p:Ps}(h:J w s p){z:Except Ft (σ×Ps)}(hz:lst c each s p=some z):
  Calls Tryz.prog 251 #[pt P,.string (mkB c),.func (.func F) #[] caps] w (LPo J N z):=by
 have hent:=hm.1
 have HM:Hid (EachC F caps J N each):=hm
 have HL:Hid (Liv P T J N):=hL
 have HJ:Hid (LsI J c each z true w):=⟨s,p,_,hz,h⟩
 clear hm hL h hz
 go_enter Tryz.func251,Tryz.ntmps251
 go_wp2
 go_loopw [6] (fun u wr=>∃ b:Bool,u= .bool b∧Hid (LsI J c each z b wr)) (fun _ wr=>tkLen P wr)
 case atStart=>exact⟨true,rfl,HJ⟩
 case round=>
  obtain⟨b,rfl,hrel⟩:=hrel
  obtain⟨s',p',f,hj,hJ⟩:=hrel.out
  clear hrel HJ
  cases f with
  |zero=>cases hj
  |succ f=>
  unfold lsL at hj
  have hps:=HL.out.ps _ _ _ hJ
  have htk:=hps.tk
  cases hb:p'.sees [c]with
  |true=>
   simp only[hb,cond_true]at hj
   cases hj
   have HP:=passSign_yes hps (x:=c) hb
   clear hps
   go_wp2_with (go_at_call 249;refine HP.mono ?_;rintro e2 w2 ⟨rfl,hk2,hp2⟩)
   go_end0
   exact⟨rfl,HL.out.kp _ _ _ _ _ hJ hk2 hp2⟩
  |false=>
   simp only[hb,cond_false]at hj
   have HP:=passSign_no hps (x:=c) hb
   clear hps
   go_wp2_with fail
   refine HP.mono ?_
   rintro e2 w2 ⟨rfl,hk2,hp2⟩
   have hJ2:=HL.out.kp _ _ _ _ _ hJ hk2 hp2
   clear HP hk2 hJ
   cases b with
   |true=>
    simp only[cond_true]at hj
    replace hj:(bnd (each s' p') fun s q=>iff (less q p') (lsL c each f false s q))=some z:=hj
    rcases bnd_some hj with⟨x,hx,rfl⟩|⟨s3,q3,hx,hj2⟩
    ·have HC:=HM.out.2 _ _ _ _ hJ2 hx
     clear hJ2 hx hp2 hj
     go_wp2_with fail
     refine HC.mono ?_
     rintro e3 w3 hpo
     obtain⟨rfl,hn⟩:=bad_lpo hpo
     exact⟨rfl,lpo_err hn⟩
    ·have HC:=HM.out.2 _ _ _ _ hJ2 hx
     obtain⟨hle,hj3⟩:=iff_some hj2
     have hle2:q3.toks.length<p'.toks.length:=of_decide_eq_true hle
     clear hJ2 hx hp2 hj hj2 hle
     go_wp2_with fail
     refine HC.mono ?_
     rintro e3 w3 ⟨rfl,hJ3⟩
     have htk3:=(HL.out.ps _ _ _ hJ3).tk
     have HJ3:Hid (LsI J c each z false w3):=⟨_,_,f,hj3,hJ3⟩
     clear hJ3 hj3 HC
     go_wp2
     exact⟨⟨false,rfl,HJ3⟩,by rw[htk3,htk];exact hle2⟩
   |false=>
    simp only[cond_false]at hj
    rcases bnd_some hj with⟨x,hx,rfl⟩|⟨_,q2,hx,hj2⟩
    ·have HC:=takeSign_any hp2 [44] hx
     have HN:Hid (N w2):=HL.out.n _ _ _ hJ2
     clear hJ2 hx hp2 hj
     go_wp2_with fail
     refine HC.mono ?_
     rintro e3 w3 hpo
     obtain⟨rfl,hk⟩:=bad_panic hpo (KP.refl P w2)
     exact⟨rfl,lpo_err (HL.out.nk _ _ HN.out hk)⟩
    ·have HC:=takeSign_any hp2 [44] hx
     clear hx hp2 hj
     go_wp2_with fail
     refine HC.mono ?_
     rintro e3 w3 ⟨v3,rfl,rfl,hp3,hk3⟩
     have hJ3:=HL.out.kp _ _ _ _ _ hJ2 hk3 hp3
     clear hJ2 hk3 hp3 HC
     rcases bnd_some hj2 with⟨x,hx,rfl⟩|⟨s4,q4,hx,hj3⟩
     ·have HC:=HM.out.2 _ _ _ _ hJ3 hx
      clear hJ3 hx hj2
      go_wp2_with fail
      refine HC.mono ?_
      rintro e4 w4 hpo
      obtain⟨rfl,hn⟩:=bad_lpo hpo
      exact⟨rfl,lpo_err hn⟩
     ·have HC:=HM.out.2 _ _ _ _ hJ3 hx
      obtain⟨hle,hj4⟩:=iff_some hj3
      have hle2:q4.toks.length<p'.toks.length:=of_decide_eq_true hle
      clear hJ3 hx hj2 hj3 hle
      go_wp2_with fail
      refine HC.mono ?_
      rintro e4 w4 ⟨rfl,hJ4⟩
      have htk4:=(HL.out.ps _ _ _ hJ4).tk
      have HJ4:Hid (LsI J c each z false w4):=⟨_,_,f,hj4,hJ4⟩
      clear hJ4 hj4 HC
      go_wp2
      exact⟨⟨false,rfl,HJ4⟩,by rw[htk4,htk];exact hle2⟩
end Go.Proofs.YthfgpkdbclogpaaGreatDoor
