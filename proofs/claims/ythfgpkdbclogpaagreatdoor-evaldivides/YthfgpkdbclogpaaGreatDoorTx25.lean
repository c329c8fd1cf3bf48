/- 25. -/
import Derived.Test.YthfgpkdbclogpaaGreatDoorTx24
set_option maxHeartbeats 40000000
set_option maxRecDepth 100000
namespace Go.Proofs.YthfgpkdbclogpaaGreatDoor
open Go.RowKit Go.Shelf
attribute [local go_sem ↓] fld0 fld1 fld2 fld3
attribute [local go_sem] mk_func
def bgW (P:Nat)(w:World):World:=(w.alloc (.cells #[pt P] 224)).alloc ez
theorem bg_facts {P T:Nat}{w:World}{p:Ps}(h:PsA P T w p):PsA P T (bgW P w) p∧KP P w (bgW P w)∧BoxA P w.heap.size (bgW P w)∧(bgW P w).heap[w.heap.size+1]? =some ez∧(bgW P w).heap.size=w.heap.size+1+1:=by
 have hPl:=h.lt
 have s0:(w.alloc (.cells #[pt P] 224)).heap.size=w.heap.size+1:=World.size_alloc _ _
 refine⟨(h.up (alB w (.cells #[pt P] 224))).up (alB _ ez),(KP.al P w (.cells #[pt P] 224)).trans (KP.al P _ ez),(BoxA.new hPl).keep (KP.al P _ ez),?_,by unfold bgW;rw[World.size_alloc,s0]⟩
 have:=heap_alloc_new (w.alloc (.cells #[pt P] 224)) ez
 rwa [s0]at this
theorem KP.heapEq {P:Nat}{a b:World}(h:KP P a b){g:Nat}{o:Obj}(hg:a.heap[g]? =some o)(hp:g≠P):b.heap[g]? =some o:=(h.blk g (Array.getElem?_eq_some_iff.1 hg).1 hp).trans hg
theorem expression_any {P T:Nat}{m:Ps→Px Ex}(hm:∀ b w',BoxA P b w'→PartC P T 284 #[pt b] w' m):MethC P T 247 (fun p=>bnd (rfD [[110,111,116],[45]] p) fun _ q=>inner m q):=by
 intro W p z h hz
 have hPl:=h.lt
 have hTl:=h.ltT
 obtain⟨h0,hk0,hb0,hr0,s0⟩:=bg_facts h
 have cb:(bgW P W).cell? ⟨W.heap.size,0,none⟩=some (pt P):=hb0.2
 have hk1:=hk0.trans (KP.al P (bgW P W) (.cells #[.string ⟨#[110,111,116]⟩,.string ⟨#[45]⟩] 9))
 have hb1:=hb0.keep (KP.al P (bgW P W) (.cells #[.string ⟨#[110,111,116]⟩,.string ⟨#[45]⟩] 9))
 have HR:Hid (∀ z',rfD [[110,111,116],[45]] p=some z'→Calls Tryz.prog 282 #[pt P,.slice (some ⟨W.heap.size+1+1,0,none⟩) 2 2] ((bgW P W).alloc (.cells #[.string ⟨#[110,111,116]⟩,.string ⟨#[45]⟩] 9)) (PoA P T (fun _ _ v=>v= .tuple #[]) ((bgW P W).alloc (.cells #[.string ⟨#[110,111,116]⟩,.string ⟨#[45]⟩] 9)) z')):=fun z' hz'=>by
  have:=refuseDeep_any (h0.up (alB _ (.cells #[.string ⟨#[110,111,116]⟩,.string ⟨#[45]⟩] 9))) (SgA.new P (bgW P W) [[110,111,116],[45]] (by simp) (by omega)) hz'
  rwa [s0]at this
 have HQ:Hid (KP P W ((bgW P W).alloc (.cells #[.string ⟨#[110,111,116]⟩,.string ⟨#[45]⟩] 9))∧BoxA P W.heap.size ((bgW P W).alloc (.cells #[.string ⟨#[110,111,116]⟩,.string ⟨#[45]⟩] 9))∧((bgW P W).alloc (.cells #[.string ⟨#[110,111,116]⟩,.string ⟨#[45]⟩] 9)).heap[W.heap.size+1]? =some ez):=⟨hk1,hb1,(heap_al _ _ _ (by omega)).trans hr0⟩
 have HM:Hid (∀ b w',BoxA P b w'→PartC P T 284 #[pt b] w' m):=hm
 clear hm h h0 hk0 hb0 hr0 s0 hk1 hb1
 unfold bgW at *
 rcases bnd_some hz with⟨x,hx,rfl⟩|⟨_,q,hx,hq⟩
 ·have HC1:=HR.out _ hx
  clear HR
  go_enter Tryz.func247,Tryz.ntmps247
  go_wp2_with fail
  refine HC1.mono ?_
  rintro e w1 hpo
  obtain⟨rfl,hk⟩:=bad_panic hpo HQ.out.1
  exact⟨rfl,rfl,hk⟩
 ·have HC1:=HR.out _ hx
  clear HR
  go_enter Tryz.func247,Tryz.ntmps247
  go_wp2_with fail
  refine HC1.mono ?_
  rintro e w1 ⟨v,rfl,rfl,hp1,hk1⟩
  have hkw:=HQ.out.1.trans hk1
  have hb2:=HQ.out.2.1.keep hk1
  have cb2:=hb2.2
  have hr1:=hk1.heapEq HQ.out.2.2 (by omega)
  have hs1:W.heap.size+1<w1.heap.size:=(Array.getElem?_eq_some_iff.1 hr1).1
  have HD:=deeper_any hp1 (HM.out _ _ hb2) hq
  clear hz hx hq HC1 HQ HM hp1 hk1 hb2
  go_wp2_with fail
  refine HD.mono ?_
  rintro e w2 hpo
  cases z with
  |error x=>
   obtain⟨rfl,hk⟩:=bad_panic hpo hkw
   exact⟨rfl,rfl,hk⟩
  |ok r=>
   obtain⟨x,q⟩:=r
   obtain⟨v,rfl,⟨c,rfl,hx1⟩,hp1,hk1⟩:=hpo
   have hr2:=hk1.heapEq hr1 (by omega)
   obtain⟨t2,i2,o2,l2,j2⟩:=fin5 hr2 rfl hx1
   have HE:Hid (PoA P T (VE W.heap.size) W (.ok (x,q)) (.returned (.agg c.toArray)) (w2.setCells (W.heap.size+1) 0 c)):=poE_fin (by omega) (by omega) hx1 hp1 (hkw.trans hk1) hPl hTl
   have HF:Hid (w2.there (W.heap.size+1) 0 c.toArray.size∧(Tryz.prog.info? 162).map (·.size)=some c.toArray.size∧c.toArray.all (·.oneCell')=true∧(loadVar 162 ⟨W.heap.size+1,0,none⟩).run Tryz.prog (w2.setCells (W.heap.size+1) 0 c)= .ok (.agg c.toArray) (w2.setCells (W.heap.size+1) 0 c)):=⟨t2,i2,o2,l2⟩
   clear t2 i2 o2 l2 j2 hx1 hp1 hk1 hr1 hr2 hkw HD
   go_wp2_with (first
    |(refine wpList_store_mid rfl 162 (Operand.tmp 2) (Operand.tmp 8) rfl (W.heap.size+1) 0 c.toArray rfl rfl HF.out.1 HF.out.2.1 HF.out.2.2.1 ?_)
    |fail)
   refine bodyPost_ret (v:= .agg c.toArray) (res_one Tryz.results247 _ _ rfl HF.out.2.2.2) rfl HE.out
theorem negation_step {P T:Nat}{E:Ps→Px Ex}(hY:MethC P T 302 (cmp E)){f:Nat}(ih:MethC P T 288 (ngL E f)):MethC P T 288 (ngL E (f+1)):=by
 intro W p z h hz
 have hPl:=h.lt
 have hTl:=h.ltT
 obtain⟨h0,hk0,hb0,hr0,s0⟩:=bg_facts h
 have cb:(bgW P W).cell? ⟨W.heap.size,0,none⟩=some (pt P):=hb0.2
 have HS:=passSign_any h0 [110,111,116]
 have HQ:Hid (KP P W (bgW P W)∧BoxA P W.heap.size (bgW P W)∧(bgW P W).heap[W.heap.size+1]? =some ez):=⟨hk0,hb0,hr0⟩
 have HY:Hid (MethC P T 302 (cmp E)):=hY
 have HI:Hid (MethC P T 288 (ngL E f)):=ih
 unfold ngL at hz
 clear h hk0 hb0 hr0 s0 h0 hY ih
 unfold bgW at *
 cases hb:p.sees [[110,111,116]]with
 |false=>
  rw[hb]at hz HS
  replace hz:cmp E p=some z:=hz
  go_enter Tryz.func288,Tryz.ntmps288
  go_wp2_with fail
  refine HS.mono ?_
  rintro e w1 ⟨rfl,hk1,hp1⟩
  have hkw:=HQ.out.1.trans hk1
  have hb2:=HQ.out.2.1.keep hk1
  have cb2:=hb2.2
  have hr1:=hk1.heapEq HQ.out.2.2 (by omega)
  have hs1:W.heap.size+1<w1.heap.size:=(Array.getElem?_eq_some_iff.1 hr1).1
  have HD:=HY.out w1 p z hp1 hz
  clear hz HQ hp1 hk1 hb2 HS HY HI
  go_wp2_with fail
  refine HD.mono ?_
  rintro e w2 hpo
  cases z with
  |error x=>
   obtain⟨rfl,hk⟩:=bad_panic hpo hkw
   exact⟨rfl,rfl,hk⟩
  |ok r=>
   obtain⟨x,q⟩:=r
   obtain⟨v,rfl,⟨c,rfl,hx1⟩,hp1,hk1⟩:=hpo
   have hr2:=hk1.heapEq hr1 (by omega)
   obtain⟨t2,i2,o2,l2,j2⟩:=fin5 hr2 rfl hx1
   have HE:Hid (PoA P T (VE W.heap.size) W (.ok (x,q)) (.returned (.agg c.toArray)) (w2.setCells (W.heap.size+1) 0 c)):=poE_fin (by omega) (by omega) hx1 hp1 (hkw.trans hk1) hPl hTl
   have HF:Hid (w2.there (W.heap.size+1) 0 c.toArray.size∧(Tryz.prog.info? 162).map (·.size)=some c.toArray.size∧c.toArray.all (·.oneCell')=true∧(loadVar 162 ⟨W.heap.size+1,0,none⟩).run Tryz.prog (w2.setCells (W.heap.size+1) 0 c)= .ok (.agg c.toArray) (w2.setCells (W.heap.size+1) 0 c)):=⟨t2,i2,o2,l2⟩
   clear t2 i2 o2 l2 j2 hx1 hp1 hk1 hr1 hr2 hkw HD
   go_wp2_with (first
    |(refine wpList_store_mid rfl 162 (Operand.tmp 2) (Operand.tmp 8) rfl (W.heap.size+1) 0 c.toArray rfl rfl HF.out.1 HF.out.2.1 HF.out.2.2.1 ?_)
    |fail)
   refine bodyPost_ret (v:= .agg c.toArray) (res_one Tryz.results288 _ _ rfl HF.out.2.2.2) rfl HE.out
 |true=>
  rw[hb]at hz HS
  replace hz:(bnd (rfD [[110,111,116],[45]] p.adv) fun _ q=>bnd (inner (ngL E f) q) fun k q=>ok ⟨12,0,[],[k],[]⟩ q)=some z:=hz
  go_enter Tryz.func288,Tryz.ntmps288
  go_wp2_with fail
  refine HS.mono ?_
  rintro e w1 ⟨rfl,hk1,hp1⟩
  replace hp1:PsA P T w1 p.adv:=hp1
  have hkw:=(HQ.out.1.trans hk1).trans (KP.al P w1 (.cells #[.string ⟨#[110,111,116]⟩,.string ⟨#[45]⟩] 9))
  have hb2:=(HQ.out.2.1.keep hk1).keep (KP.al P w1 (.cells #[.string ⟨#[110,111,116]⟩,.string ⟨#[45]⟩] 9))
  have cb2:=(HQ.out.2.1.keep hk1).2
  have hr1:=(KP.al P w1 (.cells #[.string ⟨#[110,111,116]⟩,.string ⟨#[45]⟩] 9)).heapEq (hk1.heapEq HQ.out.2.2 (by omega)) (by omega)
  have HR:Hid (∀ z',rfD [[110,111,116],[45]] p.adv=some z'→Calls Tryz.prog 282 #[pt P,.slice (some ⟨w1.heap.size,0,none⟩) 2 2] (w1.alloc (.cells #[.string ⟨#[110,111,116]⟩,.string ⟨#[45]⟩] 9)) (PoA P T (fun _ _ v=>v= .tuple #[]) (w1.alloc (.cells #[.string ⟨#[110,111,116]⟩,.string ⟨#[45]⟩] 9)) z')):=fun z' hz'=>refuseDeep_any (hp1.up (alB _ (.cells #[.string ⟨#[110,111,116]⟩,.string ⟨#[45]⟩] 9))) (SgA.new P w1 [[110,111,116],[45]] (by simp) hp1.lt) hz'
  clear HQ HS HY hk1 hp1
  rcases bnd_some hz with⟨x,hx,rfl⟩|⟨_,q,hx,hq⟩
  ·have HC1:=HR.out _ hx
   clear HR
   go_wp2_with fail
   refine HC1.mono ?_
   rintro e w2 hpo
   obtain⟨rfl,hk⟩:=bad_panic hpo hkw
   exact⟨rfl,rfl,hk⟩
  ·have HC1:=HR.out _ hx
   clear HR
   go_wp2_with fail
   refine HC1.mono ?_
   rintro e w2 ⟨v,rfl,rfl,hp2,hk2⟩
   have hkw2:=hkw.trans hk2
   have hb3:=hb2.keep hk2
   have cb3:=hb3.2
   have hr2:=hk2.heapEq hr1 (by omega)
   have hs2:W.heap.size+1<w2.heap.size:=(Array.getElem?_eq_some_iff.1 hr2).1
   have hPC:=ngC_any HI.out hb3
   clear hkw hb2 hr1 hk2 HC1 HI hz hx cb2
   rcases bnd_some hq with⟨x,hx,rfl⟩|⟨y,q2,hx,hq2⟩
   ·have HD:=deeper_any hp2 hPC hx
    clear hPC hp2 hb3 hq hx
    go_wp2_with fail
    refine HD.mono ?_
    rintro e w3 hpo
    obtain⟨rfl,hk⟩:=bad_panic hpo hkw2
    exact⟨rfl,rfl,hk⟩
   ·have HD:=deeper_any hp2 hPC hx
    cases hq2
    clear hPC hp2 hb3 hq hx
    go_wp2_with fail
    refine HD.mono ?_
    rintro e w3 ⟨v,rfl,⟨c,rfl,hx3⟩,hp3,hk3⟩
    obtain⟨b1,d1,b2,d2,hc3⟩:=hx3.form
    subst hc3
    have hr3:=hk3.heapEq hr2 (by omega)
    have hs3:W.heap.size+1<w3.heap.size:=(Array.getElem?_eq_some_iff.1 hr3).1
    have s4:(w3.alloc (.cells #[.int .i64 y.kind,.int .i64 y.num,.string (mkB y.text),.slice b1 y.kids.length d1,.slice b2 y.names.length d2] 162)).heap.size=w3.heap.size+1:=World.size_alloc _ _
    have hr5:((w3.alloc (.cells #[.int .i64 y.kind,.int .i64 y.num,.string (mkB y.text),.slice b1 y.kids.length d1,.slice b2 y.names.length d2] 162)).alloc (.cells #[.int .i64 y.kind,.int .i64 y.num,.string (mkB y.text),.slice b1 y.kids.length d1,.slice b2 y.names.length d2] 162)).heap[W.heap.size+1]? =some ez:=(heap_al _ _ _ (by omega)).trans ((heap_al _ _ _ hs3).trans hr3)
    obtain⟨y0,y1,y2,y3,y4,f0,f1,f2,f3,f4⟩:=cells5 hr5
    have gF:∀ g,g≠W.heap.size+1→g<w3.heap.size→(((w3.alloc (.cells #[.int .i64 y.kind,.int .i64 y.num,.string (mkB y.text),.slice b1 y.kids.length d1,.slice b2 y.names.length d2] 162)).alloc (.cells #[.int .i64 y.kind,.int .i64 y.num,.string (mkB y.text),.slice b1 y.kids.length d1,.slice b2 y.names.length d2] 162)).setCells (W.heap.size+1) 0 [.int .i64 12,.int .i64 0,.string ⟨#[]⟩,.slice (some ⟨w3.heap.size+1,0,none⟩) 1 1,.slice none 0 0]).heap[g]? =w3.heap[g]? :=fun g hg hg2=>(heap_sets _ [.int .i64 12,.int .i64 0,.string ⟨#[]⟩,.slice (some ⟨w3.heap.size+1,0,none⟩) 1 1,.slice none 0 0] 0 _ g hg).trans ((heap_al _ _ _ (by omega)).trans (heap_al w3 _ g hg2))
    have gT:(((w3.alloc (.cells #[.int .i64 y.kind,.int .i64 y.num,.string (mkB y.text),.slice b1 y.kids.length d1,.slice b2 y.names.length d2] 162)).alloc (.cells #[.int .i64 y.kind,.int .i64 y.num,.string (mkB y.text),.slice b1 y.kids.length d1,.slice b2 y.names.length d2] 162)).setCells (W.heap.size+1) 0 [.int .i64 12,.int .i64 0,.string ⟨#[]⟩,.slice (some ⟨w3.heap.size+1,0,none⟩) 1 1,.slice none 0 0]).heap[w3.heap.size+1]? =some (.cells #[.int .i64 y.kind,.int .i64 y.num,.string (mkB y.text),.slice b1 y.kids.length d1,.slice b2 y.names.length d2] 162):=(heap_sets _ [.int .i64 12,.int .i64 0,.string ⟨#[]⟩,.slice (some ⟨w3.heap.size+1,0,none⟩) 1 1,.slice none 0 0] 0 _ _ (by omega)).trans (by have:=heap_alloc_new (w3.alloc (.cells #[.int .i64 y.kind,.int .i64 y.num,.string (mkB y.text),.slice b1 y.kids.length d1,.slice b2 y.names.length d2] 162)) (.cells #[.int .i64 y.kind,.int .i64 y.num,.string (mkB y.text),.slice b1 y.kids.length d1,.slice b2 y.names.length d2] 162);rwa [s4]at this)
    have hl0:=(stN hr5 (c:=[.int .i64 12,.int .i64 0,.string ⟨#[]⟩,.slice (some ⟨w3.heap.size+1,0,none⟩) 1 1,.slice none 0 0]) rfl szE (by simp[Value.oneCell']) Tryz.underlying162 rfl).2
    rw[sets5]at hl0
    have HL:Hid _:=hl0
    have hyF:ExA (((w3.alloc (.cells #[.int .i64 y.kind,.int .i64 y.num,.string (mkB y.text),.slice b1 y.kids.length d1,.slice b2 y.names.length d2] 162)).alloc (.cells #[.int .i64 y.kind,.int .i64 y.num,.string (mkB y.text),.slice b1 y.kids.length d1,.slice b2 y.names.length d2] 162)).setCells (W.heap.size+1) 0 [.int .i64 12,.int .i64 0,.string ⟨#[]⟩,.slice (some ⟨w3.heap.size+1,0,none⟩) 1 1,.slice none 0 0]) (fun g=>W.heap.size≤g) y [.int .i64 y.kind,.int .i64 y.num,.string (mkB y.text),.slice b1 y.kids.length d1,.slice b2 y.names.length d2]:=hx3.keep (fun g hg hg2=>gF g (by omega) hg2) (fun g hg _=>by omega)
    have hKF:KP P W (((w3.alloc (.cells #[.int .i64 y.kind,.int .i64 y.num,.string (mkB y.text),.slice b1 y.kids.length d1,.slice b2 y.names.length d2] 162)).alloc (.cells #[.int .i64 y.kind,.int .i64 y.num,.string (mkB y.text),.slice b1 y.kids.length d1,.slice b2 y.names.length d2] 162)).setCells (W.heap.size+1) 0 [.int .i64 12,.int .i64 0,.string ⟨#[]⟩,.slice (some ⟨w3.heap.size+1,0,none⟩) 1 1,.slice none 0 0]):=(((hkw2.trans hk3).trans (KP.al P w3 _)).trans (KP.al P _ _)).sets (Nat.le_succ _) _
    have hPF:PsA P T (((w3.alloc (.cells #[.int .i64 y.kind,.int .i64 y.num,.string (mkB y.text),.slice b1 y.kids.length d1,.slice b2 y.names.length d2] 162)).alloc (.cells #[.int .i64 y.kind,.int .i64 y.num,.string (mkB y.text),.slice b1 y.kids.length d1,.slice b2 y.names.length d2] 162)).setCells (W.heap.size+1) 0 [.int .i64 12,.int .i64 0,.string ⟨#[]⟩,.slice (some ⟨w3.heap.size+1,0,none⟩) 1 1,.slice none 0 0]) q2:=hp3.keep (gF P (by omega) (by omega)) (gF T (by omega) (by omega))
    have he0:PoA P T (VE W.heap.size) W (.ok ((⟨12,0,[],[y],[]⟩:Ex),q2)) (.returned (.agg ([.int .i64 12,.int .i64 0,.string ⟨#[]⟩,.slice (some ⟨w3.heap.size+1,0,none⟩) 1 1,.slice none 0 0]).toArray)) (((w3.alloc (.cells #[.int .i64 y.kind,.int .i64 y.num,.string (mkB y.text),.slice b1 y.kids.length d1,.slice b2 y.names.length d2] 162)).alloc (.cells #[.int .i64 y.kind,.int .i64 y.num,.string (mkB y.text),.slice b1 y.kids.length d1,.slice b2 y.names.length d2] 162)).setCells (W.heap.size+1) 0 [.int .i64 12,.int .i64 0,.string ⟨#[]⟩,.slice (some ⟨w3.heap.size+1,0,none⟩) 1 1,.slice none 0 0]):=⟨_,rfl,⟨_,rfl,ExA.make (x:=⟨12,0,[],[y],[]⟩) (vs:=[[.int .i64 y.kind,.int .i64 y.num,.string (mkB y.text),.slice b1 y.kids.length d1,.slice b2 y.names.length d2]]) ⟨rfl,.inr ⟨w3.heap.size+1,1,_,rfl,Nat.zero_le _,gT,Nat.le_refl _,by decide,rfl,rfl⟩⟩ (World.ownsRow_nil _ _ _ _) (fun g hg=>ob_le hg (by omega)) (fun g hg=>by cases hg) ⟨hyF,trivial⟩⟩,hPF,hKF⟩
    rw[sets5]at he0
    have HE:Hid _:=he0
    clear hl0 he0 hx3 hp3 hk3 hr3 hs3 hr5 gF gT hyF hKF hPF hr2 hkw2 HD
    go_wp2
    refine bodyPost_ret (v:=Value.agg #[Value.int IntKind.i64 12,Value.int IntKind.i64 0,Value.string ⟨#[]⟩,Value.slice (some ⟨w3.heap.size+1,0,none⟩) 1 1,Value.slice none 0 0]) (res_one Tryz.results288 _ _ rfl HL.out) rfl HE.out
theorem negation_any {P T:Nat}{E:Ps→Px Ex}(hY:MethC P T 302 (cmp E)):∀ f,MethC P T 288 (ngL E f)
 |0=>fun W p z _ hz=>by cases hz
 |f+1=>negation_step hY (negation_any hY f)
theorem unary_step {P T:Nat}{E:Ps→Px Ex}(hY:MethC P T 318 (pst E)){f:Nat}(ih:MethC P T 315 (unL E f)):MethC P T 315 (unL E (f+1)):=by
 intro W p z h hz
 have hPl:=h.lt
 have hTl:=h.ltT
 obtain⟨h0,hk0,hb0,hr0,s0⟩:=bg_facts h
 have cb:(bgW P W).cell? ⟨W.heap.size,0,none⟩=some (pt P):=hb0.2
 have HS:=passSign_any h0 [45]
 have HQ:Hid (KP P W (bgW P W)∧BoxA P W.heap.size (bgW P W)∧(bgW P W).heap[W.heap.size+1]? =some ez):=⟨hk0,hb0,hr0⟩
 have HY:Hid (MethC P T 318 (pst E)):=hY
 have HI:Hid (MethC P T 315 (unL E f)):=ih
 unfold unL at hz
 clear h hk0 hb0 hr0 s0 h0 hY ih
 unfold bgW at *
 cases hb:p.sees [[45]]with
 |false=>
  rw[hb]at hz HS
  replace hz:pst E p=some z:=hz
  go_enter Tryz.func315,Tryz.ntmps315
  go_wp2_with fail
  refine HS.mono ?_
  rintro e w1 ⟨rfl,hk1,hp1⟩
  have hkw:=HQ.out.1.trans hk1
  have hb2:=HQ.out.2.1.keep hk1
  have cb2:=hb2.2
  have hr1:=hk1.heapEq HQ.out.2.2 (by omega)
  have hs1:W.heap.size+1<w1.heap.size:=(Array.getElem?_eq_some_iff.1 hr1).1
  have HD:=HY.out w1 p z hp1 hz
  clear hz HQ hp1 hk1 hb2 HS HY HI
  go_wp2_with fail
  refine HD.mono ?_
  rintro e w2 hpo
  cases z with
  |error x=>
   obtain⟨rfl,hk⟩:=bad_panic hpo hkw
   exact⟨rfl,rfl,hk⟩
  |ok r=>
   obtain⟨x,q⟩:=r
   obtain⟨v,rfl,⟨c,rfl,hx1⟩,hp1,hk1⟩:=hpo
   have hr2:=hk1.heapEq hr1 (by omega)
   obtain⟨t2,i2,o2,l2,j2⟩:=fin5 hr2 rfl hx1
   have HE:Hid (PoA P T (VE W.heap.size) W (.ok (x,q)) (.returned (.agg c.toArray)) (w2.setCells (W.heap.size+1) 0 c)):=poE_fin (by omega) (by omega) hx1 hp1 (hkw.trans hk1) hPl hTl
   have HF:Hid (w2.there (W.heap.size+1) 0 c.toArray.size∧(Tryz.prog.info? 162).map (·.size)=some c.toArray.size∧c.toArray.all (·.oneCell')=true∧(loadVar 162 ⟨W.heap.size+1,0,none⟩).run Tryz.prog (w2.setCells (W.heap.size+1) 0 c)= .ok (.agg c.toArray) (w2.setCells (W.heap.size+1) 0 c)):=⟨t2,i2,o2,l2⟩
   clear t2 i2 o2 l2 j2 hx1 hp1 hk1 hr1 hr2 hkw HD
   go_wp2_with (first
    |(refine wpList_store_mid rfl 162 (Operand.tmp 2) (Operand.tmp 8) rfl (W.heap.size+1) 0 c.toArray rfl rfl HF.out.1 HF.out.2.1 HF.out.2.2.1 ?_)
    |fail)
   refine bodyPost_ret (v:= .agg c.toArray) (res_one Tryz.results315 _ _ rfl HF.out.2.2.2) rfl HE.out
 |true=>
  rw[hb]at hz HS
  replace hz:(bnd (rfD [[45]] p.adv) fun _ q=>bnd (inner (unL E f) q) fun k q=>ok ⟨13,0,[],[k],[]⟩ q)=some z:=hz
  go_enter Tryz.func315,Tryz.ntmps315
  go_wp2_with fail
  refine HS.mono ?_
  rintro e w1 ⟨rfl,hk1,hp1⟩
  replace hp1:PsA P T w1 p.adv:=hp1
  have hkw:=(HQ.out.1.trans hk1).trans (KP.al P w1 (.cells #[.string ⟨#[45]⟩] 9))
  have hb2:=(HQ.out.2.1.keep hk1).keep (KP.al P w1 (.cells #[.string ⟨#[45]⟩] 9))
  have cb2:=(HQ.out.2.1.keep hk1).2
  have hr1:=(KP.al P w1 (.cells #[.string ⟨#[45]⟩] 9)).heapEq (hk1.heapEq HQ.out.2.2 (by omega)) (by omega)
  have HR:Hid (∀ z',rfD [[45]] p.adv=some z'→Calls Tryz.prog 282 #[pt P,.slice (some ⟨w1.heap.size,0,none⟩) 1 1] (w1.alloc (.cells #[.string ⟨#[45]⟩] 9)) (PoA P T (fun _ _ v=>v= .tuple #[]) (w1.alloc (.cells #[.string ⟨#[45]⟩] 9)) z')):=fun z' hz'=>refuseDeep_any (hp1.up (alB _ (.cells #[.string ⟨#[45]⟩] 9))) (SgA.new P w1 [[45]] (by simp) hp1.lt) hz'
  clear HQ HS HY hk1 hp1
  rcases bnd_some hz with⟨x,hx,rfl⟩|⟨_,q,hx,hq⟩
  ·have HC1:=HR.out _ hx
   clear HR
   go_wp2_with fail
   refine HC1.mono ?_
   rintro e w2 hpo
   obtain⟨rfl,hk⟩:=bad_panic hpo hkw
   exact⟨rfl,rfl,hk⟩
  ·have HC1:=HR.out _ hx
   clear HR
   go_wp2_with fail
   refine HC1.mono ?_
   rintro e w2 ⟨v,rfl,rfl,hp2,hk2⟩
   have hkw2:=hkw.trans hk2
   have hb3:=hb2.keep hk2
   have cb3:=hb3.2
   have hr2:=hk2.heapEq hr1 (by omega)
   have hs2:W.heap.size+1<w2.heap.size:=(Array.getElem?_eq_some_iff.1 hr2).1
   have hPC:=unC_any HI.out hb3
   clear hkw hb2 hr1 hk2 HC1 HI hz hx cb2
   rcases bnd_some hq with⟨x,hx,rfl⟩|⟨y,q2,hx,hq2⟩
   ·have HD:=deeper_any hp2 hPC hx
    clear hPC hp2 hb3 hq hx
    go_wp2_with fail
    refine HD.mono ?_
    rintro e w3 hpo
    obtain⟨rfl,hk⟩:=bad_panic hpo hkw2
    exact⟨rfl,rfl,hk⟩
   ·have HD:=deeper_any hp2 hPC hx
    cases hq2
    clear hPC hp2 hb3 hq hx
    go_wp2_with fail
    refine HD.mono ?_
    rintro e w3 ⟨v,rfl,⟨c,rfl,hx3⟩,hp3,hk3⟩
    obtain⟨b1,d1,b2,d2,hc3⟩:=hx3.form
    subst hc3
    have hr3:=hk3.heapEq hr2 (by omega)
    have hs3:W.heap.size+1<w3.heap.size:=(Array.getElem?_eq_some_iff.1 hr3).1
    have s4:(w3.alloc (.cells #[.int .i64 y.kind,.int .i64 y.num,.string (mkB y.text),.slice b1 y.kids.length d1,.slice b2 y.names.length d2] 162)).heap.size=w3.heap.size+1:=World.size_alloc _ _
    have hr5:((w3.alloc (.cells #[.int .i64 y.kind,.int .i64 y.num,.string (mkB y.text),.slice b1 y.kids.length d1,.slice b2 y.names.length d2] 162)).alloc (.cells #[.int .i64 y.kind,.int .i64 y.num,.string (mkB y.text),.slice b1 y.kids.length d1,.slice b2 y.names.length d2] 162)).heap[W.heap.size+1]? =some ez:=(heap_al _ _ _ (by omega)).trans ((heap_al _ _ _ hs3).trans hr3)
    obtain⟨y0,y1,y2,y3,y4,f0,f1,f2,f3,f4⟩:=cells5 hr5
    have gF:∀ g,g≠W.heap.size+1→g<w3.heap.size→(((w3.alloc (.cells #[.int .i64 y.kind,.int .i64 y.num,.string (mkB y.text),.slice b1 y.kids.length d1,.slice b2 y.names.length d2] 162)).alloc (.cells #[.int .i64 y.kind,.int .i64 y.num,.string (mkB y.text),.slice b1 y.kids.length d1,.slice b2 y.names.length d2] 162)).setCells (W.heap.size+1) 0 [.int .i64 13,.int .i64 0,.string ⟨#[]⟩,.slice (some ⟨w3.heap.size+1,0,none⟩) 1 1,.slice none 0 0]).heap[g]? =w3.heap[g]? :=fun g hg hg2=>(heap_sets _ [.int .i64 13,.int .i64 0,.string ⟨#[]⟩,.slice (some ⟨w3.heap.size+1,0,none⟩) 1 1,.slice none 0 0] 0 _ g hg).trans ((heap_al _ _ _ (by omega)).trans (heap_al w3 _ g hg2))
    have gT:(((w3.alloc (.cells #[.int .i64 y.kind,.int .i64 y.num,.string (mkB y.text),.slice b1 y.kids.length d1,.slice b2 y.names.length d2] 162)).alloc (.cells #[.int .i64 y.kind,.int .i64 y.num,.string (mkB y.text),.slice b1 y.kids.length d1,.slice b2 y.names.length d2] 162)).setCells (W.heap.size+1) 0 [.int .i64 13,.int .i64 0,.string ⟨#[]⟩,.slice (some ⟨w3.heap.size+1,0,none⟩) 1 1,.slice none 0 0]).heap[w3.heap.size+1]? =some (.cells #[.int .i64 y.kind,.int .i64 y.num,.string (mkB y.text),.slice b1 y.kids.length d1,.slice b2 y.names.length d2] 162):=(heap_sets _ [.int .i64 13,.int .i64 0,.string ⟨#[]⟩,.slice (some ⟨w3.heap.size+1,0,none⟩) 1 1,.slice none 0 0] 0 _ _ (by omega)).trans (by have:=heap_alloc_new (w3.alloc (.cells #[.int .i64 y.kind,.int .i64 y.num,.string (mkB y.text),.slice b1 y.kids.length d1,.slice b2 y.names.length d2] 162)) (.cells #[.int .i64 y.kind,.int .i64 y.num,.string (mkB y.text),.slice b1 y.kids.length d1,.slice b2 y.names.length d2] 162);rwa [s4]at this)
    have hl0:=(stN hr5 (c:=[.int .i64 13,.int .i64 0,.string ⟨#[]⟩,.slice (some ⟨w3.heap.size+1,0,none⟩) 1 1,.slice none 0 0]) rfl szE (by simp[Value.oneCell']) Tryz.underlying162 rfl).2
    rw[sets5]at hl0
    have HL:Hid _:=hl0
    have hyF:ExA (((w3.alloc (.cells #[.int .i64 y.kind,.int .i64 y.num,.string (mkB y.text),.slice b1 y.kids.length d1,.slice b2 y.names.length d2] 162)).alloc (.cells #[.int .i64 y.kind,.int .i64 y.num,.string (mkB y.text),.slice b1 y.kids.length d1,.slice b2 y.names.length d2] 162)).setCells (W.heap.size+1) 0 [.int .i64 13,.int .i64 0,.string ⟨#[]⟩,.slice (some ⟨w3.heap.size+1,0,none⟩) 1 1,.slice none 0 0]) (fun g=>W.heap.size≤g) y [.int .i64 y.kind,.int .i64 y.num,.string (mkB y.text),.slice b1 y.kids.length d1,.slice b2 y.names.length d2]:=hx3.keep (fun g hg hg2=>gF g (by omega) hg2) (fun g hg _=>by omega)
    have hKF:KP P W (((w3.alloc (.cells #[.int .i64 y.kind,.int .i64 y.num,.string (mkB y.text),.slice b1 y.kids.length d1,.slice b2 y.names.length d2] 162)).alloc (.cells #[.int .i64 y.kind,.int .i64 y.num,.string (mkB y.text),.slice b1 y.kids.length d1,.slice b2 y.names.length d2] 162)).setCells (W.heap.size+1) 0 [.int .i64 13,.int .i64 0,.string ⟨#[]⟩,.slice (some ⟨w3.heap.size+1,0,none⟩) 1 1,.slice none 0 0]):=(((hkw2.trans hk3).trans (KP.al P w3 _)).trans (KP.al P _ _)).sets (Nat.le_succ _) _
    have hPF:PsA P T (((w3.alloc (.cells #[.int .i64 y.kind,.int .i64 y.num,.string (mkB y.text),.slice b1 y.kids.length d1,.slice b2 y.names.length d2] 162)).alloc (.cells #[.int .i64 y.kind,.int .i64 y.num,.string (mkB y.text),.slice b1 y.kids.length d1,.slice b2 y.names.length d2] 162)).setCells (W.heap.size+1) 0 [.int .i64 13,.int .i64 0,.string ⟨#[]⟩,.slice (some ⟨w3.heap.size+1,0,none⟩) 1 1,.slice none 0 0]) q2:=hp3.keep (gF P (by omega) (by omega)) (gF T (by omega) (by omega))
    have he0:PoA P T (VE W.heap.size) W (.ok ((⟨13,0,[],[y],[]⟩:Ex),q2)) (.returned (.agg ([.int .i64 13,.int .i64 0,.string ⟨#[]⟩,.slice (some ⟨w3.heap.size+1,0,none⟩) 1 1,.slice none 0 0]).toArray)) (((w3.alloc (.cells #[.int .i64 y.kind,.int .i64 y.num,.string (mkB y.text),.slice b1 y.kids.length d1,.slice b2 y.names.length d2] 162)).alloc (.cells #[.int .i64 y.kind,.int .i64 y.num,.string (mkB y.text),.slice b1 y.kids.length d1,.slice b2 y.names.length d2] 162)).setCells (W.heap.size+1) 0 [.int .i64 13,.int .i64 0,.string ⟨#[]⟩,.slice (some ⟨w3.heap.size+1,0,none⟩) 1 1,.slice none 0 0]):=⟨_,rfl,⟨_,rfl,ExA.make (x:=⟨13,0,[],[y],[]⟩) (vs:=[[.int .i64 y.kind,.int .i64 y.num,.string (mkB y.text),.slice b1 y.kids.length d1,.slice b2 y.names.length d2]]) ⟨rfl,.inr ⟨w3.heap.size+1,1,_,rfl,Nat.zero_le _,gT,Nat.le_refl _,by decide,rfl,rfl⟩⟩ (World.ownsRow_nil _ _ _ _) (fun g hg=>ob_le hg (by omega)) (fun g hg=>by cases hg) ⟨hyF,trivial⟩⟩,hPF,hKF⟩
    rw[sets5]at he0
    have HE:Hid _:=he0
    clear hl0 he0 hx3 hp3 hk3 hr3 hs3 hr5 gF gT hyF hKF hPF hr2 hkw2 HD
    go_wp2
    refine bodyPost_ret (v:=Value.agg #[Value.int IntKind.i64 13,Value.int IntKind.i64 0,Value.string ⟨#[]⟩,Value.slice (some ⟨w3.heap.size+1,0,none⟩) 1 1,Value.slice none 0 0]) (res_one Tryz.results315 _ _ rfl HL.out) rfl HE.out
theorem unary_any {P T:Nat}{E:Ps→Px Ex}(hY:MethC P T 318 (pst E)):∀ f,MethC P T 315 (unL E f)
 |0=>fun W p z _ hz=>by cases hz
 |f+1=>unary_step hY (unary_any hY f)
end Go.Proofs.YthfgpkdbclogpaaGreatDoor
namespace Go.Proofs.YthfgpkdbclogpaaGreatDoor
open Go.RowKit Go.Shelf
attribute [local go_sem ↓] fld0 fld1 fld2 fld3
attribute [local go_sem] mk_func
theorem EV.size {w1:World}{c:List Value}:((w1.alloc ez).setCells w1.heap.size 0 c).heap.size=w1.heap.size+1:=by rw[size_sets,World.size_alloc]
theorem comparison_any {P T:Nat}{E:Ps→Px Ex}(hS:MethC P T 309 (sum E)):MethC P T 302 (cmp E):=by
 intro W p z h hz
 have hPl:=h.lt
 have hTl:=h.ltT
 obtain⟨h0,hk0,hb0,hr0,s0⟩:=bg_facts h
 have cb:(bgW P W).cell? ⟨W.heap.size,0,none⟩=some (pt P):=hb0.2
 have HQ:Hid (KP P W (bgW P W)∧BoxA P W.heap.size (bgW P W)∧(bgW P W).heap[W.heap.size+1]? =some ez):=⟨hk0,hb0,hr0⟩
 have HY:Hid (MethC P T 309 (sum E)):=hS
 have HC:Hid (∀ z',sum E p=some z'→Calls Tryz.prog 309 #[pt P] (bgW P W) (PoA P T (VE (W.heap.size+1+1)) (bgW P W) z')):=fun z' hz'=>by
  have:=hS (bgW P W) p z' h0 hz'
  rwa [s0]at this
 clear h hk0 hb0 hr0 s0 h0 hS
 unfold bgW at *
 rcases bnd_some hz with⟨x,hx,rfl⟩|⟨x,q,hx,hq⟩
 ·have HC1:=HC.out _ hx
  clear HC
  go_enter Tryz.func302,Tryz.ntmps302
  go_wp2_with fail
  refine HC1.mono ?_
  rintro e w1 hpo
  obtain⟨rfl,hk⟩:=bad_panic hpo HQ.out.1
  exact⟨rfl,rfl,hk⟩
 ·have HC1:=HC.out _ hx
  clear HC
  go_enter Tryz.func302,Tryz.ntmps302
  go_wp2_with fail
  refine HC1.mono ?_
  rintro e w1 ⟨v,rfl,⟨c,rfl,hx1⟩,hp1,hk1⟩
  have hr1:=hk1.heapEq HQ.out.2.2 (by omega)
  have hs1:W.heap.size+1<w1.heap.size:=(Array.getElem?_eq_some_iff.1 hr1).1
  have hkw:=HQ.out.1.trans hk1
  obtain⟨t1,r1,x1,g1⟩:=var5 hx1
  obtain⟨-,i1,o1,-,j1⟩:=fin5 hr1 rfl hx1
  have HF:Hid ((w1.alloc ez).there w1.heap.size 0 c.toArray.size∧(Tryz.prog.info? 162).map (·.size)=some c.toArray.size∧c.toArray.all (·.oneCell')=true):=⟨t1,i1,o1⟩
  have hA:PsA P T ((w1.alloc ez).setCells w1.heap.size 0 c) q:=hp1.keep (g1 P (by omega)) (g1 T (by omega))
  have kA0:KP P w1 ((w1.alloc ez).setCells w1.heap.size 0 c):=(KP.al P w1 ez).sets (by omega) c
  have kA:KP P W ((w1.alloc ez).setCells w1.heap.size 0 c):=hkw.trans kA0
  have bA:BoxA P W.heap.size ((w1.alloc ez).setCells w1.heap.size 0 c):=(HQ.out.2.1.keep hk1).keep kA0
  have cbA:=bA.2
  have eA:EV ((w1.alloc ez).setCells w1.heap.size 0 c) w1.heap.size c:=EV.new hx1.len
  have rA:((w1.alloc ez).setCells w1.heap.size 0 c).heap[W.heap.size+1]? =some ez:=(g1 _ hs1).trans hr1
  have hs:=KP.al P ((w1.alloc ez).setCells w1.heap.size 0 c) (.cells #[.string ⟨#[61,61]⟩,.string ⟨#[33,61]⟩,.string ⟨#[60]⟩,.string ⟨#[60,61]⟩,.string ⟨#[105,110]⟩] 9)
  have HS:Calls Tryz.prog 215 #[pt P,.slice (some ⟨((w1.alloc ez).setCells w1.heap.size 0 c).heap.size,0,none⟩) 5 5] (((w1.alloc ez).setCells w1.heap.size 0 c).alloc (.cells #[.string ⟨#[61,61]⟩,.string ⟨#[33,61]⟩,.string ⟨#[60]⟩,.string ⟨#[60,61]⟩,.string ⟨#[105,110]⟩] 9)) fun e w'=>e= .returned (.bool (q.sees [[61,61],[33,61],[60],[60,61],[105,110]]))∧KP P ((w1.alloc ez).setCells w1.heap.size 0 c) w'∧PsA P T w' q:=by
   have hA2:=hA.up (alB ((w1.alloc ez).setCells w1.heap.size 0 c) (.cells #[.string ⟨#[61,61]⟩,.string ⟨#[33,61]⟩,.string ⟨#[60]⟩,.string ⟨#[60,61]⟩,.string ⟨#[105,110]⟩] 9))
   have:=seesSign_any hA2 (SgA.new P ((w1.alloc ez).setCells w1.heap.size 0 c) [[61,61],[33,61],[60],[60,61],[105,110]] (by simp) hA.lt)
   exact this.mono fun e w' ⟨a,b⟩=>⟨a,hs.trans (KP.of_below b),hA2.up b⟩
  have HA:Hid (KP P W ((w1.alloc ez).setCells w1.heap.size 0 c)∧BoxA P W.heap.size ((w1.alloc ez).setCells w1.heap.size 0 c)∧EV ((w1.alloc ez).setCells w1.heap.size 0 c) w1.heap.size c∧((w1.alloc ez).setCells w1.heap.size 0 c).heap[W.heap.size+1]? =some ez∧ExA ((w1.alloc ez).setCells w1.heap.size 0 c) (fun g=>W.heap.size+1+1≤g∧g<w1.heap.size) x c):=⟨kA,bA,eA,rA,x1⟩
  clear t1 r1 x1 g1 i1 o1 j1 hkw hr1 hk1 hp1 hx1 HC1 hA kA0 kA bA eA rA hs HQ hx hz
  go_wp2_with (first
   |(refine wpList_store_mid rfl 162 (Operand.tmp 3) (Operand.tmp 5) rfl w1.heap.size 0 c.toArray rfl rfl HF.out.1 HF.out.2.1 HF.out.2.2 ?_)
   |fail)
  refine HS.mono ?_
  rintro e w2 ⟨rfl,hk2,hp2⟩
  have hkw2:=HA.out.1.trans hk2
  have hb2:=HA.out.2.1.keep hk2
  have cb2:=hb2.2
  have hev2:EV w2 w1.heap.size c:=HA.out.2.2.1.keep (hk2.blk _ HA.out.2.2.1.lt (by omega))
  have hr2:=hk2.heapEq HA.out.2.2.2.1 (by omega)
  have hx2:ExA w2 (fun g=>W.heap.size+1+1≤g∧g≠w1.heap.size) x c:=HA.out.2.2.2.2.keep (fun g hg hg2=>hk2.blk g hg2 (by omega)) (fun g hg _=>⟨hg.1,by omega⟩)
  have hs2:w1.heap.size<w2.heap.size:=hev2.lt
  obtain⟨t2,i2,o2,l2,j2⟩:=fin5 hr2 rfl hx2
  clear HS HA HF
  replace hq:(bif q.sees [[61,61],[33,61],[60],[60,61],[105,110]]then bnd (sum E q.adv) fun y r=>ok ⟨14,0,q.nx.text,[x,y],[]⟩ r else ok x q)=some z:=hq
  cases hb:q.sees [[61,61],[33,61],[60],[60,61],[105,110]]with
  |false=>
   rw[hb]at hq
   cases hq
   have HE:Hid (PoA P T (VE W.heap.size) W (.ok (x,q)) (.returned (.agg c.toArray)) (w2.setCells (W.heap.size+1) 0 c)):=poE_fin2 (by omega) hx2 (fun g hg=>⟨by omega,by omega⟩) hp2 hkw2 hPl hTl
   have HF:Hid (w2.rangeAt w1.heap.size 0 c∧(Tryz.prog.info? 162).map (·.size)=some c.length∧w2.there (W.heap.size+1) 0 c.toArray.size∧(Tryz.prog.info? 162).map (·.size)=some c.toArray.size∧c.toArray.all (·.oneCell')=true∧(loadVar 162 ⟨W.heap.size+1,0,none⟩).run Tryz.prog (w2.setCells (W.heap.size+1) 0 c)= .ok (.agg c.toArray) (w2.setCells (W.heap.size+1) 0 c)):=⟨hev2.2,j2,t2,i2,o2,l2⟩
   clear t2 i2 o2 l2 j2 hx2 hr2 hev2 hkw2 hp2 hk2 hb2
   go_wp2_with (first
    |(refine wpList_load_mid rfl 162 (Operand.tmp 3) rfl w1.heap.size 0 rfl c _ HF.out.1 Tryz.underlying162 rfl HF.out.2.1 ?_)
    |(refine wpList_store_mid rfl 162 (Operand.tmp 2) (Operand.tmp 13) rfl (W.heap.size+1) 0 c.toArray rfl rfl HF.out.2.2.1 HF.out.2.2.2.1 HF.out.2.2.2.2.1 ?_)
    |fail)
   refine bodyPost_ret (v:= .agg c.toArray) (res_one Tryz.results302 _ _ rfl HF.out.2.2.2.2.2) rfl HE.out
  |true=>
   rw[hb]at hq
   replace hq:(bnd (sum E q.adv) fun y r=>ok ⟨14,0,q.nx.text,[x,y],[]⟩ r)=some z:=hq
   have HP:=pair_any hp2 (cmC_any HY.out hb2) hb hx2 (fun g hg=>by omega) hq
   have HF:Hid (w2.rangeAt w1.heap.size 0 c∧(Tryz.prog.info? 162).map (·.size)=some c.length):=⟨hev2.2,j2⟩
   have HH:Hid (w2.heap[W.heap.size+1]? =some ez∧KP P W w2):=⟨hr2,hkw2⟩
   clear t2 i2 o2 l2 j2 hx2 hr2 hev2 hkw2 hp2 hk2 hb2 hq
   go_wp2_with (first
    |(refine wpList_load_mid rfl 162 (Operand.tmp 3) rfl w1.heap.size 0 rfl c _ HF.out.1 Tryz.underlying162 rfl HF.out.2 ?_)
    |fail)
   refine HP.mono ?_
   rintro e w3 hpo
   cases z with
   |error y=>
    obtain⟨rfl,hk3⟩:=bad_panic hpo HH.out.2
    exact⟨rfl,rfl,hk3⟩
   |ok r=>
    obtain⟨y,q3⟩:=r
    obtain⟨v3,rfl,⟨c3,rfl,hx3⟩,hp3,hk3⟩:=hpo
    have hr3:=hk3.heapEq HH.out.1 (by omega)
    obtain⟨t3,i3,o3,l3,j3⟩:=fin5 hr3 rfl hx3
    have HE:Hid (PoA P T (VE W.heap.size) W (.ok (y,q3)) (.returned (.agg c3.toArray)) (w3.setCells (W.heap.size+1) 0 c3)):=poE_fin2 (by omega) hx3 (fun g hg=>by rcases hg with hg|hg<;>exact⟨by omega,by omega⟩) hp3 (HH.out.2.trans hk3) hPl hTl
    have HG:Hid (w3.there (W.heap.size+1) 0 c3.toArray.size∧(Tryz.prog.info? 162).map (·.size)=some c3.toArray.size∧c3.toArray.all (·.oneCell')=true∧(loadVar 162 ⟨W.heap.size+1,0,none⟩).run Tryz.prog (w3.setCells (W.heap.size+1) 0 c3)= .ok (.agg c3.toArray) (w3.setCells (W.heap.size+1) 0 c3)):=⟨t3,i3,o3,l3⟩
    clear t3 i3 o3 l3 j3 hr3 hx3 hp3 hk3 HP HH HF
    go_wp2_with (first
     |(refine wpList_store_mid rfl 162 (Operand.tmp 2) (Operand.tmp 12) rfl (W.heap.size+1) 0 c3.toArray rfl rfl HG.out.1 HG.out.2.1 HG.out.2.2.1 ?_)
     |fail)
    refine bodyPost_ret (v:= .agg c3.toArray) (res_one Tryz.results302 _ _ rfl HG.out.2.2.2) rfl HE.out
end Go.Proofs.YthfgpkdbclogpaaGreatDoor
