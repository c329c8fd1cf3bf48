/- 26. -/
import Derived.Test.YthfgpkdbclogpaaGreatDoorChecked
import Derived.WalkKit
import Derived.Orders
import Derived.Test.YthfgpkdbclogpaaGreatDoorTx25
set_option maxHeartbeats 40000000
set_option maxRecDepth 100000
namespace Go.Proofs.YthfgpkdbclogpaaGreatDoor
open Go.RowKit Go.Shelf
attribute [local go_sem ↓] fld0 fld1 fld2 fld3
theorem passSign_no {P T:Nat}{w:World}{p:Ps}(h:PsA P T w p){x:List UInt8}(hb:p.sees [x]=false):
  Calls Tryz.prog 249 #[pt P,.string (mkB x)] w fun e w'=>e= .returned (.bool false)∧KP P w w'∧PsA P T w' p:=by
 have:=passSign_any h x
 rwa [hb]at this
theorem passSign_yes {P T:Nat}{w:World}{p:Ps}(h:PsA P T w p){x:List UInt8}(hb:p.sees [x]=true):
  Calls Tryz.prog 249 #[pt P,.string (mkB x)] w fun e w'=>e= .returned (.bool true)∧KP P w w'∧PsA P T w' p.adv:=by
 have:=passSign_any h x
 rwa [hb]at this
theorem leaf_fin {P T:Nat}{W w1:World}(hPl:P<W.heap.size)(hTl:T<W.heap.size)(hr:w1.heap[W.heap.size]? =some ez){q:Ps}(hp:PsA P T w1 q)(hk:KP P W w1)(k n:Nat)(t:List UInt8):
  PoA P T (VE W.heap.size) W (.ok ((⟨k,n,t,[],[]⟩:Ex),q)) (.returned (.agg #[.int .i64 k,.int .i64 n,.string (mkB t),.slice none 0 0,.slice none 0 0])) (w1.setCells W.heap.size 0 [.int .i64 k,.int .i64 n,.string (mkB t),.slice none 0 0,.slice none 0 0])∧
  (loadVar 162 ⟨W.heap.size,0,none⟩).run Tryz.prog (w1.setCells W.heap.size 0 [.int .i64 k,.int .i64 n,.string (mkB t),.slice none 0 0,.slice none 0 0])= .ok (.agg #[.int .i64 k,.int .i64 n,.string (mkB t),.slice none 0 0,.slice none 0 0]) (w1.setCells W.heap.size 0 [.int .i64 k,.int .i64 n,.string (mkB t),.slice none 0 0,.slice none 0 0]):=by
 refine⟨⟨_,rfl,⟨_,rfl,ExA.leaf k n t⟩,hp.sets hPl hTl _,hk.sets (Nat.le_refl _) _⟩,(stN hr (c:=[.int .i64 k,.int .i64 n,.string (mkB t),.slice none 0 0,.slice none 0 0]) rfl szE (by simp[Value.oneCell']) Tryz.underlying162 rfl).2⟩
set_option linter.unusedSimpArgs false in
theorem signAtom_any {P T:Nat}{E:Ps→Px Ex}(hE:MethC P T 247 E)(hL:MethC P T 324 (lst [93] (liE E) ⟨7,0,[],[],[]⟩))(hDi:MethC P T 325 (lst [125] (diE E) ⟨8,0,[],[],[]⟩)):MethC P T 322 (sgA E):=by
 intro W p z h hz
 have hPl:=h.lt
 have hTl:=h.ltT
 have h0:=h.up (alB W ez)
 have hk0:=KP.al P W ez
 have hr0:=heap_alloc_new W ez
 have HE:Hid (MethC P T 247 E):=hE
 have HLi:Hid (MethC P T 324 (lst [93] (liE E) ⟨7,0,[],[],[]⟩)):=hL
 have HDi:Hid (MethC P T 325 (lst [125] (diE E) ⟨8,0,[],[],[]⟩)):=hDi
 unfold sgA at hz
 clear hE hL hDi h
 cases hb0:p.sees [[84,114,117,101]]with
 |true=>
  simp only[hb0,cond_true,cond_false]at hz
  cases hz
  go_enter Tryz.func322,Tryz.ntmps322
  go_wp2_with fail
  refine(passSign_yes h0 (x:=[84,114,117,101]) hb0).mono ?_
  rintro e w1 ⟨rfl,hj1,h1⟩
  have hk1:=hk0.trans hj1
  have hr1:=hj1.heapEq hr0 (by omega)
  clear h0 hj1 hr0 hk0
  have HZ:Hid _:=leaf_fin hPl hTl hr1 h1 hk1 2 0 []
  obtain⟨y0,y1,y2,y3,y4,f0,f1,f2,f3,f4⟩:=cells5 hr1
  clear h1 hk1 hr1 HE HLi HDi
  go_wp2
  refine bodyPost_ret (v:=Value.agg #[Value.int IntKind.i64 2,Value.int IntKind.i64 0,Value.string ⟨#[]⟩,Value.slice none 0 0,Value.slice none 0 0]) (res_one Tryz.results322 _ _ rfl HZ.out.2) rfl HZ.out.1
 |false=>
 cases hb1:p.sees [[70,97,108,115,101]]with
 |true=>
  simp only[hb1,hb0,cond_true,cond_false]at hz
  cases hz
  go_enter Tryz.func322,Tryz.ntmps322
  go_wp2_with fail
  refine(passSign_no h0 (x:=[84,114,117,101]) hb0).mono ?_
  rintro e w1 ⟨rfl,hj1,h1⟩
  have hk1:=hk0.trans hj1
  have hr1:=hj1.heapEq hr0 (by omega)
  clear h0 hj1 hr0 hk0
  go_wp2_with fail
  refine(passSign_yes h1 (x:=[70,97,108,115,101]) hb1).mono ?_
  rintro e w2 ⟨rfl,hj2,h2⟩
  have hk2:=hk1.trans hj2
  have hr2:=hj2.heapEq hr1 (by omega)
  clear h1 hj2 hr1 hk1
  have HZ:Hid _:=leaf_fin hPl hTl hr2 h2 hk2 3 0 []
  obtain⟨y0,y1,y2,y3,y4,f0,f1,f2,f3,f4⟩:=cells5 hr2
  clear h2 hk2 hr2 HE HLi HDi
  go_wp2
  refine bodyPost_ret (v:=Value.agg #[Value.int IntKind.i64 3,Value.int IntKind.i64 0,Value.string ⟨#[]⟩,Value.slice none 0 0,Value.slice none 0 0]) (res_one Tryz.results322 _ _ rfl HZ.out.2) rfl HZ.out.1
 |false=>
 cases hb2:p.sees [[78,111,110,101]]with
 |true=>
  simp only[hb2,hb0,hb1,cond_true,cond_false]at hz
  cases hz
  go_enter Tryz.func322,Tryz.ntmps322
  go_wp2_with fail
  refine(passSign_no h0 (x:=[84,114,117,101]) hb0).mono ?_
  rintro e w1 ⟨rfl,hj1,h1⟩
  have hk1:=hk0.trans hj1
  have hr1:=hj1.heapEq hr0 (by omega)
  clear h0 hj1 hr0 hk0
  go_wp2_with fail
  refine(passSign_no h1 (x:=[70,97,108,115,101]) hb1).mono ?_
  rintro e w2 ⟨rfl,hj2,h2⟩
  have hk2:=hk1.trans hj2
  have hr2:=hj2.heapEq hr1 (by omega)
  clear h1 hj2 hr1 hk1
  go_wp2_with fail
  refine(passSign_yes h2 (x:=[78,111,110,101]) hb2).mono ?_
  rintro e w3 ⟨rfl,hj3,h3⟩
  have hk3:=hk2.trans hj3
  have hr3:=hj3.heapEq hr2 (by omega)
  clear h2 hj3 hr2 hk2
  have HZ:Hid _:=leaf_fin hPl hTl hr3 h3 hk3 1 0 []
  obtain⟨y0,y1,y2,y3,y4,f0,f1,f2,f3,f4⟩:=cells5 hr3
  clear h3 hk3 hr3 HE HLi HDi
  go_wp2
  refine bodyPost_ret (v:=Value.agg #[Value.int IntKind.i64 1,Value.int IntKind.i64 0,Value.string ⟨#[]⟩,Value.slice none 0 0,Value.slice none 0 0]) (res_one Tryz.results322 _ _ rfl HZ.out.2) rfl HZ.out.1
 |false=>
 cases hb3:p.sees [[91]]with
 |true=>
  simp only[hb3,hb0,hb1,hb2,cond_true,cond_false]at hz
  go_enter Tryz.func322,Tryz.ntmps322
  go_wp2_with fail
  refine(passSign_no h0 (x:=[84,114,117,101]) hb0).mono ?_
  rintro e w1 ⟨rfl,hj1,h1⟩
  have hk1:=hk0.trans hj1
  have hr1:=hj1.heapEq hr0 (by omega)
  clear h0 hj1 hr0 hk0
  go_wp2_with fail
  refine(passSign_no h1 (x:=[70,97,108,115,101]) hb1).mono ?_
  rintro e w2 ⟨rfl,hj2,h2⟩
  have hk2:=hk1.trans hj2
  have hr2:=hj2.heapEq hr1 (by omega)
  clear h1 hj2 hr1 hk1
  go_wp2_with fail
  refine(passSign_no h2 (x:=[78,111,110,101]) hb2).mono ?_
  rintro e w3 ⟨rfl,hj3,h3⟩
  have hk3:=hk2.trans hj3
  have hr3:=hj3.heapEq hr2 (by omega)
  clear h2 hj3 hr2 hk2
  go_wp2_with fail
  refine(passSign_yes h3 (x:=[91]) hb3).mono ?_
  rintro e w4 ⟨rfl,hj4,h4⟩
  have hk4:=hk3.trans hj4
  have hr4:=hj4.heapEq hr3 (by omega)
  clear h3 hj4 hr3 hk3
  have HD:=HLi.out w4 _ z h4 hz
  have hs4:W.heap.size<w4.heap.size:=(Array.getElem?_eq_some_iff.1 hr4).1
  clear HE HLi HDi hz
  go_wp2_with fail
  refine HD.mono ?_
  rintro e v1 hpo
  cases z with
  |error x=>
   obtain⟨rfl,hk⟩:=bad_panic hpo hk4
   exact⟨rfl,rfl,hk⟩
  |ok r=>
   obtain⟨x,q⟩:=r
   obtain⟨v,rfl,⟨c,rfl,hx1⟩,hp1,hj1⟩:=hpo
   have hr2:=hj1.heapEq hr4 (by omega)
   obtain⟨t2,i2,o2,l2,j2⟩:=fin5 hr2 rfl hx1
   have HZ:Hid (PoA P T (VE W.heap.size) W (.ok (x,q)) (.returned (.agg c.toArray)) (v1.setCells W.heap.size 0 c)):=poE_fin (by omega) hs4 hx1 hp1 (hk4.trans hj1) hPl hTl
   have HF:Hid (v1.there W.heap.size 0 c.toArray.size∧(Tryz.prog.info? 162).map (·.size)=some c.toArray.size∧c.toArray.all (·.oneCell')=true∧(loadVar 162 ⟨W.heap.size,0,none⟩).run Tryz.prog (v1.setCells W.heap.size 0 c)= .ok (.agg c.toArray) (v1.setCells W.heap.size 0 c)):=⟨t2,i2,o2,l2⟩
   clear t2 i2 o2 l2 j2 hx1 hp1 hj1 hr4 hr2 hk4 HD
   go_wp2_with (first
    |(refine wpList_store_mid rfl 162 (Operand.tmp 2) (Operand.tmp 20) rfl W.heap.size 0 c.toArray rfl rfl HF.out.1 HF.out.2.1 HF.out.2.2.1 ?_)
    |fail)
   refine bodyPost_ret (v:= .agg c.toArray) (res_one Tryz.results322 _ _ rfl HF.out.2.2.2) rfl HZ.out
 |false=>
 cases hb4:p.sees [[123]]with
 |true=>
  simp only[hb4,hb0,hb1,hb2,hb3,cond_true,cond_false]at hz
  go_enter Tryz.func322,Tryz.ntmps322
  go_wp2_with fail
  refine(passSign_no h0 (x:=[84,114,117,101]) hb0).mono ?_
  rintro e w1 ⟨rfl,hj1,h1⟩
  have hk1:=hk0.trans hj1
  have hr1:=hj1.heapEq hr0 (by omega)
  clear h0 hj1 hr0 hk0
  go_wp2_with fail
  refine(passSign_no h1 (x:=[70,97,108,115,101]) hb1).mono ?_
  rintro e w2 ⟨rfl,hj2,h2⟩
  have hk2:=hk1.trans hj2
  have hr2:=hj2.heapEq hr1 (by omega)
  clear h1 hj2 hr1 hk1
  go_wp2_with fail
  refine(passSign_no h2 (x:=[78,111,110,101]) hb2).mono ?_
  rintro e w3 ⟨rfl,hj3,h3⟩
  have hk3:=hk2.trans hj3
  have hr3:=hj3.heapEq hr2 (by omega)
  clear h2 hj3 hr2 hk2
  go_wp2_with fail
  refine(passSign_no h3 (x:=[91]) hb3).mono ?_
  rintro e w4 ⟨rfl,hj4,h4⟩
  have hk4:=hk3.trans hj4
  have hr4:=hj4.heapEq hr3 (by omega)
  clear h3 hj4 hr3 hk3
  go_wp2_with fail
  refine(passSign_yes h4 (x:=[123]) hb4).mono ?_
  rintro e w5 ⟨rfl,hj5,h5⟩
  have hk5:=hk4.trans hj5
  have hr5:=hj5.heapEq hr4 (by omega)
  clear h4 hj5 hr4 hk4
  have HD:=HDi.out w5 _ z h5 hz
  have hs5:W.heap.size<w5.heap.size:=(Array.getElem?_eq_some_iff.1 hr5).1
  clear HE HLi HDi hz
  go_wp2_with fail
  refine HD.mono ?_
  rintro e v1 hpo
  cases z with
  |error x=>
   obtain⟨rfl,hk⟩:=bad_panic hpo hk5
   exact⟨rfl,rfl,hk⟩
  |ok r=>
   obtain⟨x,q⟩:=r
   obtain⟨v,rfl,⟨c,rfl,hx1⟩,hp1,hj1⟩:=hpo
   have hr2:=hj1.heapEq hr5 (by omega)
   obtain⟨t2,i2,o2,l2,j2⟩:=fin5 hr2 rfl hx1
   have HZ:Hid (PoA P T (VE W.heap.size) W (.ok (x,q)) (.returned (.agg c.toArray)) (v1.setCells W.heap.size 0 c)):=poE_fin (by omega) hs5 hx1 hp1 (hk5.trans hj1) hPl hTl
   have HF:Hid (v1.there W.heap.size 0 c.toArray.size∧(Tryz.prog.info? 162).map (·.size)=some c.toArray.size∧c.toArray.all (·.oneCell')=true∧(loadVar 162 ⟨W.heap.size,0,none⟩).run Tryz.prog (v1.setCells W.heap.size 0 c)= .ok (.agg c.toArray) (v1.setCells W.heap.size 0 c)):=⟨t2,i2,o2,l2⟩
   clear t2 i2 o2 l2 j2 hx1 hp1 hj1 hr5 hr2 hk5 HD
   go_wp2_with (first
    |(refine wpList_store_mid rfl 162 (Operand.tmp 2) (Operand.tmp 25) rfl W.heap.size 0 c.toArray rfl rfl HF.out.1 HF.out.2.1 HF.out.2.2.1 ?_)
    |fail)
   refine bodyPost_ret (v:= .agg c.toArray) (res_one Tryz.results322 _ _ rfl HF.out.2.2.2) rfl HZ.out
 |false=>
 simp only[hb0,hb1,hb2,hb3,hb4,cond_false]at hz
 rcases bnd_some hz with⟨x,hx,rfl⟩|⟨_,q,hx,hz2⟩
 ·go_enter Tryz.func322,Tryz.ntmps322
  go_wp2_with fail
  refine(passSign_no h0 (x:=[84,114,117,101]) hb0).mono ?_
  rintro e w1 ⟨rfl,hj1,h1⟩
  have hk1:=hk0.trans hj1
  have hr1:=hj1.heapEq hr0 (by omega)
  clear h0 hj1 hr0 hk0
  go_wp2_with fail
  refine(passSign_no h1 (x:=[70,97,108,115,101]) hb1).mono ?_
  rintro e w2 ⟨rfl,hj2,h2⟩
  have hk2:=hk1.trans hj2
  have hr2:=hj2.heapEq hr1 (by omega)
  clear h1 hj2 hr1 hk1
  go_wp2_with fail
  refine(passSign_no h2 (x:=[78,111,110,101]) hb2).mono ?_
  rintro e w3 ⟨rfl,hj3,h3⟩
  have hk3:=hk2.trans hj3
  have hr3:=hj3.heapEq hr2 (by omega)
  clear h2 hj3 hr2 hk2
  go_wp2_with fail
  refine(passSign_no h3 (x:=[91]) hb3).mono ?_
  rintro e w4 ⟨rfl,hj4,h4⟩
  have hk4:=hk3.trans hj4
  have hr4:=hj4.heapEq hr3 (by omega)
  clear h3 hj4 hr3 hk3
  go_wp2_with fail
  refine(passSign_no h4 (x:=[123]) hb4).mono ?_
  rintro e w5 ⟨rfl,hj5,h5⟩
  have hk5:=hk4.trans hj5
  have hr5:=hj5.heapEq hr4 (by omega)
  clear h4 hj5 hr4 hk4
  have HT:=takeSign_any h5 [40] hx
  go_wp2_with fail
  refine HT.mono ?_
  rintro e v1 hpo
  obtain⟨rfl,hk⟩:=bad_panic hpo hk5
  exact⟨rfl,rfl,hk⟩
 ·go_enter Tryz.func322,Tryz.ntmps322
  go_wp2_with fail
  refine(passSign_no h0 (x:=[84,114,117,101]) hb0).mono ?_
  rintro e w1 ⟨rfl,hj1,h1⟩
  have hk1:=hk0.trans hj1
  have hr1:=hj1.heapEq hr0 (by omega)
  clear h0 hj1 hr0 hk0
  go_wp2_with fail
  refine(passSign_no h1 (x:=[70,97,108,115,101]) hb1).mono ?_
  rintro e w2 ⟨rfl,hj2,h2⟩
  have hk2:=hk1.trans hj2
  have hr2:=hj2.heapEq hr1 (by omega)
  clear h1 hj2 hr1 hk1
  go_wp2_with fail
  refine(passSign_no h2 (x:=[78,111,110,101]) hb2).mono ?_
  rintro e w3 ⟨rfl,hj3,h3⟩
  have hk3:=hk2.trans hj3
  have hr3:=hj3.heapEq hr2 (by omega)
  clear h2 hj3 hr2 hk2
  go_wp2_with fail
  refine(passSign_no h3 (x:=[91]) hb3).mono ?_
  rintro e w4 ⟨rfl,hj4,h4⟩
  have hk4:=hk3.trans hj4
  have hr4:=hj4.heapEq hr3 (by omega)
  clear h3 hj4 hr3 hk3
  go_wp2_with fail
  refine(passSign_no h4 (x:=[123]) hb4).mono ?_
  rintro e w5 ⟨rfl,hj5,h5⟩
  have hk5:=hk4.trans hj5
  have hr5:=hj5.heapEq hr4 (by omega)
  clear h4 hj5 hr4 hk4
  have HT:=takeSign_any h5 [40] hx
  go_wp2_with fail
  refine HT.mono ?_
  rintro e w6 ⟨v,rfl,rfl,h6,hj6⟩
  have hk6:=hk5.trans hj6
  have hr6:=hj6.heapEq hr5 (by omega)
  have hs6:W.heap.size<w6.heap.size:=(Array.getElem?_eq_some_iff.1 hr6).1
  clear h5 hj6 hr5 hk5 HT hz hx
  rcases bnd_some hz2 with⟨x,hx,rfl⟩|⟨x,q2,hx,hz3⟩
  ·have HD:=HE.out w6 _ _ h6 hx
   go_wp2_with fail
   refine HD.mono ?_
   rintro e v1 hpo
   obtain⟨rfl,hk⟩:=bad_panic hpo hk6
   exact⟨rfl,rfl,hk⟩
  ·have HD:=HE.out w6 _ _ h6 hx
   go_wp2_with fail
   refine HD.mono ?_
   rintro e w7 ⟨v,rfl,⟨c,rfl,hx7⟩,h7,hj7⟩
   have hk7:=hk6.trans hj7
   have hr7:=hj7.heapEq hr6 (by omega)
   have hs7:W.heap.size<w7.heap.size:=(Array.getElem?_eq_some_iff.1 hr7).1
   obtain⟨t1,r1,x1,g1⟩:=var5 hx7
   obtain⟨-,i1,o1,-,j1⟩:=fin5 hr7 rfl hx7
   have HF:Hid ((w7.alloc ez).there w7.heap.size 0 c.toArray.size∧(Tryz.prog.info? 162).map (·.size)=some c.toArray.size∧c.toArray.all (·.oneCell')=true):=⟨t1,i1,o1⟩
   have hA:PsA P T ((w7.alloc ez).setCells w7.heap.size 0 c) q2:=h7.keep (g1 P (by omega)) (g1 T (by omega))
   have kA:KP P W ((w7.alloc ez).setCells w7.heap.size 0 c):=hk7.trans ((KP.al P w7 ez).sets (by omega) c)
   have eA:EV ((w7.alloc ez).setCells w7.heap.size 0 c) w7.heap.size c:=EV.new hx7.len
   have rA:((w7.alloc ez).setCells w7.heap.size 0 c).heap[W.heap.size]? =some ez:=(g1 _ hs7).trans hr7
   have HA:Hid (KP P W ((w7.alloc ez).setCells w7.heap.size 0 c)∧EV ((w7.alloc ez).setCells w7.heap.size 0 c) w7.heap.size c∧((w7.alloc ez).setCells w7.heap.size 0 c).heap[W.heap.size]? =some ez∧ExA ((w7.alloc ez).setCells w7.heap.size 0 c) (fun g=>w6.heap.size≤g∧g<w7.heap.size) x c):=⟨kA,eA,rA,x1⟩
   clear t1 r1 x1 g1 i1 o1 j1 hk7 hr7 hj7 h7 hx7 HD kA eA rA hx hz2 hk6 hr6 h6 HE HLi HDi
   rcases bnd_some hz3 with⟨y,hy,rfl⟩|⟨_,q3,hy,hz4⟩
   ·have HT:=takeSign_any hA [41] hy
    clear hA
    go_wp2_with (first
     |(refine wpList_store_mid rfl 162 (Operand.tmp 3) (Operand.tmp 29) rfl w7.heap.size 0 c.toArray rfl rfl HF.out.1 HF.out.2.1 HF.out.2.2 ?_)
     |fail)
    refine HT.mono ?_
    rintro e v1 hpo
    obtain⟨rfl,hk⟩:=bad_panic hpo HA.out.1
    exact⟨rfl,rfl,hk⟩
   ·have HT:=takeSign_any hA [41] hy
    cases hz4
    clear hA
    go_wp2_with (first
     |(refine wpList_store_mid rfl 162 (Operand.tmp 3) (Operand.tmp 29) rfl w7.heap.size 0 c.toArray rfl rfl HF.out.1 HF.out.2.1 HF.out.2.2 ?_)
     |fail)
    refine HT.mono ?_
    rintro e w8 ⟨v,rfl,rfl,h8,hj8⟩
    have hev8:EV w8 w7.heap.size c:=HA.out.2.1.keep (hj8.blk _ HA.out.2.1.lt (by omega))
    have hr8:=hj8.heapEq HA.out.2.2.1 (by omega)
    have hx8:ExA w8 (fun g=>w6.heap.size≤g∧g<w7.heap.size) x c:=HA.out.2.2.2.keep (fun g hg hg2=>hj8.blk g hg2 (by omega)) (fun g hg _=>hg)
    obtain⟨t2,i2,o2,l2,j2⟩:=fin5 hr8 rfl hx8
    have HZ:Hid (PoA P T (VE W.heap.size) W (.ok (x,q3)) (.returned (.agg c.toArray)) (w8.setCells W.heap.size 0 c)):=poE_fin2 (Nat.le_refl _) hx8 (fun g hg=>⟨by omega,by omega⟩) h8 (HA.out.1.trans hj8) hPl hTl
    have HG:Hid (w8.rangeAt w7.heap.size 0 c∧(Tryz.prog.info? 162).map (·.size)=some c.length∧w8.there W.heap.size 0 c.toArray.size∧(Tryz.prog.info? 162).map (·.size)=some c.toArray.size∧c.toArray.all (·.oneCell')=true∧(loadVar 162 ⟨W.heap.size,0,none⟩).run Tryz.prog (w8.setCells W.heap.size 0 c)= .ok (.agg c.toArray) (w8.setCells W.heap.size 0 c)):=⟨hev8.2,j2,t2,i2,o2,l2⟩
    clear t2 i2 o2 l2 j2 hx8 hr8 hev8 h8 hj8 HA HF HT
    go_wp2_with (first
     |(refine wpList_load_mid rfl 162 (Operand.tmp 3) rfl w7.heap.size 0 rfl c _ HG.out.1 Tryz.underlying162 rfl HG.out.2.1 ?_)
     |(refine wpList_store_mid rfl 162 (Operand.tmp 2) (Operand.tmp 32) rfl W.heap.size 0 c.toArray rfl rfl HG.out.2.2.1 HG.out.2.2.2.1 HG.out.2.2.2.2.1 ?_)
     |fail)
    refine bodyPost_ret (v:= .agg c.toArray) (res_one Tryz.results322 _ _ rfl HG.out.2.2.2.2.2) rfl HZ.out
set_option linter.unusedSimpArgs false in
theorem atom_any {P T:Nat}{E:Ps→Px Ex}(hS:MethC P T 322 (sgA E)):MethC P T 320 (atm E):=by
 intro W p z h hz
 have hPl:=h.lt
 have hTl:=h.ltT
 have h0:=h.up (alB W ez)
 have hk0:=KP.al P W ez
 have hr0:=heap_alloc_new W ez
 have HN:=next_any h0
 have HY:Hid (MethC P T 322 (sgA E)):=hS
 have hq1:(((p.nx.kind:Nat):Int)==(1:Int))=(p.nx.kind==1):=by rw[Bool.eq_iff_iff];simp;omega
 have hq2:(((p.nx.kind:Nat):Int)==(2:Int))=(p.nx.kind==2):=by rw[Bool.eq_iff_iff];simp;omega
 have hq3:(((p.nx.kind:Nat):Int)==(3:Int))=(p.nx.kind==3):=by rw[Bool.eq_iff_iff];simp;omega
 unfold atm at hz
 clear h hS
 cases hb0:p.nx.kind==1 with
 |true=>
  simp only[hb0,cond_true,cond_false]at hz
  cases hz
  rw[hb0]at hq1
  go_enter Tryz.func320,Tryz.ntmps320
  go_wp2_with fail
  refine HN.mono ?_
  rintro e w1 ⟨rfl,hb⟩
  have h1:=h0.up hb
  have hk1:=hk0.trans (KP.of_below hb)
  have hr1:=(KP.of_below (P:=P) hb).heapEq hr0 (by omega)
  have HT:=take2_any h1 1 (by decide) (z:= .ok (p.nx,p.adv)) (by unfold tkK;rw[hb0];rfl)
  clear h0 hk0 hr0 hb h1 HN HY
  go_wp2_with fail
  refine HT.mono ?_
  rintro e w2 ⟨v,rfl,rfl,h2,hj2⟩
  have hk2:=hk1.trans hj2
  have hr2:=hj2.heapEq hr1 (by omega)
  have HZ:Hid _:=leaf_fin hPl hTl hr2 h2 hk2 6 (0) (p.nx.text)
  obtain⟨y0,y1,y2,y3,y4,f0,f1,f2,f3,f4⟩:=cells5 hr2
  clear h2 hk2 hr2 hj2 hk1 hr1 HT
  go_wp2
  refine bodyPost_ret (v:=Value.agg #[Value.int IntKind.i64 6,Value.int IntKind.i64 0,Value.string (mkB p.nx.text),Value.slice none 0 0,Value.slice none 0 0]) (res_one Tryz.results320 _ _ rfl HZ.out.2) rfl HZ.out.1
 |false=>
 cases hb1:p.nx.kind==2 with
 |true=>
  simp only[hb1,hb0,cond_true,cond_false]at hz
  cases hz
  rw[hb0]at hq1
  rw[hb1]at hq2
  go_enter Tryz.func320,Tryz.ntmps320
  go_wp2_with fail
  refine HN.mono ?_
  rintro e w1 ⟨rfl,hb⟩
  have h1:=h0.up hb
  have hk1:=hk0.trans (KP.of_below hb)
  have hr1:=(KP.of_below (P:=P) hb).heapEq hr0 (by omega)
  have HT:=take2_any h1 2 (by decide) (z:= .ok (p.nx,p.adv)) (by unfold tkK;rw[hb1];rfl)
  clear h0 hk0 hr0 hb h1 HN HY
  go_wp2_with fail
  refine HT.mono ?_
  rintro e w2 ⟨v,rfl,rfl,h2,hj2⟩
  have hk2:=hk1.trans hj2
  have hr2:=hj2.heapEq hr1 (by omega)
  have HZ:Hid _:=leaf_fin hPl hTl hr2 h2 hk2 4 (p.nx.num) ([])
  obtain⟨y0,y1,y2,y3,y4,f0,f1,f2,f3,f4⟩:=cells5 hr2
  clear h2 hk2 hr2 hj2 hk1 hr1 HT
  go_wp2
  refine bodyPost_ret (v:=Value.agg #[Value.int IntKind.i64 4,Value.int IntKind.i64 p.nx.num,Value.string ⟨#[]⟩,Value.slice none 0 0,Value.slice none 0 0]) (res_one Tryz.results320 _ _ rfl HZ.out.2) rfl HZ.out.1
 |false=>
 cases hb2:p.nx.kind==3 with
 |true=>
  simp only[hb2,hb0,hb1,cond_true,cond_false]at hz
  cases hz
  rw[hb0]at hq1
  rw[hb1]at hq2
  rw[hb2]at hq3
  go_enter Tryz.func320,Tryz.ntmps320
  go_wp2_with fail
  refine HN.mono ?_
  rintro e w1 ⟨rfl,hb⟩
  have h1:=h0.up hb
  have hk1:=hk0.trans (KP.of_below hb)
  have hr1:=(KP.of_below (P:=P) hb).heapEq hr0 (by omega)
  have HT:=take2_any h1 3 (by decide) (z:= .ok (p.nx,p.adv)) (by unfold tkK;rw[hb2];rfl)
  clear h0 hk0 hr0 hb h1 HN HY
  go_wp2_with fail
  refine HT.mono ?_
  rintro e w2 ⟨v,rfl,rfl,h2,hj2⟩
  have hk2:=hk1.trans hj2
  have hr2:=hj2.heapEq hr1 (by omega)
  have HZ:Hid _:=leaf_fin hPl hTl hr2 h2 hk2 5 (0) (p.nx.text)
  obtain⟨y0,y1,y2,y3,y4,f0,f1,f2,f3,f4⟩:=cells5 hr2
  clear h2 hk2 hr2 hj2 hk1 hr1 HT
  go_wp2
  refine bodyPost_ret (v:=Value.agg #[Value.int IntKind.i64 5,Value.int IntKind.i64 0,Value.string (mkB p.nx.text),Value.slice none 0 0,Value.slice none 0 0]) (res_one Tryz.results320 _ _ rfl HZ.out.2) rfl HZ.out.1
 |false=>
 simp only[hb0,hb1,hb2,cond_false]at hz
 rw[hb0]at hq1
 rw[hb1]at hq2
 rw[hb2]at hq3
 go_enter Tryz.func320,Tryz.ntmps320
 go_wp2_with fail
 refine HN.mono ?_
 rintro e w1 ⟨rfl,hb⟩
 have h1:=h0.up hb
 have hk1:=hk0.trans (KP.of_below hb)
 have hr1:=(KP.of_below (P:=P) hb).heapEq hr0 (by omega)
 have HD:=HY.out w1 _ z h1 hz
 have hs1:W.heap.size<w1.heap.size:=(Array.getElem?_eq_some_iff.1 hr1).1
 clear h0 hk0 hr0 hb h1 HN HY hz
 go_wp2_with fail
 refine HD.mono ?_
 rintro e v1 hpo
 cases z with
 |error x=>
  obtain⟨rfl,hk⟩:=bad_panic hpo hk1
  exact⟨rfl,rfl,hk⟩
 |ok r=>
  obtain⟨x,q⟩:=r
  obtain⟨v,rfl,⟨c,rfl,hx1⟩,hp1,hj1⟩:=hpo
  have hr2:=hj1.heapEq hr1 (by omega)
  obtain⟨t2,i2,o2,l2,j2⟩:=fin5 hr2 rfl hx1
  have HZ:Hid (PoA P T (VE W.heap.size) W (.ok (x,q)) (.returned (.agg c.toArray)) (v1.setCells W.heap.size 0 c)):=poE_fin (by omega) hs1 hx1 hp1 (hk1.trans hj1) hPl hTl
  have HF:Hid (v1.there W.heap.size 0 c.toArray.size∧(Tryz.prog.info? 162).map (·.size)=some c.toArray.size∧c.toArray.all (·.oneCell')=true∧(loadVar 162 ⟨W.heap.size,0,none⟩).run Tryz.prog (v1.setCells W.heap.size 0 c)= .ok (.agg c.toArray) (v1.setCells W.heap.size 0 c)):=⟨t2,i2,o2,l2⟩
  clear t2 i2 o2 l2 j2 hx1 hp1 hj1 hr1 hr2 hk1 HD
  go_wp2_with (first
   |(refine wpList_store_mid rfl 162 (Operand.tmp 2) (Operand.tmp 25) rfl W.heap.size 0 c.toArray rfl rfl HF.out.1 HF.out.2.1 HF.out.2.2.1 ?_)
   |fail)
  refine bodyPost_ret (v:= .agg c.toArray) (res_one Tryz.results320 _ _ rfl HF.out.2.2.2) rfl HZ.out
end Go.Proofs.YthfgpkdbclogpaaGreatDoor
namespace Go.Proofs.YthfgpkdbclogpaaGreatDoor
open Go.RowKit
theorem step_call {P:Program}{ops:Array Oper}{o:Oper}{a:Act}{w:World}{K:Act→World→Prop}{Q:Exit→Act→World→Prop}{E:Prop}(hg:o.guard=none)(h:Oper.wp P o a w K Q):if Region.wanted o (yielded ops a.tmps)=true then Oper.wp P o a w K Q else E:=by
 have hw:Region.wanted o (yielded ops a.tmps)=true:=by simp[Region.wanted,hg]
 rw[if_pos hw]
 exact h
end Go.Proofs.YthfgpkdbclogpaaGreatDoor
