/- 42. -/
import Derived.Test.YthfgpkdbclogpaaGreatDoorTx33
import Derived.Test.YthfgpkdbclogpaaGreatDoorTx41
set_option maxHeartbeats 40000000
set_option maxRecDepth 100000
namespace Go.Proofs.YthfgpkdbclogpaaGreatDoor
open Go.RowKit Go.Shelf
attribute [local go_sem ↓] fld0 fld1 fld2 fld3
theorem sees_one {P T:Nat}{w:World}{p:Ps}(h:PsA P T w p)(x:List UInt8):
  Calls Tryz.prog 215 #[pt P,.slice (some ⟨w.heap.size,0,none⟩) 1 1] (w.alloc (.cells #[.string (mkB x)] 9)) fun e w'=>e= .returned (.bool (p.sees [x]))∧KP P w w'∧PsA P T w' p:=by
 have h2:=h.up (alB w (.cells #[.string (mkB x)] 9))
 refine(seesSign_any h2 (SgA.new P w [x] (by simp) h.lt)).mono ?_
 rintro e w' ⟨a,b⟩
 exact⟨a,(KP.al P w _).trans (KP.of_below b),h2.up b⟩
theorem sees_no {P T:Nat}{w:World}{p:Ps}(h:PsA P T w p){x:List UInt8}(hb:p.sees [x]=false):
  Calls Tryz.prog 215 #[pt P,.slice (some ⟨w.heap.size,0,none⟩) 1 1] (w.alloc (.cells #[.string (mkB x)] 9)) fun e w'=>e= .returned (.bool false)∧KP P w w'∧PsA P T w' p:=by
 have:=sees_one h x
 rwa [hb]at this
theorem giving_any {P T:Nat}{E:Ps→Px Ex}(hE:MethC P T 247 E):MethS P T 254 (givS E):=by
 intro W p z h _ hz
 have hPl:=h.lt
 have hTl:=h.ltT
 have h0:=h.up (alB W sz)
 have hk0:=KP.al P W sz
 have hr0:=heap_alloc_new W sz
 have HE:Hid (MethC P T 247 E):=hE
 obtain⟨_,_,_,_,_,cD,_⟩:=h0.cells
 have HG:=giveUpIf_any h0 (!p.inD) 4
 unfold givS at hz
 clear h hE
 cases hD:p.inD with
 |false=>
  rw[hD]at HG cD
  unfold guIf at hz
  simp only[hD,Bool.not_false,cond_true]at hz
  cases hz
  go_enter Tryz.func254,Tryz.ntmps254
  go_wp2_with fail
  refine HG.mono ?_
  rintro e w1 ⟨he,hb⟩
  simp only[Bool.not_false,cond_true]at he
  subst he
  exact⟨rfl,rfl,hk0.trans (KP.of_below hb)⟩
 |true=>
 rw[hD]at HG cD
 unfold guIf at hz
 simp only[hD,Bool.not_true,cond_false]at hz
 replace hz:(bnd (tkS [114,101,116,117,114,110] p) fun _ p=>bif p.nx.kind==6 then ok ⟨2,[],[],⟨1,0,[],[],[]⟩,[],[]⟩ p else bnd (E p) fun e p=>ok ⟨2,[],[],e,[],[]⟩ p)=some z:=hz
 go_enter Tryz.func254,Tryz.ntmps254
 go_wp2_with fail
 refine HG.mono ?_
 rintro e w1 ⟨he,hb⟩
 simp only[Bool.not_true,cond_false]at he
 subst he
 have h1:=h0.up hb
 have hk1:=hk0.trans (KP.of_below (P:=P) hb)
 have hr1:=(KP.of_below (P:=P) hb).heapEq hr0 (by omega)
 clear h0 hk0 hr0 hb HG cD
 rcases bnd_some hz with⟨x,hx,rfl⟩|⟨_,q2,hx,hz2⟩
 ·have HT:=takeSign_any h1 [114,101,116,117,114,110] hx
  go_wp2_with fail
  refine HT.mono ?_
  rintro e v1 hpo
  obtain⟨rfl,hk⟩:=bad_panic hpo hk1
  exact⟨rfl,rfl,hk⟩
 have HT:=takeSign_any h1 [114,101,116,117,114,110] hx
 go_wp2_with fail
 refine HT.mono ?_
 rintro e w2 ⟨v,rfl,rfl,h2,hj2⟩
 have hk2:=hk1.trans hj2
 have hr2:=hj2.heapEq hr1 (by omega)
 clear h1 hj2 hr1 hk1 HT hz hx
 have HS:=sees2_any h2 6
 cases hb6:q2.nx.kind==6 with
 |true=>
  rw[hb6]at HS
  simp only[hb6,cond_true]at hz2
  cases hz2
  go_wp2_with fail
  refine HS.mono ?_
  rintro e w3 ⟨rfl,hb⟩
  have h3:=h2.up hb
  have hk3:=hk2.trans (KP.of_below (P:=P) hb)
  have hr3:=(KP.of_below (P:=P) hb).heapEq hr2 (by omega)
  have hsm:SmA w3 (fun g=>w3.heap.size≤g) ⟨2,[],[],⟨1,0,[],[],[]⟩,[],[]⟩ _:=SmA.small (ExA.leaf 1 0 []) 2 []
  obtain⟨t9,i9,o9,l9,j9⟩:=fin10 hr3 rfl hsm
  have hs3:W.heap.size<w3.heap.size:=(Array.getElem?_eq_some_iff.1 hr3).1
  have HZ:Hid _:=poS_fin (Nat.le_refl W.heap.size) hsm (fun g hg=>⟨by omega,by omega⟩) h3 hk3 hPl hTl
  have HL:Hid _:=(⟨t9,i9,o9,l9⟩:_∧_∧_∧_)
  clear h3 hk3 hr3 hsm t9 i9 o9 l9 j9 HE hk2 hr2 h2 HS hb
  go_wp2_with (first
   |(refine wpList_store_mid rfl 164 (Operand.tmp 2) (Operand.tmp 15) rfl W.heap.size 0 (Value.int IntKind.i64 (2:Nat)::sv []::Value.slice none 0 0::([Value.int IntKind.i64 (1:Nat),Value.int IntKind.i64 (0:Nat),sv [],Value.slice none 0 0,Value.slice none 0 0]++[Value.slice none 0 0,Value.slice none 0 0])).toArray rfl rfl HL.out.1 HL.out.2.1 HL.out.2.2.1 ?_)
   |fail)
  refine bodyPost_ret (v:= .agg (Value.int IntKind.i64 (2:Nat)::sv []::Value.slice none 0 0::([Value.int IntKind.i64 (1:Nat),Value.int IntKind.i64 (0:Nat),sv [],Value.slice none 0 0,Value.slice none 0 0]++[Value.slice none 0 0,Value.slice none 0 0])).toArray) (res_one Tryz.results254 _ _ rfl HL.out.2.2.2) rfl HZ.out
 |false=>
 rw[hb6]at HS
 simp only[hb6,cond_false]at hz2
 go_wp2_with fail
 refine HS.mono ?_
 rintro e w3 ⟨rfl,hb⟩
 have h3:=h2.up hb
 have hk3:=hk2.trans (KP.of_below (P:=P) hb)
 have hr3:=(KP.of_below (P:=P) hb).heapEq hr2 (by omega)
 have hs3:W.heap.size<w3.heap.size:=(Array.getElem?_eq_some_iff.1 hr3).1
 clear hk2 hr2 h2 HS hb
 rcases bnd_some hz2 with⟨x,hx,rfl⟩|⟨y,q7,hx,hz7⟩
 ·have HD:=HE.out w3 _ _ h3 hx
  go_wp2_with fail
  refine HD.mono ?_
  rintro e v1 hpo
  obtain⟨rfl,hk⟩:=bad_panic hpo hk3
  exact⟨rfl,rfl,hk⟩
 have HD:=HE.out w3 _ _ h3 hx
 cases hz7
 go_wp2_with fail
 refine HD.mono ?_
 rintro e w7 ⟨v,rfl,⟨c,rfl,hx7⟩,h7,hj7⟩
 have hk7:=hk3.trans hj7
 have hr7:=hj7.heapEq hr3 (by omega)
 obtain⟨b1,d1,b2,d2,hc7⟩:=hx7.form
 subst hc7
 have hsm:=SmA.small hx7 2 []
 obtain⟨t9,i9,o9,l9,j9⟩:=fin10 hr7 rfl hsm
 have HZ:Hid _:=poS_fin (Nat.le_refl W.heap.size) hsm (fun g hg=>⟨by omega,by omega⟩) h7 hk7 hPl hTl
 have HL:Hid _:=(⟨t9,i9,o9,l9⟩:_∧_∧_∧_)
 clear h7 hk7 hr7 hj7 hx7 hsm t9 i9 o9 l9 j9 HD HE hk3 hr3 h3 hx hz2
 go_wp2_with (first
  |(refine wpList_store_mid rfl 164 (Operand.tmp 2) (Operand.tmp 18) rfl W.heap.size 0 (Value.int IntKind.i64 (2:Nat)::sv []::Value.slice none 0 0::([Value.int IntKind.i64 y.kind,Value.int IntKind.i64 y.num,Value.string (mkB y.text),Value.slice b1 y.kids.length d1,Value.slice b2 y.names.length d2]++[Value.slice none 0 0,Value.slice none 0 0])).toArray rfl rfl HL.out.1 HL.out.2.1 HL.out.2.2.1 ?_)
  |fail)
 refine bodyPost_ret (v:= .agg (Value.int IntKind.i64 (2:Nat)::sv []::Value.slice none 0 0::([Value.int IntKind.i64 y.kind,Value.int IntKind.i64 y.num,Value.string (mkB y.text),Value.slice b1 y.kids.length d1,Value.slice b2 y.names.length d2]++[Value.slice none 0 0,Value.slice none 0 0])).toArray) (res_one Tryz.results254 _ _ rfl HL.out.2.2.2) rfl HZ.out
theorem small_any {P T:Nat}{E:Ps→Px Ex}(hE:MethC P T 247 E):MethS P T 219 (smlF E):=by
 intro W p z h hr hz
 have hPl:=h.lt
 have hTl:=h.ltT
 have h0:=h.up (alB W sz)
 have hk0:=KP.al P W sz
 have hr0:=heap_alloc_new W sz
 have HE:Hid (MethC P T 247 E):=hE
 have HGi:Hid (MethS P T 254 (givS E)):=giving_any hE
 have HLd:Hid (MethS P T 255 loadS):=loading_any
 have HEr:Hid (∀ W',KP P W W'→ErrR W'):=fun W' hk=>hr.kp (hr.ne h) hk
 unfold smlF at hz
 clear h hE hr
 cases hb0:p.sees [[112,97,115,115]]with
 |true=>
  simp only[hb0,cond_true]at hz
  cases hz
  go_enter Tryz.func219,Tryz.ntmps219
  go_wp2_with fail
  refine(passSign_yes h0 (x:=[112,97,115,115]) hb0).mono ?_
  rintro e w1 ⟨rfl,hj1,h1⟩
  have hk1:=hk0.trans hj1
  have hr1:=hj1.heapEq hr0 (by omega)
  have hs1:W.heap.size<w1.heap.size:=(Array.getElem?_eq_some_iff.1 hr1).1
  have hsm:SmA w1 (fun g=>w1.heap.size≤g) ⟨1,[],[],⟨0,0,[],[],[]⟩,[],[]⟩ _:=SmA.small (ExA.leaf 0 0 []) 1 []
  obtain⟨t9,i9,o9,l9,j9⟩:=fin10 hr1 rfl hsm
  have HZ:Hid _:=poS_fin (Nat.le_refl W.heap.size) hsm (fun g hg=>⟨by omega,by omega⟩) h1 hk1 hPl hTl
  have HL:Hid _:=(⟨t9,i9,o9,l9⟩:_∧_∧_∧_)
  clear h0 hk0 hr0 hj1 h1 hk1 hr1 hsm t9 i9 o9 l9 j9 HE HGi
  go_wp2_with (first
   |(refine wpList_store_mid rfl 164 (Operand.tmp 2) (Operand.tmp 7) rfl W.heap.size 0 (Value.int IntKind.i64 (1:Nat)::sv []::Value.slice none 0 0::([Value.int IntKind.i64 (0:Nat),Value.int IntKind.i64 (0:Nat),sv [],Value.slice none 0 0,Value.slice none 0 0]++[Value.slice none 0 0,Value.slice none 0 0])).toArray rfl rfl HL.out.1 HL.out.2.1 HL.out.2.2.1 ?_)
   |fail)
  refine bodyPost_ret (v:= .agg (Value.int IntKind.i64 (1:Nat)::sv []::Value.slice none 0 0::([Value.int IntKind.i64 (0:Nat),Value.int IntKind.i64 (0:Nat),sv [],Value.slice none 0 0,Value.slice none 0 0]++[Value.slice none 0 0,Value.slice none 0 0])).toArray) (res_one Tryz.results219 _ _ rfl HL.out.2.2.2) rfl HZ.out
 |false=>
 cases hb1:p.sees [[114,101,116,117,114,110]]with
 |true=>
  simp only[hb0,hb1,cond_true,cond_false]at hz
  go_enter Tryz.func219,Tryz.ntmps219
  go_wp2_with fail
  refine(passSign_no h0 (x:=[112,97,115,115]) hb0).mono ?_
  rintro e w1 ⟨rfl,hj1,h1⟩
  have hk1:=hk0.trans hj1
  have hr1:=hj1.heapEq hr0 (by omega)
  have HSr:=sees_one h1 [114,101,116,117,114,110]
  rw[hb1]at HSr
  clear h0 hj1 hr0 hk0
  go_wp2_with fail
  refine HSr.mono ?_
  rintro e w2 ⟨rfl,hj2,h2⟩
  have hk2:=hk1.trans hj2
  have hr2:=hj2.heapEq hr1 (by omega)
  have hs2:W.heap.size<w2.heap.size:=(Array.getElem?_eq_some_iff.1 hr2).1
  have HD:=HGi.out w2 _ z h2 (HEr.out _ hk2) hz
  clear h1 hj2 hr1 hk1 HSr h2 hz HE HGi
  go_wp2_with fail
  refine HD.mono ?_
  rintro e w3 hpo
  cases z with
  |error x=>
   obtain⟨rfl,hk⟩:=bad_panic hpo hk2
   exact⟨rfl,rfl,hk⟩
  |ok r=>
   obtain⟨x,q⟩:=r
   obtain⟨v,rfl,⟨c,rfl,hx3⟩,h3,hj3⟩:=hpo
   have hr3:=hj3.heapEq hr2 (by omega)
   obtain⟨t9,i9,o9,l9,j9⟩:=fin10 hr3 rfl hx3
   have HZ:Hid (PoA P T (VS W.heap.size) W (.ok (x,q)) (.returned (.agg c.toArray)) (w3.setCells W.heap.size 0 c)):=poS_fin (Nat.le_refl W.heap.size) hx3 (fun g hg=>⟨by omega,by omega⟩) h3 (hk2.trans hj3) hPl hTl
   have HL:Hid (w3.there W.heap.size 0 c.toArray.size∧(Tryz.prog.info? 164).map (·.size)=some c.toArray.size∧c.toArray.all (·.oneCell')=true∧(loadVar 164 ⟨W.heap.size,0,none⟩).run Tryz.prog (w3.setCells W.heap.size 0 c)= .ok (.agg c.toArray) (w3.setCells W.heap.size 0 c)):=⟨t9,i9,o9,l9⟩
   clear h3 hj3 hr3 hx3 t9 i9 o9 l9 j9 hk2 hr2 HD
   go_wp2_with (first
    |(refine wpList_store_mid rfl 164 (Operand.tmp 2) (Operand.tmp 13) rfl W.heap.size 0 c.toArray rfl rfl HL.out.1 HL.out.2.1 HL.out.2.2.1 ?_)
    |fail)
   refine bodyPost_ret (v:= .agg c.toArray) (res_one Tryz.results219 _ _ rfl HL.out.2.2.2) rfl HZ.out
 |false=>
 cases hb2:p.sees [[108,111,97,100]]with
 |true=>
  simp only[hb0,hb1,hb2,cond_true,cond_false]at hz
  go_enter Tryz.func219,Tryz.ntmps219
  go_wp2_with fail
  refine(passSign_no h0 (x:=[112,97,115,115]) hb0).mono ?_
  rintro e w1 ⟨rfl,hj1,h1⟩
  have hk1:=hk0.trans hj1
  have hr1:=hj1.heapEq hr0 (by omega)
  clear h0 hj1 hr0 hk0
  go_wp2_with fail
  refine(sees_no h1 (x:=[114,101,116,117,114,110]) hb1).mono ?_
  rintro e w9 ⟨rfl,hj9,h9⟩
  have hk9:=hk1.trans hj9
  have hr9:=hj9.heapEq hr1 (by omega)
  have HSr:=sees_one h9 [108,111,97,100]
  rw[hb2]at HSr
  clear h1 hj9 hr1 hk1
  go_wp2_with fail
  refine HSr.mono ?_
  rintro e w2 ⟨rfl,hj2,h2⟩
  have hk2:=hk9.trans hj2
  have hr2:=hj2.heapEq hr9 (by omega)
  have hs2:W.heap.size<w2.heap.size:=(Array.getElem?_eq_some_iff.1 hr2).1
  have HD:=HLd.out w2 _ z h2 (HEr.out _ hk2) hz
  clear h9 hj2 hr9 hk9 HSr h2 hz HE HGi HLd
  go_wp2_with fail
  refine HD.mono ?_
  rintro e w3 hpo
  cases z with
  |error x=>
   obtain⟨rfl,hk⟩:=bad_panic hpo hk2
   exact⟨rfl,rfl,hk⟩
  |ok r=>
   obtain⟨x,q⟩:=r
   obtain⟨v,rfl,⟨c,rfl,hx3⟩,h3,hj3⟩:=hpo
   have hr3:=hj3.heapEq hr2 (by omega)
   obtain⟨t9,i9,o9,l9,j9⟩:=fin10 hr3 rfl hx3
   have HZ:Hid (PoA P T (VS W.heap.size) W (.ok (x,q)) (.returned (.agg c.toArray)) (w3.setCells W.heap.size 0 c)):=poS_fin (Nat.le_refl W.heap.size) hx3 (fun g hg=>⟨by omega,by omega⟩) h3 (hk2.trans hj3) hPl hTl
   have HL:Hid (w3.there W.heap.size 0 c.toArray.size∧(Tryz.prog.info? 164).map (·.size)=some c.toArray.size∧c.toArray.all (·.oneCell')=true∧(loadVar 164 ⟨W.heap.size,0,none⟩).run Tryz.prog (w3.setCells W.heap.size 0 c)= .ok (.agg c.toArray) (w3.setCells W.heap.size 0 c)):=⟨t9,i9,o9,l9⟩
   clear h3 hj3 hr3 hx3 t9 i9 o9 l9 j9 hk2 hr2 HD
   go_wp2_with (first
    |(refine wpList_store_mid rfl 164 (Operand.tmp 2) (Operand.tmp 19) rfl W.heap.size 0 c.toArray rfl rfl HL.out.1 HL.out.2.1 HL.out.2.2.1 ?_)
    |fail)
   refine bodyPost_ret (v:= .agg c.toArray) (res_one Tryz.results219 _ _ rfl HL.out.2.2.2) rfl HZ.out
 |false=>
 cases hb3:sSet p with
 |false=>
  simp only[hb0,hb1,hb2,hb3,cond_false]at hz
  go_enter Tryz.func219,Tryz.ntmps219
  go_wp2_with fail
  refine(passSign_no h0 (x:=[112,97,115,115]) hb0).mono ?_
  rintro e w1 ⟨rfl,hj1,h1⟩
  have hk1:=hk0.trans hj1
  have hr1:=hj1.heapEq hr0 (by omega)
  clear h0 hj1 hr0 hk0
  go_wp2_with fail
  refine(sees_no h1 (x:=[114,101,116,117,114,110]) hb1).mono ?_
  rintro e w2 ⟨rfl,hj2,h2⟩
  have hk2:=hk1.trans hj2
  have hr2:=hj2.heapEq hr1 (by omega)
  clear h1 hj2 hr1 hk1
  go_wp2_with fail
  refine(sees_no h2 (x:=[108,111,97,100]) hb2).mono ?_
  rintro e w3 ⟨rfl,hj3,h3⟩
  have hk3:=hk2.trans hj3
  have hr3:=hj3.heapEq hr2 (by omega)
  clear h2 hj3 hr2 hk2
  have HSe:=seesSet_any h3
  rw[hb3]at HSe
  go_wp2_with fail
  refine HSe.mono ?_
  rintro e w4 ⟨rfl,hbel⟩
  have h4:=h3.up hbel
  have hk4:=hk3.trans (KP.of_below (P:=P) hbel)
  have hr4:=(KP.of_below (P:=P) hbel).heapEq hr3 (by omega)
  have hs4:W.heap.size<w4.heap.size:=(Array.getElem?_eq_some_iff.1 hr4).1
  clear h3 hr3 hk3 HSe hbel HGi
  rcases bnd_some hz with⟨x,hx,rfl⟩|⟨y,q7,hx,hz7⟩
  ·have HD:=HE.out w4 _ _ h4 hx
   go_wp2_with fail
   refine HD.mono ?_
   rintro e v1 hpo
   obtain⟨rfl,hk⟩:=bad_panic hpo hk4
   exact⟨rfl,rfl,hk⟩
  have HD:=HE.out w4 _ _ h4 hx
  cases hz7
  go_wp2_with fail
  refine HD.mono ?_
  rintro e w7 ⟨v,rfl,⟨c,rfl,hx7⟩,h7,hj7⟩
  have hk7:=hk4.trans hj7
  have hr7:=hj7.heapEq hr4 (by omega)
  obtain⟨b1,d1,b2,d2,hc7⟩:=hx7.form
  subst hc7
  have hsm:=SmA.small hx7 5 []
  obtain⟨t9,i9,o9,l9,j9⟩:=fin10 hr7 rfl hsm
  have HZ:Hid _:=poS_fin (Nat.le_refl W.heap.size) hsm (fun g hg=>⟨by omega,by omega⟩) h7 hk7 hPl hTl
  have HL:Hid _:=(⟨t9,i9,o9,l9⟩:_∧_∧_∧_)
  clear h7 hk7 hr7 hj7 hx7 hsm t9 i9 o9 l9 j9 HD HE hk4 hr4 h4 hx hz
  go_wp2_with (first
   |(refine wpList_store_mid rfl 164 (Operand.tmp 2) (Operand.tmp 34) rfl W.heap.size 0 (Value.int IntKind.i64 (5:Nat)::sv []::Value.slice none 0 0::([Value.int IntKind.i64 y.kind,Value.int IntKind.i64 y.num,Value.string (mkB y.text),Value.slice b1 y.kids.length d1,Value.slice b2 y.names.length d2]++[Value.slice none 0 0,Value.slice none 0 0])).toArray rfl rfl HL.out.1 HL.out.2.1 HL.out.2.2.1 ?_)
   |fail)
  refine bodyPost_ret (v:= .agg (Value.int IntKind.i64 (5:Nat)::sv []::Value.slice none 0 0::([Value.int IntKind.i64 y.kind,Value.int IntKind.i64 y.num,Value.string (mkB y.text),Value.slice b1 y.kids.length d1,Value.slice b2 y.names.length d2]++[Value.slice none 0 0,Value.slice none 0 0])).toArray) (res_one Tryz.results219 _ _ rfl HL.out.2.2.2) rfl HZ.out
 |true=>
 simp only[hb0,hb1,hb2,hb3,cond_true,cond_false]at hz
 go_enter Tryz.func219,Tryz.ntmps219
 go_wp2_with fail
 refine(passSign_no h0 (x:=[112,97,115,115]) hb0).mono ?_
 rintro e w1 ⟨rfl,hj1,h1⟩
 have hk1:=hk0.trans hj1
 have hr1:=hj1.heapEq hr0 (by omega)
 clear h0 hj1 hr0 hk0
 go_wp2_with fail
 refine(sees_no h1 (x:=[114,101,116,117,114,110]) hb1).mono ?_
 rintro e w2 ⟨rfl,hj2,h2⟩
 have hk2:=hk1.trans hj2
 have hr2:=hj2.heapEq hr1 (by omega)
 clear h1 hj2 hr1 hk1
 go_wp2_with fail
 refine(sees_no h2 (x:=[108,111,97,100]) hb2).mono ?_
 rintro e w3 ⟨rfl,hj3,h3⟩
 have hk3:=hk2.trans hj3
 have hr3:=hj3.heapEq hr2 (by omega)
 clear h2 hj3 hr2 hk2
 have HSe:=seesSet_any h3
 rw[hb3]at HSe
 go_wp2_with fail
 refine HSe.mono ?_
 rintro e w4 ⟨rfl,hbel⟩
 have h4:=h3.up hbel
 have hk4:=hk3.trans (KP.of_below (P:=P) hbel)
 have hr4:=(KP.of_below (P:=P) hbel).heapEq hr3 (by omega)
 clear h3 hr3 hk3 HSe hbel
 unfold setS at hz
 rcases bnd_some hz with⟨x,hx,rfl⟩|⟨t,q5,hx,hz5⟩
 ·have HT:=take2_any h4 1 (by decide) hx
  go_wp2_with fail
  refine HT.mono ?_
  rintro e v1 hpo
  obtain⟨rfl,hk⟩:=bad_panic hpo hk4
  exact⟨rfl,rfl,hk⟩
 have HT:=take2_any h4 1 (by decide) hx
 go_wp2_with fail
 refine HT.mono ?_
 rintro e w5 ⟨v,rfl,rfl,h5,hj5⟩
 have hk5:=hk4.trans hj5
 have hr5:=hj5.heapEq hr4 (by omega)
 clear h4 hj5 hr4 hk4 HT hz hx
 rcases bnd_some hz5 with⟨x,hx,rfl⟩|⟨_,q6,hx,hz6⟩
 ·have HT:=takeSign_any h5 [61] hx
  go_wp2_with fail
  refine HT.mono ?_
  rintro e v1 hpo
  obtain⟨rfl,hk⟩:=bad_panic hpo hk5
  exact⟨rfl,rfl,hk⟩
 have HT:=takeSign_any h5 [61] hx
 go_wp2_with fail
 refine HT.mono ?_
 rintro e w6 ⟨v,rfl,rfl,h6,hj6⟩
 have hk6:=hk5.trans hj6
 have hr6:=hj6.heapEq hr5 (by omega)
 have hs6:W.heap.size<w6.heap.size:=(Array.getElem?_eq_some_iff.1 hr6).1
 clear h5 hj6 hr5 hk5 HT hz5 hx
 rcases bnd_some hz6 with⟨x,hx,rfl⟩|⟨y,q7,hx,hz7⟩
 ·have HD:=HE.out w6 _ _ h6 hx
  go_wp2_with fail
  refine HD.mono ?_
  rintro e v1 hpo
  obtain⟨rfl,hk⟩:=bad_panic hpo hk6
  exact⟨rfl,rfl,hk⟩
 have HD:=HE.out w6 _ _ h6 hx
 cases hz7
 go_wp2_with fail
 refine HD.mono ?_
 rintro e w7 ⟨v,rfl,⟨c,rfl,hx7⟩,h7,hj7⟩
 have hk7:=hk6.trans hj7
 have hr7:=hj7.heapEq hr6 (by omega)
 obtain⟨b1,d1,b2,d2,hc7⟩:=hx7.form
 subst hc7
 have hsm:=SmA.small hx7 3 t.text
 obtain⟨t9,i9,o9,l9,j9⟩:=fin10 hr7 rfl hsm
 have HZ:Hid _:=poS_fin (Nat.le_refl W.heap.size) hsm (fun g hg=>⟨by omega,by omega⟩) h7 hk7 hPl hTl
 have HL:Hid _:=(⟨t9,i9,o9,l9⟩:_∧_∧_∧_)
 clear h7 hk7 hr7 hj7 hx7 hsm t9 i9 o9 l9 j9 HD HE hk6 hr6 h6 hx hz6
 go_wp2_with (first
  |(refine wpList_store_mid rfl 164 (Operand.tmp 2) (Operand.tmp 31) rfl W.heap.size 0 (Value.int IntKind.i64 (3:Nat)::sv t.text::Value.slice none 0 0::([Value.int IntKind.i64 y.kind,Value.int IntKind.i64 y.num,Value.string (mkB y.text),Value.slice b1 y.kids.length d1,Value.slice b2 y.names.length d2]++[Value.slice none 0 0,Value.slice none 0 0])).toArray rfl rfl HL.out.1 HL.out.2.1 HL.out.2.2.1 ?_)
  |fail)
 refine bodyPost_ret (v:= .agg (Value.int IntKind.i64 (3:Nat)::sv t.text::Value.slice none 0 0::([Value.int IntKind.i64 y.kind,Value.int IntKind.i64 y.num,Value.string (mkB y.text),Value.slice b1 y.kids.length d1,Value.slice b2 y.names.length d2]++[Value.slice none 0 0,Value.slice none 0 0])).toArray) (res_one Tryz.results219 _ _ rfl HL.out.2.2.2) rfl HZ.out
theorem var10 {w1:World}{S:Nat→Prop}{x:Sm}{c:List Value}(h:SmA w1 S x c):(w1.alloc sz).there w1.heap.size 0 c.toArray.size∧((w1.alloc sz).setCells w1.heap.size 0 c).rangeAt w1.heap.size 0 c∧SmA ((w1.alloc sz).setCells w1.heap.size 0 c) (fun g=>S g∧g<w1.heap.size) x c∧(∀ g,g<w1.heap.size→((w1.alloc sz).setCells w1.heap.size 0 c).heap[g]? =w1.heap[g]?):=by
 have hr:(w1.alloc sz).heap[w1.heap.size]? =some sz:=heap_alloc_new w1 _
 have hla:c.toArray.size=10:=h.len
 have ht:(w1.alloc sz).there w1.heap.size 0 c.toArray.size:=by rw[hla];exact there_of hr
 have hg:∀ g,g<w1.heap.size→((w1.alloc sz).setCells w1.heap.size 0 c).heap[g]? =w1.heap[g]? :=fun g hg=>(heap_sets _ c 0 _ g (by omega)).trans (heap_al w1 _ g hg)
 exact⟨ht,World.rangeAt_setCells_same _ _ _ _ ht,h.keep (fun g _ hg2=>hg g hg2) (fun g h1 h2=>⟨h1,h2⟩),hg⟩
theorem range_keep {w w':World}{b:Nat}{c:List Value}(h:w.rangeAt b 0 c)(hk:w'.heap[b]? =w.heap[b]?):w'.rangeAt b 0 c:=fun j v hv=>by
 rw[←h j v hv]
 simp[World.cell?,hk]
theorem statement_any {P T:Nat}{E:Ps→Px Ex}{B:Ps→Px (List Sm)}(hSm:MethS P T 219 (smlF E))(hCo:MethS P T 216 (condS E B))(hLo:MethS P T 217 (loopS E B))(hDf:MethS P T 218 (defS B)):MethS P T 175 (stmF E B):=by
 intro W p z h hr hz
 have hPl:=h.lt
 have hTl:=h.ltT
 have h0:=h.up (alB W sz)
 have hk0:=KP.al P W sz
 have hr0:=heap_alloc_new W sz
 have HE:Hid (MethS P T 219 (smlF E)):=hSm
 have HEr:Hid (∀ W',KP P W W'→ErrR W'):=fun W' hk=>hr.kp (hr.ne h) hk
 have HCo:Hid (MethS P T 216 (condS E B)∧MethS P T 217 (loopS E B)∧MethS P T 218 (defS B)):=⟨hCo,hLo,hDf⟩
 unfold stmF at hz
 clear h hSm hr hCo hLo hDf
 cases hb0:p.sees [[105,102]]with
 |true=>
  simp only[hb0,cond_true]at hz
  go_enter Tryz.func175,Tryz.ntmps175
  have HS0:=sees_one h0 [105,102]
  rw[hb0]at HS0
  rw[World.size_alloc]at HS0
  go_wp2_with fail
  refine HS0.mono ?_
  rintro e w1 ⟨rfl,hj1,h1⟩
  have hk1:=hk0.trans hj1
  have hr1:=hj1.heapEq hr0 (by omega)
  clear h0 hj1 hr0 hk0 HS0
  have hs1:W.heap.size<w1.heap.size:=(Array.getElem?_eq_some_iff.1 hr1).1
  have HD:=HCo.out.1 w1 _ z h1 (HEr.out _ hk1) hz
  clear h1 hz HE HCo
  go_wp2_with fail
  refine HD.mono ?_
  rintro e v1 hpo
  cases z with
  |error x=>
   obtain⟨rfl,hk⟩:=bad_panic hpo hk1
   exact⟨rfl,rfl,hk⟩
  |ok r=>
   obtain⟨x,q⟩:=r
   obtain⟨v,rfl,⟨c,rfl,hx3⟩,h9,hj9⟩:=hpo
   have hr9:=hj9.heapEq hr1 (by omega)
   obtain⟨t9,i9,o9,l9,j9⟩:=fin10 hr9 rfl hx3
   have HZ:Hid (PoA P T (VS W.heap.size) W (.ok (x,q)) (.returned (.agg c.toArray)) (v1.setCells W.heap.size 0 c)):=poS_fin (Nat.le_refl W.heap.size) hx3 (fun g hg=>⟨by omega,by omega⟩) h9 (hk1.trans hj9) hPl hTl
   have HL:Hid (v1.there W.heap.size 0 c.toArray.size∧(Tryz.prog.info? 164).map (·.size)=some c.toArray.size∧c.toArray.all (·.oneCell')=true∧(loadVar 164 ⟨W.heap.size,0,none⟩).run Tryz.prog (v1.setCells W.heap.size 0 c)= .ok (.agg c.toArray) (v1.setCells W.heap.size 0 c)):=⟨t9,i9,o9,l9⟩
   clear h9 hj9 hr9 hx3 t9 i9 o9 l9 j9 hk1 hr1 HD
   go_wp2_with (first
    |(refine wpList_store_mid rfl 164 (Operand.tmp 2) (Operand.tmp 9) rfl W.heap.size 0 c.toArray rfl rfl HL.out.1 HL.out.2.1 HL.out.2.2.1 ?_)
    |fail)
   refine bodyPost_ret (v:= .agg c.toArray) (res_one Tryz.results175 _ _ rfl HL.out.2.2.2) rfl HZ.out
 |false=>
 cases hb1:p.sees [[102,111,114]]with
 |true=>
  simp only[hb0,hb1,cond_true,cond_false]at hz
  go_enter Tryz.func175,Tryz.ntmps175
  have HS0:=sees_no h0 (x:=[105,102]) hb0
  rw[World.size_alloc]at HS0
  go_wp2_with fail
  refine HS0.mono ?_
  rintro e w1 ⟨rfl,hj1,h1⟩
  have hk1:=hk0.trans hj1
  have hr1:=hj1.heapEq hr0 (by omega)
  clear h0 hj1 hr0 hk0 HS0
  have HS1:=sees_one h1 [102,111,114]
  rw[hb1]at HS1
  go_wp2_with fail
  refine HS1.mono ?_
  rintro e w2 ⟨rfl,hj2,h2⟩
  have hk2:=hk1.trans hj2
  have hr2:=hj2.heapEq hr1 (by omega)
  clear h1 hj2 hr1 hk1 HS1
  have hs2:W.heap.size<w2.heap.size:=(Array.getElem?_eq_some_iff.1 hr2).1
  have HD:=HCo.out.2.1 w2 _ z h2 (HEr.out _ hk2) hz
  clear h2 hz HE HCo
  go_wp2_with fail
  refine HD.mono ?_
  rintro e v1 hpo
  cases z with
  |error x=>
   obtain⟨rfl,hk⟩:=bad_panic hpo hk2
   exact⟨rfl,rfl,hk⟩
  |ok r=>
   obtain⟨x,q⟩:=r
   obtain⟨v,rfl,⟨c,rfl,hx3⟩,h9,hj9⟩:=hpo
   have hr9:=hj9.heapEq hr2 (by omega)
   obtain⟨t9,i9,o9,l9,j9⟩:=fin10 hr9 rfl hx3
   have HZ:Hid (PoA P T (VS W.heap.size) W (.ok (x,q)) (.returned (.agg c.toArray)) (v1.setCells W.heap.size 0 c)):=poS_fin (Nat.le_refl W.heap.size) hx3 (fun g hg=>⟨by omega,by omega⟩) h9 (hk2.trans hj9) hPl hTl
   have HL:Hid (v1.there W.heap.size 0 c.toArray.size∧(Tryz.prog.info? 164).map (·.size)=some c.toArray.size∧c.toArray.all (·.oneCell')=true∧(loadVar 164 ⟨W.heap.size,0,none⟩).run Tryz.prog (v1.setCells W.heap.size 0 c)= .ok (.agg c.toArray) (v1.setCells W.heap.size 0 c)):=⟨t9,i9,o9,l9⟩
   clear h9 hj9 hr9 hx3 t9 i9 o9 l9 j9 hk2 hr2 HD
   go_wp2_with (first
    |(refine wpList_store_mid rfl 164 (Operand.tmp 2) (Operand.tmp 15) rfl W.heap.size 0 c.toArray rfl rfl HL.out.1 HL.out.2.1 HL.out.2.2.1 ?_)
    |fail)
   refine bodyPost_ret (v:= .agg c.toArray) (res_one Tryz.results175 _ _ rfl HL.out.2.2.2) rfl HZ.out
 |false=>
 cases hb2:p.sees [[100,101,102]]with
 |true=>
  simp only[hb0,hb1,hb2,cond_true,cond_false]at hz
  go_enter Tryz.func175,Tryz.ntmps175
  have HS0:=sees_no h0 (x:=[105,102]) hb0
  rw[World.size_alloc]at HS0
  go_wp2_with fail
  refine HS0.mono ?_
  rintro e w1 ⟨rfl,hj1,h1⟩
  have hk1:=hk0.trans hj1
  have hr1:=hj1.heapEq hr0 (by omega)
  clear h0 hj1 hr0 hk0 HS0
  have HS1:=sees_no h1 (x:=[102,111,114]) hb1
  go_wp2_with fail
  refine HS1.mono ?_
  rintro e w2 ⟨rfl,hj2,h2⟩
  have hk2:=hk1.trans hj2
  have hr2:=hj2.heapEq hr1 (by omega)
  clear h1 hj2 hr1 hk1 HS1
  have HS2:=sees_one h2 [100,101,102]
  rw[hb2]at HS2
  go_wp2_with fail
  refine HS2.mono ?_
  rintro e w3 ⟨rfl,hj3,h3⟩
  have hk3:=hk2.trans hj3
  have hr3:=hj3.heapEq hr2 (by omega)
  clear h2 hj3 hr2 hk2 HS2
  have hs3:W.heap.size<w3.heap.size:=(Array.getElem?_eq_some_iff.1 hr3).1
  have HD:=HCo.out.2.2 w3 _ z h3 (HEr.out _ hk3) hz
  clear h3 hz HE HCo
  go_wp2_with fail
  refine HD.mono ?_
  rintro e v1 hpo
  cases z with
  |error x=>
   obtain⟨rfl,hk⟩:=bad_panic hpo hk3
   exact⟨rfl,rfl,hk⟩
  |ok r=>
   obtain⟨x,q⟩:=r
   obtain⟨v,rfl,⟨c,rfl,hx3⟩,h9,hj9⟩:=hpo
   have hr9:=hj9.heapEq hr3 (by omega)
   obtain⟨t9,i9,o9,l9,j9⟩:=fin10 hr9 rfl hx3
   have HZ:Hid (PoA P T (VS W.heap.size) W (.ok (x,q)) (.returned (.agg c.toArray)) (v1.setCells W.heap.size 0 c)):=poS_fin (Nat.le_refl W.heap.size) hx3 (fun g hg=>⟨by omega,by omega⟩) h9 (hk3.trans hj9) hPl hTl
   have HL:Hid (v1.there W.heap.size 0 c.toArray.size∧(Tryz.prog.info? 164).map (·.size)=some c.toArray.size∧c.toArray.all (·.oneCell')=true∧(loadVar 164 ⟨W.heap.size,0,none⟩).run Tryz.prog (v1.setCells W.heap.size 0 c)= .ok (.agg c.toArray) (v1.setCells W.heap.size 0 c)):=⟨t9,i9,o9,l9⟩
   clear h9 hj9 hr9 hx3 t9 i9 o9 l9 j9 hk3 hr3 HD
   go_wp2_with (first
    |(refine wpList_store_mid rfl 164 (Operand.tmp 2) (Operand.tmp 21) rfl W.heap.size 0 c.toArray rfl rfl HL.out.1 HL.out.2.1 HL.out.2.2.1 ?_)
    |fail)
   refine bodyPost_ret (v:= .agg c.toArray) (res_one Tryz.results175 _ _ rfl HL.out.2.2.2) rfl HZ.out
 |false=>
 simp only[hb0,hb1,hb2,cond_false]at hz
 go_enter Tryz.func175,Tryz.ntmps175
 have HS0:=sees_no h0 (x:=[105,102]) hb0
 rw[World.size_alloc]at HS0
 go_wp2_with fail
 refine HS0.mono ?_
 rintro e w1 ⟨rfl,hj1,h1⟩
 have hk1:=hk0.trans hj1
 have hr1:=hj1.heapEq hr0 (by omega)
 clear h0 hj1 hr0 hk0 HS0
 go_wp2_with fail
 refine(sees_no h1 (x:=[102,111,114]) hb1).mono ?_
 rintro e w2 ⟨rfl,hj2,h2⟩
 have hk2:=hk1.trans hj2
 have hr2:=hj2.heapEq hr1 (by omega)
 clear h1 hj2 hr1 hk1
 go_wp2_with fail
 refine(sees_no h2 (x:=[100,101,102]) hb2).mono ?_
 rintro e w3 ⟨rfl,hj3,h3⟩
 have hk3:=hk2.trans hj3
 have hr3:=hj3.heapEq hr2 (by omega)
 have hs3:W.heap.size<w3.heap.size:=(Array.getElem?_eq_some_iff.1 hr3).1
 clear h2 hj3 hr2 hk2
 rcases bnd_some hz with⟨x,hx,rfl⟩|⟨x,q4,hx,hz4⟩
 ·have HD:=HE.out w3 _ _ h3 (HEr.out _ hk3) hx
  go_wp2_with fail
  refine HD.mono ?_
  rintro e v1 hpo
  obtain⟨rfl,hk⟩:=bad_panic hpo hk3
  exact⟨rfl,rfl,hk⟩
 have HD:=HE.out w3 _ _ h3 (HEr.out _ hk3) hx
 go_wp2_with fail
 refine HD.mono ?_
 rintro e w7 ⟨v,rfl,⟨c,rfl,hx7⟩,h7,hj7⟩
 have hk7:=hk3.trans hj7
 have hr7:=hj7.heapEq hr3 (by omega)
 have hs7:W.heap.size<w7.heap.size:=(Array.getElem?_eq_some_iff.1 hr7).1
 obtain⟨t1,r1,x1,g1⟩:=var10 hx7
 obtain⟨-,i1,o1,-,j1⟩:=fin10 hr7 rfl hx7
 have HF:Hid ((w7.alloc sz).there w7.heap.size 0 c.toArray.size∧(Tryz.prog.info? 164).map (·.size)=some c.toArray.size∧c.toArray.all (·.oneCell')=true):=⟨t1,i1,o1⟩
 have hA:PsA P T ((w7.alloc sz).setCells w7.heap.size 0 c) q4:=h7.keep (g1 P (by omega)) (g1 T (by omega))
 have HA:Hid (KP P W ((w7.alloc sz).setCells w7.heap.size 0 c)∧((w7.alloc sz).setCells w7.heap.size 0 c).rangeAt w7.heap.size 0 c∧((w7.alloc sz).setCells w7.heap.size 0 c).heap[W.heap.size]? =some sz∧SmA ((w7.alloc sz).setCells w7.heap.size 0 c) (fun g=>w3.heap.size≤g∧g<w7.heap.size) x c∧((w7.alloc sz).setCells w7.heap.size 0 c).heap.size=w7.heap.size+1):=⟨hk7.trans ((KP.al P w7 sz).sets (by omega) c),r1,(g1 _ hs7).trans hr7,x1,by rw[size_sets,World.size_alloc]⟩
 clear t1 r1 x1 g1 i1 o1 j1 hk7 hr7 hj7 h7 hx7 HD hx hz HE hk3 hr3 h3
 rcases bnd_some hz4 with⟨y,hy,rfl⟩|⟨_,q8,hy,hz8⟩
 ·have HT:=take2_any hA 6 (by decide) hy
  clear hA
  go_wp2_with (first
   |(refine wpList_store_mid rfl 164 (Operand.tmp 3) (Operand.tmp 23) rfl w7.heap.size 0 c.toArray rfl rfl HF.out.1 HF.out.2.1 HF.out.2.2 ?_)
   |fail)
  refine HT.mono ?_
  rintro e v1 hpo
  obtain⟨rfl,hk⟩:=bad_panic hpo HA.out.1
  exact⟨rfl,rfl,hk⟩
 have HT:=take2_any hA 6 (by decide) hy
 cases hz8
 clear hA
 go_wp2_with (first
  |(refine wpList_store_mid rfl 164 (Operand.tmp 3) (Operand.tmp 23) rfl w7.heap.size 0 c.toArray rfl rfl HF.out.1 HF.out.2.1 HF.out.2.2 ?_)
  |fail)
 refine HT.mono ?_
 rintro e w8 ⟨v,rfl,rfl,h8,hj8⟩
 have hev8:w8.rangeAt w7.heap.size 0 c:=range_keep HA.out.2.1 (hj8.blk _ (by have:=HA.out.2.2.2.2;omega) (by omega))
 have hr8:=hj8.heapEq HA.out.2.2.1 (by omega)
 have hx8:SmA w8 (fun g=>w3.heap.size≤g∧g<w7.heap.size) x c:=HA.out.2.2.2.1.keep (fun g hg hg2=>hj8.blk g hg2 (by omega)) (fun g hg _=>hg)
 obtain⟨t2,i2,o2,l2,j2⟩:=fin10 hr8 rfl hx8
 have HZ:Hid (PoA P T (VS W.heap.size) W (.ok (x,q8)) (.returned (.agg c.toArray)) (w8.setCells W.heap.size 0 c)):=poS_fin (Nat.le_refl _) hx8 (fun g hg=>⟨by omega,by omega⟩) h8 (HA.out.1.trans hj8) hPl hTl
 have HG:Hid (w8.rangeAt w7.heap.size 0 c∧(Tryz.prog.info? 164).map (·.size)=some c.length∧w8.there W.heap.size 0 c.toArray.size∧(Tryz.prog.info? 164).map (·.size)=some c.toArray.size∧c.toArray.all (·.oneCell')=true∧(loadVar 164 ⟨W.heap.size,0,none⟩).run Tryz.prog (w8.setCells W.heap.size 0 c)= .ok (.agg c.toArray) (w8.setCells W.heap.size 0 c)):=⟨hev8,j2,t2,i2,o2,l2⟩
 clear t2 i2 o2 l2 j2 hx8 hr8 hev8 h8 hj8 HA HF HT
 go_wp2_with (first
  |(refine wpList_load_mid rfl 164 (Operand.tmp 3) rfl w7.heap.size 0 rfl c _ HG.out.1 Tryz.underlying164 rfl HG.out.2.1 ?_)
  |(refine wpList_store_mid rfl 164 (Operand.tmp 2) (Operand.tmp 26) rfl W.heap.size 0 c.toArray rfl rfl HG.out.2.2.1 HG.out.2.2.2.1 HG.out.2.2.2.2.1 ?_)
  |fail)
 refine bodyPost_ret (v:= .agg c.toArray) (res_one Tryz.results175 _ _ rfl HG.out.2.2.2.2.2) rfl HZ.out
end Go.Proofs.YthfgpkdbclogpaaGreatDoor
