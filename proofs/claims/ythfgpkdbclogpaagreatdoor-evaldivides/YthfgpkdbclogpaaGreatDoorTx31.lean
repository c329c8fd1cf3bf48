/- 31. -/
import Derived.StillTailTactics
import Derived.Test.YthfgpkdbclogpaaGreatDoorTx30
set_option maxHeartbeats 40000000
set_option maxRecDepth 100000
namespace Go.Proofs.YthfgpkdbclogpaaGreatDoor
open Go.RowKit Go.Shelf
attribute [local go_sem ↓] fld0 fld1 fld2 fld3
theorem loop_any {P T:Nat}{E:Ps→Px Ex}{B:Ps→Px (List Sm)}(hE:MethC P T 247 E)(hB:MethB P T 248 B):MethS P T 217 (loopS E B):=by
 intro W p z h hr hz
 have hPl:=h.lt
 have hTl:=h.ltT
 have h0:=h.up (alB W sz)
 have hk0:=KP.al P W sz
 have hr0:=heap_alloc_new W sz
 have HE:Hid (MethC P T 247 E):=hE
 have HB:Hid (MethB P T 248 B):=hB
 have HEr:Hid (∀ W',KP P W W'→ErrR W'):=fun W' hk=>hr.kp (hr.ne h) hk
 clear h hE hB hr
 go_enter Tryz.func217,Tryz.ntmps217
 rcases bnd_some hz with⟨x,hx,rfl⟩|⟨_,p1,hx,hz1⟩
 ·have HT:=takeSign_any h0 [102,111,114] hx
  go_wp2_with fail
  refine HT.mono ?_
  rintro eX wX hpo
  obtain⟨rfl,hkX⟩:=bad_panic hpo hk0
  exact⟨rfl,rfl,hkX⟩
 have HT:=takeSign_any h0 [102,111,114] hx
 go_wp2_with fail
 refine HT.mono ?_
 rintro e1 w1 ⟨v1,rfl,rfl,h1,hj1⟩
 have hk1:=hk0.trans hj1
 have hr1:=hj1.heapEq hr0 (by omega)
 have hs1:W.heap.size<w1.heap.size:=(Array.getElem?_eq_some_iff.1 hr1).1
 clear HT hz hx hj1 hk0 h0 hr0
 rcases bnd_some hz1 with⟨x,hx,rfl⟩|⟨t,p2,hx,hz2⟩
 ·have HT:=take2_any h1 1 (by decide) hx
  go_wp2_with fail
  refine HT.mono ?_
  rintro eX wX hpo
  obtain⟨rfl,hkX⟩:=bad_panic hpo hk1
  exact⟨rfl,rfl,hkX⟩
 have HT:=take2_any h1 1 (by decide) hx
 go_wp2_with fail
 refine HT.mono ?_
 rintro e2 w2 ⟨v2,rfl,rfl,h2,hj2⟩
 have hk2:=hk1.trans hj2
 have hr2:=hj2.heapEq hr1 (by omega)
 have hs2:W.heap.size<w2.heap.size:=(Array.getElem?_eq_some_iff.1 hr2).1
 have sv3:SV (w2.alloc (.cells #[.int .i64 8,.string (mkB t.text),.slice none 0 0,.int .i64 0,.int .i64 0,.string ⟨#[]⟩,.slice none 0 0,.slice none 0 0,.slice none 0 0,.slice none 0 0] 164)) w2.heap.size [.int .i64 8,.string (mkB t.text),.slice none 0 0,.int .i64 0,.int .i64 0,.string ⟨#[]⟩,.slice none 0 0,.slice none 0 0,.slice none 0 0,.slice none 0 0]:=SV.new w2 rfl
 have h3:=h2.up (alB w2 (.cells #[.int .i64 8,.string (mkB t.text),.slice none 0 0,.int .i64 0,.int .i64 0,.string ⟨#[]⟩,.slice none 0 0,.slice none 0 0,.slice none 0 0,.slice none 0 0] 164))
 have hk3:=hk2.trans (KP.al P w2 (.cells #[.int .i64 8,.string (mkB t.text),.slice none 0 0,.int .i64 0,.int .i64 0,.string ⟨#[]⟩,.slice none 0 0,.slice none 0 0,.slice none 0 0,.slice none 0 0] 164))
 have HA:Hid ((w2.alloc (.cells #[.int .i64 8,.string (mkB t.text),.slice none 0 0,.int .i64 0,.int .i64 0,.string ⟨#[]⟩,.slice none 0 0,.slice none 0 0,.slice none 0 0,.slice none 0 0] 164)).heap[W.heap.size]? =some sz∧(w2.alloc (.cells #[.int .i64 8,.string (mkB t.text),.slice none 0 0,.int .i64 0,.int .i64 0,.string ⟨#[]⟩,.slice none 0 0,.slice none 0 0,.slice none 0 0,.slice none 0 0] 164)).heap.size=w2.heap.size+1):=⟨(heap_al _ _ _ hs2).trans hr2,World.size_alloc _ _⟩
 obtain⟨w3,hw3⟩:∃ w3,w3=w2.alloc (.cells #[.int .i64 8,.string (mkB t.text),.slice none 0 0,.int .i64 0,.int .i64 0,.string ⟨#[]⟩,.slice none 0 0,.slice none 0 0,.slice none 0 0,.slice none 0 0] 164):=⟨_,rfl⟩
 rw[←hw3]at sv3 h3 hk3 HA
 have HW3:Hid (w3=w2.alloc (.cells #[.int .i64 8,.string (mkB t.text),.slice none 0 0,.int .i64 0,.int .i64 0,.string ⟨#[]⟩,.slice none 0 0,.slice none 0 0,.slice none 0 0,.slice none 0 0] 164)):=hw3
 clear hw3
 generalize hLb:w2.heap.size=Lb at *
 clear HT hz1 hx hj2 hk1 h1 hr1 hr2 h2 hk2
 rcases bnd_some hz2 with⟨x,hx,rfl⟩|⟨_,p3,hx,hz3⟩
 ·have HT:=takeSign_any h3 [105,110] hx
  go_wp2_with fail
  rw[←HW3.out]
  refine HT.mono ?_
  rintro eX wX hpo
  obtain⟨rfl,hkX⟩:=bad_panic hpo hk3
  exact⟨rfl,rfl,hkX⟩
 have HT:=takeSign_any h3 [105,110] hx
 go_wp2_with fail
 rw[←HW3.out]
 refine HT.mono ?_
 rintro e4 w4 ⟨v4,rfl,rfl,h4,hj4⟩
 have hsz3:=HA.out.2
 have sv4:=sv3.keep (hj4.blk Lb sv3.lt (by omega))
 have hk4:=hk3.trans hj4
 have hr4:=hj4.heapEq HA.out.1 (by omega)
 have hs4:=hj4.size
 clear HT hz2 hx hj4 hk3 h3 sv3 HA HW3
 rcases bnd_some hz3 with⟨x,hx,rfl⟩|⟨y,p5,hx,hz5⟩
 ·have HT:=HE.out w4 _ _ h4 hx
  go_wp2_with fail
  refine HT.mono ?_
  rintro eX wX hpo
  obtain⟨rfl,hkX⟩:=bad_panic hpo hk4
  exact⟨rfl,rfl,hkX⟩
 have HT:=HE.out w4 _ _ h4 hx
 go_wp2_with fail
 refine HT.mono ?_
 rintro e5 w5 ⟨v5,rfl,⟨ce,rfl,hx5⟩,h5,hj5⟩
 obtain⟨b1,d1,b2,d2,hce⟩:=hx5.form
 have HCe:Hid (ce=[.int .i64 y.kind,.int .i64 y.num,.string (mkB y.text),.slice b1 y.kids.length d1,.slice b2 y.names.length d2]):=hce
 have hs5:=hj5.size
 have sv5:=sv4.keep (hj5.blk Lb sv4.lt (by omega))
 have hr5:=hj5.heapEq hr4 (by omega)
 have ht5:w5.there Lb 3 5:=fun j hj=>by have:=sv5.there (3+j) (by omega);simpa using this
 have HF:Hid (w5.there Lb 3 ce.toArray.size∧(Tryz.prog.info? 162).map (·.size)=some ce.toArray.size∧ce.toArray.all (·.oneCell')=true):=⟨by have h9:ce.toArray.size=5:=hx5.len;rw[h9];exact ht5,by have h9:ce.toArray.size=5:=hx5.len;rw[h9];exact szE,all_oneCell_toArray hx5.one⟩
 have sv6:SV (w5.setCells Lb 3 ce) Lb [.int .i64 8,.string (mkB t.text),.slice none 0 0,.int .i64 y.kind,.int .i64 y.num,.string (mkB y.text),.slice b1 y.kids.length d1,.slice b2 y.names.length d2,.slice none 0 0,.slice none 0 0]:=by rw[hce];exact sv5.sets [.int .i64 y.kind,.int .i64 y.num,.string (mkB y.text),.slice b1 y.kids.length d1,.slice b2 y.names.length d2] 3
 have hg6:∀ g,g≠Lb→(w5.setCells Lb 3 ce).heap[g]? =w5.heap[g]? :=fun g hg=>heap_sets Lb ce 3 w5 g hg
 have h6:PsA P T (w5.setCells Lb 3 ce) p5:=h5.keep (hg6 P (by omega)) (hg6 T (by omega))
 have hk6:KP P W (w5.setCells Lb 3 ce):=⟨(os_sets _ _ _ _).trans (hk4.trans hj5).os,(tape_sets _ _ _ _).trans (hk4.trans hj5).tape,(out_sets _ _ _ _).trans (hk4.trans hj5).output,by rw[size_sets];exact(hk4.trans hj5).size,fun g hg hp=>(hg6 g (by omega)).trans ((hk4.trans hj5).blk g hg hp)⟩
 have HA6:Hid ((w5.setCells Lb 3 ce).heap[W.heap.size]? =some sz∧ExA (w5.setCells Lb 3 ce) (fun g=>Lb<g∧g<w5.heap.size) y ce∧(w5.setCells Lb 3 ce).heap.size=w5.heap.size∧Lb<w5.heap.size):=⟨(hg6 _ (by omega)).trans hr5,hx5.keep (fun g hg _=>hg6 g (by omega)) (fun g hg hg2=>⟨by omega,hg2⟩),size_sets _ _ _ _,by omega⟩
 obtain⟨w6,hw6⟩:∃ w6,w6=(w5.setCells Lb 3 ce):=⟨_,rfl⟩
 rw[←hw6]at sv6 h6 hk6 HA6
 have HW6:Hid (w6=(w5.setCells Lb 3 ce)):=hw6
 clear hw6 sv4 sv5 h4 h5 hk4 hr4 hr5 hj5 hx5 HT hz3 hx ht5 hg6 hce
 rcases bnd_some hz5 with⟨x,hx,rfl⟩|⟨bl,p7,hx,hz7⟩
 ·have HT:=HB.out w6 _ _ h6 (HEr.out _ hk6) hx
  go_wp2_with (first
   |(refine wpList_store_mid rfl 162 (Operand.tmp 14) (Operand.tmp 13) rfl Lb 3 ce.toArray rfl rfl HF.out.1 HF.out.2.1 HF.out.2.2 ?_)
   |fail)
  rw[←HW6.out]
  refine HT.mono ?_
  rintro eX wX hpo
  obtain⟨rfl,hkX⟩:=bad_panic hpo hk6
  exact⟨rfl,rfl,hkX⟩
 have HT:=HB.out w6 _ _ h6 (HEr.out _ hk6) hx
 cases hz7
 go_wp2_with (first
   |(refine wpList_store_mid rfl 162 (Operand.tmp 14) (Operand.tmp 13) rfl Lb 3 ce.toArray rfl rfl HF.out.1 HF.out.2.1 HF.out.2.2 ?_)
   |fail)
 rw[←HW6.out]
 refine HT.mono ?_
 rintro e7 w7 ⟨bv,rfl,hv7,h7,hj7⟩
 obtain⟨ba,bc,rfl⟩:=hv7.shape
 obtain rfl:=HCe.out
 have hsz6:=HA6.out.2.2.1
 have hl6:=HA6.out.2.2.2
 have hs7:=hj7.size
 have sv7:=sv6.keep (hj7.blk Lb (by omega) (by omega))
 have f7:=sv7.fz 8
 have c7:=sv7.at_ 8 rfl
 have sv8:=sv7.set 8 (.slice ba bl.length bc)
 simp only[List.set_cons_zero,List.set_cons_succ]at sv8
 have hg8:∀ g,g≠Lb→(w7.setCell ⟨Lb,8,none⟩ (.slice ba bl.length bc)).heap[g]? =w7.heap[g]? :=fun g hg=>Below.heap_setCell _ ⟨Lb,8,none⟩ _ g hg
 have hr8:(w7.setCell ⟨Lb,8,none⟩ (.slice ba bl.length bc)).heap[W.heap.size]? =some sz:=(hg8 _ (by omega)).trans (hj7.heapEq HA6.out.1 (by omega))
 have hx8:ExA (w7.setCell ⟨Lb,8,none⟩ (.slice ba bl.length bc)) (fun g=>W.heap.size<g) y [.int .i64 y.kind,.int .i64 y.num,.string (mkB y.text),.slice b1 y.kids.length d1,.slice b2 y.names.length d2]:=HA6.out.2.1.keep (fun g hg hg2=>(hg8 g (by omega)).trans (hj7.blk g hg2 (by omega))) (fun g hg _=>by have:=hg.1;omega)
 have hv8:VL (W.heap.size+1) (w7.setCell ⟨Lb,8,none⟩ (.slice ba bl.length bc)) bl (.slice ba bl.length bc):=(hv7.up fun g hg _=>hg8 g (by omega)).le (by omega)
 have h8:PsA P T (w7.setCell ⟨Lb,8,none⟩ (.slice ba bl.length bc)) p7:=h7.keep (hg8 P (by omega)) (hg8 T (by omega))
 have hk8:KP P W (w7.setCell ⟨Lb,8,none⟩ (.slice ba bl.length bc)):=(hk6.trans hj7).setIn (by omega) 8 _
 have hsm:SmA (w7.setCell ⟨Lb,8,none⟩ (.slice ba bl.length bc)) (fun g=>W.heap.size≤g∧g≠W.heap.size) ⟨8,t.text,[],y,bl,[]⟩ [.int .i64 8,.string (mkB t.text),.slice none 0 0,.int .i64 y.kind,.int .i64 y.num,.string (mkB y.text),.slice b1 y.kids.length d1,.slice b2 y.names.length d2,.slice ba bl.length bc,.slice none 0 0]:=sm_of (k:=8) (t:=t.text) (ns:=[]) hx8 (World.ownsRow_nil _ _ _ _) (fun g hg=>by cases hg) hv8 (VL.nil _ _)
 obtain⟨t2,i2,o2,l2,j2⟩:=fin10 hr8 rfl hsm
 have HZ:Hid (PoA P T (VS W.heap.size) W _ (.returned (.agg (([.int .i64 8,.string (mkB t.text),.slice none 0 0,.int .i64 y.kind,.int .i64 y.num,.string (mkB y.text),.slice b1 y.kids.length d1,.slice b2 y.names.length d2,.slice ba bl.length bc,.slice none 0 0]:List Value)).toArray)) ((w7.setCell ⟨Lb,8,none⟩ (.slice ba bl.length bc)).setCells W.heap.size 0 [.int .i64 8,.string (mkB t.text),.slice none 0 0,.int .i64 y.kind,.int .i64 y.num,.string (mkB y.text),.slice b1 y.kids.length d1,.slice b2 y.names.length d2,.slice ba bl.length bc,.slice none 0 0])):=poS_fin (Nat.le_refl _) hsm (fun g hg=>hg) h8 hk8 hPl hTl
 have HG:Hid _:=(⟨sv8.2.1,j2,t2,i2,o2,l2⟩:_∧_∧_∧_∧_∧_)
 clear t2 i2 o2 l2 j2 hsm hv8 hx8 hr8 sv8 sv7 hj7 h7 h8 hk8 hk6 h6 sv6 HA6 HT hv7 hg8 hsz6
 go_wp2_with (first
  |(refine wpList_load_mid rfl 164 (Operand.tmp 3) rfl Lb 0 rfl _ _ HG.out.1 Tryz.underlying164 rfl HG.out.2.1 ?_)
  |(refine wpList_store_mid rfl 164 (Operand.tmp 2) (Operand.tmp 18) rfl W.heap.size 0 _ rfl rfl HG.out.2.2.1 HG.out.2.2.2.1 HG.out.2.2.2.2.1 ?_)
  |fail)
 refine bodyPost_ret (v:= .agg _) (res_one Tryz.results217 _ _ rfl HG.out.2.2.2.2.2) rfl HZ.out
end Go.Proofs.YthfgpkdbclogpaaGreatDoor
namespace Go.Proofs.YthfgpkdbclogpaaGreatDoor
open Go.RowKit Go.Shelf
attribute [local go_sem ↓] fld0 fld1 fld2 fld3
set_option linter.unusedSimpArgs false in
set_option linter.unusedVariables false in
theorem nr_de {P T lo Vb b:Nat}{W:World}{xs:List (List UInt8)}{nv:Value}{p:Ps}{zN:Except Ft (List UInt8×Ps)}{x2 x3 x4 x5 x6 x7 x8 x9 x10:Value}(hlo:lo≤W.heap.size)(hPl:P<lo)(hnV:nv.ownBlock≠some Vb)(hbV:b≠Vb)(hnb:nv.ownBlock≠some b)
  (hps:PsA P T W p) (hnm:∀ W',KP P W W'→W'.cell? ⟨Vb,2,none⟩=some nv∧W'.frozen? ⟨Vb,2,none⟩=false∧W'.ownsRow lo 9 1 nv xs.length (xs.map sv)∧W'.cell? ⟨b,0,none⟩=some (pt P)) (hn1:xs.length≤1000000) (hz:tkN xs p=some zN) (Q0:Exit→Act→World→Prop) (hQp:∀ c (a a':Act) w,a.defers=a'.defers→Q0 (.panic c) a w→Q0 (.panic c) a' w)
  (hpan:∀ (x:Ft) (a:Act) (w':World),a.defers=[]→zN= .error x→KP P W w'→Q0 (.panic (PC x.1 x.2)) a w')
  (hok:∀ (u2 u3 u4 u5 u6 u7 u8 u9 u10:Value) (x:List UInt8) (q:Ps) (X w2:World) (g' cap':Nat),zN= .ok (x,q)→KP P W X→PsA P T X q→X.ownsRow lo 9 1 nv xs.length (xs.map sv)→X.grownBy w2 nv.ownBlock→(nv.ownBlock=some g'∨g'=X.heap.size)→w2.ownsRow lo 9 1 (.slice (some ⟨g',0,none⟩) (xs.length+1) cap') (xs.length+1) (xs.map sv++[sv x])→Q0 .normal ⟨#[pt Vb,pt b,u2,u3,u4,u5,u6,u7,u8,u9,u10],[]⟩ (w2.setCell ⟨Vb,2,none⟩ (.slice (some ⟨g',0,none⟩) (xs.length+1) cap'))):
  Code.wp Tryz.prog (subW [] (Tryz.f252.body.getD .skip)) Q0 ⟨#[pt Vb,pt b,x2,x3,x4,x5,x6,x7,x8,x9,x10],[]⟩ W:=by
 have infN:(Tryz.prog.info? 9).map (fun i=>(i.zero,i.size,i.bytes))=some (some (.string ⟨#[]⟩),1,16):=by kernel_rfl
 obtain⟨i0,hi,hz0,hz1,hz2⟩:=info_p infN
 clear infN
 have HNm:Hid (∀ W',KP P W W'→W'.cell? ⟨Vb,2,none⟩=some nv∧W'.frozen? ⟨Vb,2,none⟩=false∧W'.ownsRow lo 9 1 nv xs.length (xs.map sv)∧W'.cell? ⟨b,0,none⟩=some (pt P)):=hnm
 have HPn:Hid (∀ (x:Ft) (a:Act) (w':World),a.defers=[]→zN= .error x→KP P W w'→Q0 (.panic (PC x.1 x.2)) a w'):=hpan
 have HOk:Hid (∀ (u2 u3 u4 u5 u6 u7 u8 u9 u10:Value) (x:List UInt8) (q:Ps) (X w2:World) (g' cap':Nat),zN= .ok (x,q)→KP P W X→PsA P T X q→X.ownsRow lo 9 1 nv xs.length (xs.map sv)→X.grownBy w2 nv.ownBlock→(nv.ownBlock=some g'∨g'=X.heap.size)→w2.ownsRow lo 9 1 (.slice (some ⟨g',0,none⟩) (xs.length+1) cap') (xs.length+1) (xs.map sv++[sv x])→Q0 .normal ⟨#[pt Vb,pt b,u2,u3,u4,u5,u6,u7,u8,u9,u10],[]⟩ (w2.setCell ⟨Vb,2,none⟩ (.slice (some ⟨g',0,none⟩) (xs.length+1) cap'))):=hok
 have hk0:KP P W W.drew:=(KP.refl P W).drew
 obtain⟨c_0,f_0,r_0,sb_0⟩:=hnm W.drew hk0
 obtain⟨an,cn,hnv⟩:=row_shape r_0
 have HD0:=takeNew_any (hps.drewN 1) (SgA.of_own r_0 hPl hn1) hz
 clear hnm hpan hok hz
 subst hnv
 have HQp:Hid (∀ c (a a':Act) w,a.defers=a'.defers→Q0 (.panic c) a w→Q0 (.panic c) a' w):=hQp
 clear hQp
 conv=>arg 2;whnf
 match zN with
 | .error x=>
  refine wp_region_held_drew (S:=fun V=>V.cell? ⟨b,0,none⟩=some (pt P)) (by kernel_rfl) sb_0 (fun hHeld=>?_)
  refine tK (i:=0) (v:= .pointer (some ⟨Vb,2,none⟩)) rfl (by kernel_rfl) HQp.out (Or.inl ⟨by rfl,?_⟩) (by assumption) ?_
  ·intro V hSV
   try dsimp only at hSV
   go_simp
   try with_reducible rfl
   try(intro h9;exfalso;omega)
  try simp only[Act.put,pA,pB,pC,pD,pE,pF]
  refine tK (i:=2) (v:=pt P) rfl (by kernel_rfl) HQp.out (Or.inl ⟨by rfl,?_⟩) (by assumption) ?_
  ·intro V hSV
   try dsimp only at hSV
   go_simp
   try with_reducible rfl
   try(intro h9;exfalso;omega)
  try simp only[Act.put,pA,pB,pC,pD,pE,pF]
  refine tK (i:=3) (v:= .pointer (some ⟨Vb,2,none⟩)) rfl (by kernel_rfl) HQp.out (Or.inl ⟨by rfl,?_⟩) (by assumption) ?_
  ·intro V hSV
   try dsimp only at hSV
   go_simp
   try with_reducible rfl
   try(intro h9;exfalso;omega)
  try simp only[Act.put,pA,pB,pC,pD,pE,pF]
  refine wpAnyH_ready (rs:=[1,4]) (by kernel_rfl) (by simp) (AllReadyH.cons rfl (fun K hK=>?_) (AllReadyH.cons rfl (fun K hK=>?_) AllReadyH.nil))
  go_simp
  refine hK.out _ _ hHeld (fun hHeld=>?_)
  clear hK K
  try simp only[Act.put,pA,pB,pC,pD,pE,pF]
  refine wpAnyH_ready (rs:=[4]) (by kernel_rfl) (by simp) (AllReadyH.cons rfl (fun K hK=>?_) AllReadyH.nil)
  go_simp
  refine hK.out _ _ hHeld (fun hHeld=>?_)
  clear hK K
  try simp only[Act.put,pA,pB,pC,pD,pE,pF]
  refine wpAnyH_ready (rs:=[5]) (by kernel_rfl) (by simp) (AllReadyH.cons rfl (fun K hK=>?_) AllReadyH.nil)
  go_simp
  refine HD0.mono ?_
  rintro e1 w1 hpo
  obtain⟨rfl,hk1⟩:=bad_panic hpo hk0
  exact HPn.out _ _ _ rfl rfl hk1
  go_simp
  refine hK.out _ _ hHeld (fun hHeld=>?_)
  clear hK K
  try simp only[Act.put,pA,pB,pC,pD,pE,pF]
  refine wpAnyH_ready (rs:=[1,5]) (by kernel_rfl) (by simp) (AllReadyH.cons rfl (fun K hK=>?_) (AllReadyH.cons rfl (fun K hK=>?_) AllReadyH.nil))
  go_simp
  refine hK.out _ _ hHeld (fun hHeld=>?_)
  clear hK K
  try simp only[Act.put,pA,pB,pC,pD,pE,pF]
  refine wpAnyH_ready (rs:=[5]) (by kernel_rfl) (by simp) (AllReadyH.cons rfl (fun K hK=>?_) AllReadyH.nil)
  go_simp
  refine HD0.mono ?_
  rintro e1 w1 hpo
  obtain⟨rfl,hk1⟩:=bad_panic hpo hk0
  exact HPn.out _ _ _ rfl rfl hk1
  go_simp
  refine HD0.mono ?_
  rintro e1 w1 hpo
  obtain⟨rfl,hk1⟩:=bad_panic hpo hk0
  exact HPn.out _ _ _ rfl rfl hk1
 | .ok (x,q)=>
  refine wp_region_held_drew (S:=fun V=>V.cell? ⟨b,0,none⟩=some (pt P)) (by kernel_rfl) sb_0 (fun hHeld=>?_)
  refine tK (i:=0) (v:= .pointer (some ⟨Vb,2,none⟩)) rfl (by kernel_rfl) HQp.out (Or.inl ⟨by rfl,?_⟩) (by assumption) ?_
  ·intro V hSV
   try dsimp only at hSV
   go_simp
   try with_reducible rfl
   try(intro h9;exfalso;omega)
  try simp only[Act.put,pA,pB,pC,pD,pE,pF]
  refine tK (i:=2) (v:=pt P) rfl (by kernel_rfl) HQp.out (Or.inl ⟨by rfl,?_⟩) (by assumption) ?_
  ·intro V hSV
   try dsimp only at hSV
   go_simp
   try with_reducible rfl
   try(intro h9;exfalso;omega)
  try simp only[Act.put,pA,pB,pC,pD,pE,pF]
  refine tK (i:=3) (v:= .pointer (some ⟨Vb,2,none⟩)) rfl (by kernel_rfl) HQp.out (Or.inl ⟨by rfl,?_⟩) (by assumption) ?_
  ·intro V hSV
   try dsimp only at hSV
   go_simp
   try with_reducible rfl
   try(intro h9;exfalso;omega)
  try simp only[Act.put,pA,pB,pC,pD,pE,pF]
  refine wpAnyH_ready (rs:=[1,4]) (by kernel_rfl) (by simp) (AllReadyH.cons rfl (fun K hK=>?_) (AllReadyH.cons rfl (fun K hK=>?_) AllReadyH.nil))
  go_simp
  refine hK.out _ _ hHeld (fun hHeld=>?_)
  clear hK K
  try simp only[Act.put,pA,pB,pC,pD,pE,pF]
  refine wpAnyH_ready (rs:=[4]) (by kernel_rfl) (by simp) (AllReadyH.cons rfl (fun K hK=>?_) AllReadyH.nil)
  go_simp
  refine hK.out _ _ hHeld (fun hHeld=>?_)
  clear hK K
  try simp only[Act.put,pA,pB,pC,pD,pE,pF]
  refine wpAnyH_ready (rs:=[5]) (by kernel_rfl) (by simp) (AllReadyH.cons rfl (fun K hK=>?_) AllReadyH.nil)
  go_simp
  refine HD0.mono ?_
  rintro e1 w1 ⟨v1,rfl,rfl,hp1,hkw1⟩
  have hk1:=hk0.trans hkw1
  obtain⟨c_1,f_1,r_1,sb_1⟩:=HNm.out w1 hk1
  have hkx:=hk1.alloc (.cells #[.string (mkB x)] 9)
  obtain⟨c_x,f_x,r_x,sb_x⟩:=HNm.out _ hkx
  have hpx:=hp1.up (alB w1 (.cells #[.string (mkB x)] 9))
  have hzx:(w1.alloc (.cells #[.string (mkB x)] 9)).heap[w1.heap.size]? =some (.cells #[.string (mkB x)] 9 (0,0)):=heap_alloc_new w1 _
  have HX:Hid (KP P W (w1.alloc (.cells #[.string (mkB x)] 9))∧PsA P T (w1.alloc (.cells #[.string (mkB x)] 9)) q):=⟨hkx,hpx⟩
  clear hkw1 hk1 hkx hp1 hpx
  refine hK.out _ _ sb_1 (fun hHeld=>?_)
  clear hK K
  try simp only[Act.put,pA,pB,pC,pD,pE,pF]
  refine wpAnyH_ready (rs:=[6]) (by kernel_rfl) (by simp) (AllReadyH.cons rfl (fun K hK=>?_) AllReadyH.nil)
  go_simp
  refine hK.out _ _ sb_x (fun hHeld=>?_)
  clear hK K
  try simp only[Act.put,pA,pB,pC,pD,pE,pF]
  have hnews:∀ (j:Nat) (u:Value),[Value.string (mkB x)][j]? =some u→(w1.alloc (.cells #[.string (mkB x)] 9)).cell? ((⟨w1.heap.size,0,none⟩:Addr).add j)=some u:=fun j u hu=>World.news_of_block hzx j u hu
  have hsX:lo≤(w1.alloc (.cells #[.string (mkB x)] 9)).heap.size:=Nat.le_trans hlo HX.out.1.size
  refine wpAnyH_ready (rs:=[7]) (by kernel_rfl) (by simp) (AllReadyH.cons rfl (fun K hK=>?_) AllReadyH.nil)
  refine step_append_lies (w1.alloc (.cells #[.string (mkB x)] 9)) (by rfl) (Operand.tmp 3) (Operand.tmp 8) 37 (by rfl) lo 9 i0 (.string ⟨#[]⟩) 1 16 Tryz.underlying37 hi hz0 hz1 hz2 rfl (by decide) (.slice an xs.length cn) xs.length (xs.map sv) (by rfl) r_x ⟨w1.heap.size,0,none⟩ 1 1 [.string (mkB x)] (by rfl) rfl hnews (by simp[Value.oneCell']) (by decide) (by unfold maxLen;omega) (by omega) hsX (w1.alloc (.cells #[.string (mkB x)] 9)).heap.size rfl ?_
  intro g' cap' w2 hown2 hgrow hat hltg
  have hVX:Vb<(w1.alloc (.cells #[.string (mkB x)] 9)).heap.size:=World.block_lt_of_cell? _ _ c_x
  have hV2:w2.heap[Vb]? =(w1.alloc (.cells #[.string (mkB x)] 9)).heap[Vb]? :=hgrow.block Vb hVX (fun e=>hnV e.symm)
  have c_2:w2.cell? ⟨Vb,2,none⟩=some (.slice an xs.length cn):=(World.cell?_of_block hV2).trans c_x
  have f_2:w2.frozen? ⟨Vb,2,none⟩=false:=by
   rw[←f_x]
   unfold World.frozen?
   rw[hV2]
  have sb_2:w2.cell? ⟨b,0,none⟩=some (pt P):=(World.cell?_of_block (hgrow.block b (World.block_lt_of_cell? _ _ sb_x) (fun e=>hnb e.symm))).trans sb_x
  have sb_4:(w2.setCell ⟨Vb,2,none⟩ (.slice (some ⟨g',0,none⟩) (xs.length+1) cap')).cell? ⟨b,0,none⟩=some (pt P):=(World.cell?_of_block (Below.heap_setCell _ ⟨Vb,2,none⟩ _ b hbV)).trans sb_2
  refine hK.out _ _ sb_2 (fun hHeld=>?_)
  clear hK K
  try simp only[Act.put,pA,pB,pC,pD,pE,pF]
  refine tK (i:=8) (v:= .pointer (some ⟨Vb,2,none⟩)) rfl (by kernel_rfl) HQp.out (Or.inl ⟨by rfl,?_⟩) (by assumption) ?_
  ·intro V hSV
   try dsimp only at hSV
   go_simp
   try with_reducible rfl
   try(intro h9;exfalso;omega)
  try simp only[Act.put,pA,pB,pC,pD,pE,pF]
  refine wpAnyH_ready (rs:=[9]) (by kernel_rfl) (by simp) (AllReadyH.cons rfl (fun K hK=>?_) AllReadyH.nil)
  go_simp
  refine hK.out _ _ sb_4 (fun hHeld=>?_)
  clear hK K
  try simp only[Act.put,pA,pB,pC,pD,pE,pF]
  refine wpAnyH_done (by kernel_rfl) ?_ _
  try simp only[Act.put,pA,pB,pC,pD,pE,pF]
  exact HOk.out _ _ _ _ _ _ _ _ _ x q (w1.alloc (.cells #[.string (mkB x)] 9)) w2 g' cap' rfl HX.out.1 HX.out.2 r_x hgrow hat hown2
  go_simp
  refine hK.out _ _ hHeld (fun hHeld=>?_)
  clear hK K
  try simp only[Act.put,pA,pB,pC,pD,pE,pF]
  refine wpAnyH_ready (rs:=[1,5]) (by kernel_rfl) (by simp) (AllReadyH.cons rfl (fun K hK=>?_) (AllReadyH.cons rfl (fun K hK=>?_) AllReadyH.nil))
  go_simp
  refine hK.out _ _ hHeld (fun hHeld=>?_)
  clear hK K
  try simp only[Act.put,pA,pB,pC,pD,pE,pF]
  refine wpAnyH_ready (rs:=[5]) (by kernel_rfl) (by simp) (AllReadyH.cons rfl (fun K hK=>?_) AllReadyH.nil)
  go_simp
  refine HD0.mono ?_
  rintro e1 w1 ⟨v1,rfl,rfl,hp1,hkw1⟩
  have hk1:=hk0.trans hkw1
  obtain⟨c_1,f_1,r_1,sb_1⟩:=HNm.out w1 hk1
  have hkx:=hk1.alloc (.cells #[.string (mkB x)] 9)
  obtain⟨c_x,f_x,r_x,sb_x⟩:=HNm.out _ hkx
  have hpx:=hp1.up (alB w1 (.cells #[.string (mkB x)] 9))
  have hzx:(w1.alloc (.cells #[.string (mkB x)] 9)).heap[w1.heap.size]? =some (.cells #[.string (mkB x)] 9 (0,0)):=heap_alloc_new w1 _
  have HX:Hid (KP P W (w1.alloc (.cells #[.string (mkB x)] 9))∧PsA P T (w1.alloc (.cells #[.string (mkB x)] 9)) q):=⟨hkx,hpx⟩
  clear hkw1 hk1 hkx hp1 hpx
  refine hK.out _ _ sb_1 (fun hHeld=>?_)
  clear hK K
  try simp only[Act.put,pA,pB,pC,pD,pE,pF]
  refine wpAnyH_ready (rs:=[6]) (by kernel_rfl) (by simp) (AllReadyH.cons rfl (fun K hK=>?_) AllReadyH.nil)
  go_simp
  refine hK.out _ _ sb_x (fun hHeld=>?_)
  clear hK K
  try simp only[Act.put,pA,pB,pC,pD,pE,pF]
  have hnews:∀ (j:Nat) (u:Value),[Value.string (mkB x)][j]? =some u→(w1.alloc (.cells #[.string (mkB x)] 9)).cell? ((⟨w1.heap.size,0,none⟩:Addr).add j)=some u:=fun j u hu=>World.news_of_block hzx j u hu
  have hsX:lo≤(w1.alloc (.cells #[.string (mkB x)] 9)).heap.size:=Nat.le_trans hlo HX.out.1.size
  refine wpAnyH_ready (rs:=[7]) (by kernel_rfl) (by simp) (AllReadyH.cons rfl (fun K hK=>?_) AllReadyH.nil)
  refine step_append_lies (w1.alloc (.cells #[.string (mkB x)] 9)) (by rfl) (Operand.tmp 3) (Operand.tmp 8) 37 (by rfl) lo 9 i0 (.string ⟨#[]⟩) 1 16 Tryz.underlying37 hi hz0 hz1 hz2 rfl (by decide) (.slice an xs.length cn) xs.length (xs.map sv) (by rfl) r_x ⟨w1.heap.size,0,none⟩ 1 1 [.string (mkB x)] (by rfl) rfl hnews (by simp[Value.oneCell']) (by decide) (by unfold maxLen;omega) (by omega) hsX (w1.alloc (.cells #[.string (mkB x)] 9)).heap.size rfl ?_
  intro g' cap' w2 hown2 hgrow hat hltg
  have hVX:Vb<(w1.alloc (.cells #[.string (mkB x)] 9)).heap.size:=World.block_lt_of_cell? _ _ c_x
  have hV2:w2.heap[Vb]? =(w1.alloc (.cells #[.string (mkB x)] 9)).heap[Vb]? :=hgrow.block Vb hVX (fun e=>hnV e.symm)
  have c_2:w2.cell? ⟨Vb,2,none⟩=some (.slice an xs.length cn):=(World.cell?_of_block hV2).trans c_x
  have f_2:w2.frozen? ⟨Vb,2,none⟩=false:=by
   rw[←f_x]
   unfold World.frozen?
   rw[hV2]
  have sb_2:w2.cell? ⟨b,0,none⟩=some (pt P):=(World.cell?_of_block (hgrow.block b (World.block_lt_of_cell? _ _ sb_x) (fun e=>hnb e.symm))).trans sb_x
  have sb_4:(w2.setCell ⟨Vb,2,none⟩ (.slice (some ⟨g',0,none⟩) (xs.length+1) cap')).cell? ⟨b,0,none⟩=some (pt P):=(World.cell?_of_block (Below.heap_setCell _ ⟨Vb,2,none⟩ _ b hbV)).trans sb_2
  refine hK.out _ _ sb_2 (fun hHeld=>?_)
  clear hK K
  try simp only[Act.put,pA,pB,pC,pD,pE,pF]
  refine tK (i:=8) (v:= .pointer (some ⟨Vb,2,none⟩)) rfl (by kernel_rfl) HQp.out (Or.inl ⟨by rfl,?_⟩) (by assumption) ?_
  ·intro V hSV
   try dsimp only at hSV
   go_simp
   try with_reducible rfl
   try(intro h9;exfalso;omega)
  try simp only[Act.put,pA,pB,pC,pD,pE,pF]
  refine wpAnyH_ready (rs:=[9]) (by kernel_rfl) (by simp) (AllReadyH.cons rfl (fun K hK=>?_) AllReadyH.nil)
  go_simp
  refine hK.out _ _ sb_4 (fun hHeld=>?_)
  clear hK K
  try simp only[Act.put,pA,pB,pC,pD,pE,pF]
  refine wpAnyH_done (by kernel_rfl) ?_ _
  try simp only[Act.put,pA,pB,pC,pD,pE,pF]
  exact HOk.out _ _ _ _ _ _ _ _ _ x q (w1.alloc (.cells #[.string (mkB x)] 9)) w2 g' cap' rfl HX.out.1 HX.out.2 r_x hgrow hat hown2
  go_simp
  refine HD0.mono ?_
  rintro e1 w1 ⟨v1,rfl,rfl,hp1,hkw1⟩
  have hk1:=hk0.trans hkw1
  obtain⟨c_1,f_1,r_1,sb_1⟩:=HNm.out w1 hk1
  have hkx:=hk1.alloc (.cells #[.string (mkB x)] 9)
  obtain⟨c_x,f_x,r_x,sb_x⟩:=HNm.out _ hkx
  have hpx:=hp1.up (alB w1 (.cells #[.string (mkB x)] 9))
  have hzx:(w1.alloc (.cells #[.string (mkB x)] 9)).heap[w1.heap.size]? =some (.cells #[.string (mkB x)] 9 (0,0)):=heap_alloc_new w1 _
  have HX:Hid (KP P W (w1.alloc (.cells #[.string (mkB x)] 9))∧PsA P T (w1.alloc (.cells #[.string (mkB x)] 9)) q):=⟨hkx,hpx⟩
  clear hkw1 hk1 hkx hp1 hpx
  refine hK.out _ _ sb_1 (fun hHeld=>?_)
  clear hK K
  try simp only[Act.put,pA,pB,pC,pD,pE,pF]
  refine wpAnyH_ready (rs:=[1,6]) (by kernel_rfl) (by simp) (AllReadyH.cons rfl (fun K hK=>?_) (AllReadyH.cons rfl (fun K hK=>?_) AllReadyH.nil))
  go_simp
  refine hK.out _ _ hHeld (fun hHeld=>?_)
  clear hK K
  try simp only[Act.put,pA,pB,pC,pD,pE,pF]
  refine wpAnyH_ready (rs:=[6]) (by kernel_rfl) (by simp) (AllReadyH.cons rfl (fun K hK=>?_) AllReadyH.nil)
  go_simp
  refine hK.out _ _ sb_x (fun hHeld=>?_)
  clear hK K
  try simp only[Act.put,pA,pB,pC,pD,pE,pF]
  have hnews:∀ (j:Nat) (u:Value),[Value.string (mkB x)][j]? =some u→(w1.alloc (.cells #[.string (mkB x)] 9)).cell? ((⟨w1.heap.size,0,none⟩:Addr).add j)=some u:=fun j u hu=>World.news_of_block hzx j u hu
  have hsX:lo≤(w1.alloc (.cells #[.string (mkB x)] 9)).heap.size:=Nat.le_trans hlo HX.out.1.size
  refine wpAnyH_ready (rs:=[7]) (by kernel_rfl) (by simp) (AllReadyH.cons rfl (fun K hK=>?_) AllReadyH.nil)
  refine step_append_lies (w1.alloc (.cells #[.string (mkB x)] 9)) (by rfl) (Operand.tmp 3) (Operand.tmp 8) 37 (by rfl) lo 9 i0 (.string ⟨#[]⟩) 1 16 Tryz.underlying37 hi hz0 hz1 hz2 rfl (by decide) (.slice an xs.length cn) xs.length (xs.map sv) (by rfl) r_x ⟨w1.heap.size,0,none⟩ 1 1 [.string (mkB x)] (by rfl) rfl hnews (by simp[Value.oneCell']) (by decide) (by unfold maxLen;omega) (by omega) hsX (w1.alloc (.cells #[.string (mkB x)] 9)).heap.size rfl ?_
  intro g' cap' w2 hown2 hgrow hat hltg
  have hVX:Vb<(w1.alloc (.cells #[.string (mkB x)] 9)).heap.size:=World.block_lt_of_cell? _ _ c_x
  have hV2:w2.heap[Vb]? =(w1.alloc (.cells #[.string (mkB x)] 9)).heap[Vb]? :=hgrow.block Vb hVX (fun e=>hnV e.symm)
  have c_2:w2.cell? ⟨Vb,2,none⟩=some (.slice an xs.length cn):=(World.cell?_of_block hV2).trans c_x
  have f_2:w2.frozen? ⟨Vb,2,none⟩=false:=by
   rw[←f_x]
   unfold World.frozen?
   rw[hV2]
  have sb_2:w2.cell? ⟨b,0,none⟩=some (pt P):=(World.cell?_of_block (hgrow.block b (World.block_lt_of_cell? _ _ sb_x) (fun e=>hnb e.symm))).trans sb_x
  have sb_4:(w2.setCell ⟨Vb,2,none⟩ (.slice (some ⟨g',0,none⟩) (xs.length+1) cap')).cell? ⟨b,0,none⟩=some (pt P):=(World.cell?_of_block (Below.heap_setCell _ ⟨Vb,2,none⟩ _ b hbV)).trans sb_2
  refine hK.out _ _ sb_2 (fun hHeld=>?_)
  clear hK K
  try simp only[Act.put,pA,pB,pC,pD,pE,pF]
  refine tK (i:=8) (v:= .pointer (some ⟨Vb,2,none⟩)) rfl (by kernel_rfl) HQp.out (Or.inl ⟨by rfl,?_⟩) (by assumption) ?_
  ·intro V hSV
   try dsimp only at hSV
   go_simp
   try with_reducible rfl
   try(intro h9;exfalso;omega)
  try simp only[Act.put,pA,pB,pC,pD,pE,pF]
  refine wpAnyH_ready (rs:=[9]) (by kernel_rfl) (by simp) (AllReadyH.cons rfl (fun K hK=>?_) AllReadyH.nil)
  go_simp
  refine hK.out _ _ sb_4 (fun hHeld=>?_)
  clear hK K
  try simp only[Act.put,pA,pB,pC,pD,pE,pF]
  refine wpAnyH_done (by kernel_rfl) ?_ _
  try simp only[Act.put,pA,pB,pC,pD,pE,pF]
  exact HOk.out _ _ _ _ _ _ _ _ _ x q (w1.alloc (.cells #[.string (mkB x)] 9)) w2 g' cap' rfl HX.out.1 HX.out.2 r_x hgrow hat hown2
  go_simp
  refine hK.out _ _ sb_x (fun hHeld=>?_)
  clear hK K
  try simp only[Act.put,pA,pB,pC,pD,pE,pF]
  refine wpAnyH_ready (rs:=[1]) (by kernel_rfl) (by simp) (AllReadyH.cons rfl (fun K hK=>?_) AllReadyH.nil)
  go_simp
  refine hK.out _ _ hHeld (fun hHeld=>?_)
  clear hK K
  try simp only[Act.put,pA,pB,pC,pD,pE,pF]
  have hnews:∀ (j:Nat) (u:Value),[Value.string (mkB x)][j]? =some u→(w1.alloc (.cells #[.string (mkB x)] 9)).cell? ((⟨w1.heap.size,0,none⟩:Addr).add j)=some u:=fun j u hu=>World.news_of_block hzx j u hu
  have hsX:lo≤(w1.alloc (.cells #[.string (mkB x)] 9)).heap.size:=Nat.le_trans hlo HX.out.1.size
  refine wpAnyH_ready (rs:=[7]) (by kernel_rfl) (by simp) (AllReadyH.cons rfl (fun K hK=>?_) AllReadyH.nil)
  refine step_append_lies (w1.alloc (.cells #[.string (mkB x)] 9)) (by rfl) (Operand.tmp 3) (Operand.tmp 8) 37 (by rfl) lo 9 i0 (.string ⟨#[]⟩) 1 16 Tryz.underlying37 hi hz0 hz1 hz2 rfl (by decide) (.slice an xs.length cn) xs.length (xs.map sv) (by rfl) r_x ⟨w1.heap.size,0,none⟩ 1 1 [.string (mkB x)] (by rfl) rfl hnews (by simp[Value.oneCell']) (by decide) (by unfold maxLen;omega) (by omega) hsX (w1.alloc (.cells #[.string (mkB x)] 9)).heap.size rfl ?_
  intro g' cap' w2 hown2 hgrow hat hltg
  have hVX:Vb<(w1.alloc (.cells #[.string (mkB x)] 9)).heap.size:=World.block_lt_of_cell? _ _ c_x
  have hV2:w2.heap[Vb]? =(w1.alloc (.cells #[.string (mkB x)] 9)).heap[Vb]? :=hgrow.block Vb hVX (fun e=>hnV e.symm)
  have c_2:w2.cell? ⟨Vb,2,none⟩=some (.slice an xs.length cn):=(World.cell?_of_block hV2).trans c_x
  have f_2:w2.frozen? ⟨Vb,2,none⟩=false:=by
   rw[←f_x]
   unfold World.frozen?
   rw[hV2]
  have sb_2:w2.cell? ⟨b,0,none⟩=some (pt P):=(World.cell?_of_block (hgrow.block b (World.block_lt_of_cell? _ _ sb_x) (fun e=>hnb e.symm))).trans sb_x
  have sb_4:(w2.setCell ⟨Vb,2,none⟩ (.slice (some ⟨g',0,none⟩) (xs.length+1) cap')).cell? ⟨b,0,none⟩=some (pt P):=(World.cell?_of_block (Below.heap_setCell _ ⟨Vb,2,none⟩ _ b hbV)).trans sb_2
  refine hK.out _ _ sb_2 (fun hHeld=>?_)
  clear hK K
  try simp only[Act.put,pA,pB,pC,pD,pE,pF]
  refine tK (i:=8) (v:= .pointer (some ⟨Vb,2,none⟩)) rfl (by kernel_rfl) HQp.out (Or.inl ⟨by rfl,?_⟩) (by assumption) ?_
  ·intro V hSV
   try dsimp only at hSV
   go_simp
   try with_reducible rfl
   try(intro h9;exfalso;omega)
  try simp only[Act.put,pA,pB,pC,pD,pE,pF]
  refine wpAnyH_ready (rs:=[9]) (by kernel_rfl) (by simp) (AllReadyH.cons rfl (fun K hK=>?_) AllReadyH.nil)
  go_simp
  refine hK.out _ _ sb_4 (fun hHeld=>?_)
  clear hK K
  try simp only[Act.put,pA,pB,pC,pD,pE,pF]
  refine wpAnyH_done (by kernel_rfl) ?_ _
  try simp only[Act.put,pA,pB,pC,pD,pE,pF]
  exact HOk.out _ _ _ _ _ _ _ _ _ x q (w1.alloc (.cells #[.string (mkB x)] 9)) w2 g' cap' rfl HX.out.1 HX.out.2 r_x hgrow hat hown2
end Go.Proofs.YthfgpkdbclogpaaGreatDoor
namespace Go.Proofs.YthfgpkdbclogpaaGreatDoor
open Go.RowKit Go.Shelf
attribute [local go_sem ↓] fld0 fld1 fld2 fld3
structure LDf (P T lo Lb:Nat)(t:Tk)(W0 W:World)(l:List (List UInt8))(p:Ps):Prop where
 ps:PsA P T W p
 fr:FrL P lo Lb W0 W
 nm:∃ nv,SV W Lb [.int .i64 6,.string (mkB t.text),nv,.int .i64 0,.int .i64 0,.string ⟨#[]⟩,.slice none 0 0,.slice none 0 0,.slice none 0 0,.slice none 0 0]∧W.ownsRow lo 9 1 nv l.length (l.map sv)∧nv.ownBlock≠some Lb
theorem LDf.kp {P T lo Lb:Nat}{t:Tk}{W0 W w':World}{l:List (List UInt8)}{p p':Ps}(h:LDf P T lo Lb t W0 W l p)(k:KP P W w')(hp:PsA P T w' p')(hP:P<lo)(hPL:Lb≠P):LDf P T lo Lb t W0 w' l p':=by
 obtain⟨nv,h1,h2,h3⟩:=h.nm
 exact⟨hp,h.fr.kp k,nv,h1.keep (k.blk _ h1.lt hPL),own_heap h2 fun g hg=>k.blk g (h2.lt g hg).2 (by have:=(h2.lt g hg).1;omega),h3⟩
theorem ldf_liv {P T lo Lb:Nat}{t:Tk}{W0:World}(hP:P<lo)(hPL:Lb≠P):Liv P T (LDf P T lo Lb t W0) (FrL P lo Lb W0):=
 ⟨fun _ _ _ h=>h.ps,fun _ _ _ _ _ h k hp=>h.kp k hp hP hPL,fun _ _ _ h=>h.fr,fun _ _ h k=>h.kp k⟩
theorem defE_any {P T lo Lb b:Nat}{t:Tk}{W0:World}(hP:P<lo)(hT:T<lo)(hPL:Lb≠P)(hTL:T≠Lb)(hbl:b<lo)(hbP:b≠P)(hbL:b≠Lb)(hb:W0.cell? ⟨b,0,none⟩=some (pt P)):
  EachC 252 #[pt Lb,pt b] (LDf P T lo Lb t W0) (FrL P lo Lb W0) nmE:=by
 refine⟨enters_of Tryz.func252 (by kernel_rfl) rfl,fun W s p z h hz=>?_⟩
 obtain⟨hn,hz9⟩:=iff_some hz
 have hn1:s.length≤1000000:=by have:=of_decide_eq_true hn;omega
 have HSb:Hid (∀ V,FrL P lo Lb W0 V→V.cell? ⟨b,0,none⟩=some (pt P)):=fun V hV=>(World.cell?_of_block (hV.blk b hbl hbP hbL)).trans hb
 have HLi:Hid (LDf P T lo Lb t W0 W s p):=h
 have HCo:Hid (P<lo∧T<lo∧Lb≠P∧T≠Lb∧b<lo∧b≠P∧b≠Lb):=⟨hP,hT,hPL,hTL,hbl,hbP,hbL⟩
 obtain⟨nv,sv1,nr,nn⟩:=h.nm
 have hnm:∀ W',KP P W W'→W'.cell? ⟨Lb,2,none⟩=some nv∧W'.frozen? ⟨Lb,2,none⟩=false∧W'.ownsRow lo 9 1 nv s.length (s.map sv)∧W'.cell? ⟨b,0,none⟩=some (pt P):=fun W' hk=>by
  have s2:=sv1.keep (hk.blk _ sv1.lt HCo.out.2.2.1)
  exact⟨s2.at_ 2 rfl,s2.fz 2,own_heap nr fun g hg=>hk.blk g (nr.lt g hg).2 (by have:=(nr.lt g hg).1;have:=HCo.out.1;omega),HSb.out _ (HLi.out.fr.kp hk)⟩
 have hnb:nv.ownBlock≠some b:=fun e=>by have h1:=(nr.lt b e).1;omega
 have hlo:=h.fr.size
 have hps:=h.ps
 obtain⟨R1,hR1⟩:∃ R,R=subW [] (Tryz.f252.body.getD .skip):=⟨_,rfl⟩
 have HR1:Hid (R1=subW [] (Tryz.f252.body.getD .skip)):=hR1
 have hl1:subW [] (Tryz.f252.body.getD .skip)=R1:=hR1.symm
 conv at hl1=>lhs;whnf
 go_enter Tryz.func252,Tryz.ntmps252
 rw[hl1,HR1.out]
 clear hl1 hR1 h hz hn
 rcases bnd_some hz9 with⟨x,hx,rfl⟩|⟨x,q,hx,hq⟩
 ·refine nr_de hlo hP nn hbL hnb hps hnm hn1 hx _ (fun _ _ _ _ hd h=>⟨hd.symm.trans h.1,h.2⟩) ?_ ?_
  ·intro x9 a w' hd9 e9 hk
   cases e9
   exact⟨hd9,lpo_err (HLi.out.fr.kp hk)⟩
  ·intro u2 u3 u4 u5 u6 u7 u8 u9 u10 x q X w2 g' cap' e9
   cases e9
 ·cases hq
  refine nr_de hlo hP nn hbL hnb hps hnm hn1 hx _ (fun _ _ _ _ hd h=>⟨hd.symm.trans h.1,h.2⟩) ?_ ?_
  ·intro x9 a w' hd9 e9 hk
   cases e9
  ·intro u2 u3 u4 u5 u6 u7 u8 u9 u10 x' q' X w2 g' cap' e9 hkX hpX hrX hgrow hat hown2
   cases e9
   have fX:=HLi.out.fr.kp hkX
   have svX:=sv1.keep (hkX.blk _ sv1.lt hPL)
   have hLX:=svX.lt
   have hgL:g'≠Lb:=by
    rcases hat with h1|h1
    ·exact fun e=>nn (e▸h1)
    ·omega
   have hlo':lo≤g':=by
    rcases hat with h1|h1
    ·exact(hrX.lt _ h1).1
    ·rw[h1];exact fX.size
   have sv2:=svX.keep (hgrow.block Lb hLX (fun e=>nn e.symm))
   have sv3:=sv2.set 2 (.slice (some ⟨g',0,none⟩) (s.length+1) cap')
   simp only[List.set_cons_zero,List.set_cons_succ]at sv3
   have hg3:∀ g,g<X.heap.size→nv.ownBlock≠some g→g≠Lb→(w2.setCell ⟨Lb,2,none⟩ (.slice (some ⟨g',0,none⟩) (s.length+1) cap')).heap[g]? =X.heap[g]? :=fun g h1 h2 h3=>(Below.heap_setCell _ ⟨Lb,2,none⟩ _ g h3).trans (hgrow.block g h1 fun e=>h2 e.symm)
   have hnl:∀ g,g<lo→nv.ownBlock≠some g:=fun g hg e=>by have:=(nr.lt _ e).1;omega
   have hsX:=fX.size
   have hF3:FrL P lo Lb W0 (w2.setCell ⟨Lb,2,none⟩ (.slice (some ⟨g',0,none⟩) (s.length+1) cap')):=⟨hgrow.os.trans fX.os,hgrow.tape.trans fX.tape,hgrow.output.trans fX.output,by rw[size_set];exact Nat.le_trans fX.size hgrow.size,fun g h1 h2 h3=>(hg3 g (by omega) (hnl g h1) h3).trans (fX.blk g h1 h2 h3)⟩
   have hp3:=hpX.keep (hg3 P (by omega) (hnl P hP) (fun e=>hPL e.symm)) (hg3 T (by omega) (hnl T hT) hTL)
   go_end0
   exact⟨rfl,hp3,hF3,_,sv3,by simpa using own_heap hown2 (fun g hg=>Below.heap_setCell _ ⟨Lb,2,none⟩ _ g (fun e=>hgL ((ob_eq hg).trans e))),fun e=>hgL (ob_eq e)⟩
theorem PsA.inTo {P T:Nat}{w:World}{p:Ps}(h:PsA P T w p)(d:Bool):PsA P T (w.setCell ⟨P,3,none⟩ (.bool d)) (p.din d):=by
 obtain⟨a,c,o,h1,h2,h3,h4,h5,h6,h7,h8,h9⟩:=h
 refine⟨a,c,o,?_,h2,h3,h4,fun j hj=>?_,h6,by simp[World.setCell];exact h7,h8,h9⟩
 ·rw[Go.Joins.block_setCell h1];rfl
 ·show _=(tcs p.toks)[j]?
  rw[←h5 j hj]
  have e2:=Below.heap_setCell w ⟨P,3,none⟩ (.bool d) T h6
  simp[World.cell?,e2]
end Go.Proofs.YthfgpkdbclogpaaGreatDoor
