/- 35. -/
import Derived.Test.YthfgpkdbclogpaaGreatDoorTx28
set_option maxHeartbeats 40000000
set_option maxRecDepth 100000
namespace Go.Proofs.YthfgpkdbclogpaaGreatDoor
open Go.RowKit Go.Shelf
attribute [local go_sem ↓] fld0 fld1 fld2 fld3
set_option linter.unusedSimpArgs false in
theorem kr_ea1 {Sx:Nat→Prop}{P T lo Eb:Nat}{W0 W:World}{E:Ps→Px Ex}{s:Ex}{p:Ps}{zE:Except Ft (Ex×Ps)}{x2 x3 x4 x5 x6 x7 x8 x9 x10 x11 x12 x13 x14 x15 x16 x17 x18 x19 x20 x21 x22 x23 x24 x25 x26 x27 x28 x29 x30 x31 x32 x33 x34 x35 x36 x37 x38 x39 x40 x41 x42 x43 x44 x45 x46:Value}(hEx:MethC P T 247 E)(hP:P<lo)(hT:T<lo)(hSx:∀ g,Sx g→g<lo∧g≠P∧g≠Eb)(hPE:Eb≠P)(hTE:T≠Eb)
  (h:LI Sx P T lo Eb W0 W s p) (hn1:s.kids.length<1000001) (hz:E p=some zE) (Q0:Exit→Act→World→Prop) (hQp:∀ c (a a':Act) w,a.defers=a'.defers→Q0 (.panic c) a w→Q0 (.panic c) a' w)
  (hpan:∀ (x:Ft) (a:Act) (w':World),a.defers=[]→zE= .error x→FrL P lo Eb W0 w'→Q0 (.panic (PC x.1 x.2)) a w')
  (hok:∀ (y:Ex) (q:Ps) (u15 u16 u17 u18 u19 u20 u21 u22 u23 u24 u25 u26:Value) (w':World),zE= .ok (y,q)→LI Sx P T lo Eb W0 w' (s.kid y) q→Q0 .normal ⟨#[pt P,pt Eb,x2,x3,x4,x5,x6,x7,x8,x9,x10,x11,x12,x13,x14,u15,u16,u17,u18,u19,u20,u21,u22,u23,u24,u25,u26,x27,x28,x29,x30,x31,x32,x33,x34,x35,x36,x37,x38,x39,x40,x41,x42,x43,x44,x45,x46],[]⟩ w'):
  Code.wp Tryz.prog (subW [true,true,false] (Tryz.f327.body.getD .skip)) Q0 ⟨#[pt P,pt Eb,x2,x3,x4,x5,x6,x7,x8,x9,x10,x11,x12,x13,x14,x15,x16,x17,x18,x19,x20,x21,x22,x23,x24,x25,x26,x27,x28,x29,x30,x31,x32,x33,x34,x35,x36,x37,x38,x39,x40,x41,x42,x43,x44,x45,x46],[]⟩ W:=by
 obtain⟨i0,hi,hz0,hz1,hz2⟩:=info_p infEx
 obtain⟨hps,fr,kv,nv,vs,bu⟩:=h
 have HSb:Hid (∀ V,FrL P lo Eb W0 V→True):=fun _ _=>trivial
 have HPn:Hid (∀ (x:Ft) (a:Act) (w':World),a.defers=[]→zE= .error x→FrL P lo Eb W0 w'→Q0 (.panic (PC x.1 x.2)) a w'):=hpan
 have HOk:Hid (∀ (y:Ex) (q:Ps) (u15 u16 u17 u18 u19 u20 u21 u22 u23 u24 u25 u26:Value) (w':World),zE= .ok (y,q)→LI Sx P T lo Eb W0 w' (s.kid y) q→Q0 .normal ⟨#[pt P,pt Eb,x2,x3,x4,x5,x6,x7,x8,x9,x10,x11,x12,x13,x14,u15,u16,u17,u18,u19,u20,u21,u22,u23,u24,u25,u26,x27,x28,x29,x30,x31,x32,x33,x34,x35,x36,x37,x38,x39,x40,x41,x42,x43,x44,x45,x46],[]⟩ w'):=hok
 obtain⟨ak,ck,rfl⟩:=row_shape bu.kr
 have fr0:=fr.drew
 have bu0:BuB Sx lo Eb W.drew s (.slice ak s.kids.length ck) nv vs:=bu.keep rfl (fun _ _ _ _=>rfl)
 have fr5:=fr0.al ez
 have bu5:=bu0.al ez
 have hz5:(W.drew.alloc ez).heap[W.heap.size]? =some ez:=heap_alloc_new W.drew ez
 have sb_0:=HSb.out _ fr0
 have sb_5:=HSb.out _ fr5
 have c3_0:W.drew.cell? ⟨Eb,3,none⟩=some (.slice ak s.kids.length ck):=bu0.ev.five.2.2.2.1
 have c3_5a:(W.drew.alloc ez).cell? ⟨Eb,3,none⟩=some (.slice ak s.kids.length ck):=bu5.ev.five.2.2.2.1
 have c3_5b:(W.alloc ez).cell? ⟨Eb,3,none⟩=some (.slice ak s.kids.length ck):=c3_5a
 have hp0:PsA P T W.drew p:=hps.drewN 1
 have hp5:=hp0.up (alB W.drew ez)
 have HD0:=hEx W.drew p _ hp0 hz
 have HD5:=hEx (W.drew.alloc ez) p _ hp5 hz
 clear fr bu hps hpan hok hz hEx hp0 hp5
 have HQp:Hid (∀ c (a a':Act) w,a.defers=a'.defers→Q0 (.panic c) a w→Q0 (.panic c) a' w):=hQp
 clear hQp
 conv=>arg 2;whnf
 match zE with
 | .error x=>
  refine wp_region_held_drew (S:=fun _=>True) (by kernel_rfl) sb_0 (fun hHeld=>?_)
  refine tK (i:=0) (v:=pt Eb) rfl (by kernel_rfl) HQp.out (Or.inl ⟨by rfl,?_⟩) (by assumption) ?_
  ·intro V hSV
   try dsimp only at hSV
   go_simp
   try with_reducible rfl
   try(intro h9;exfalso;omega)
  try simp only[Act.put,pA,pB,pC,pD,pE,pF]
  refine tK (i:=1) (v:=pt Eb) rfl (by kernel_rfl) HQp.out (Or.inl ⟨by rfl,?_⟩) (by assumption) ?_
  ·intro V hSV
   try dsimp only at hSV
   go_simp
   try with_reducible rfl
   try(intro h9;exfalso;omega)
  try simp only[Act.put,pA,pB,pC,pD,pE,pF]
  refine tK (i:=2) (v:= .pointer (some ⟨Eb,3,none⟩)) rfl (by kernel_rfl) HQp.out (Or.inl ⟨by rfl,?_⟩) (by assumption) ?_
  ·intro V hSV
   try dsimp only at hSV
   go_simp
   try with_reducible rfl
   try(intro h9;exfalso;omega)
  try simp only[Act.put,pA,pB,pC,pD,pE,pF]
  refine tK (i:=4) (v:=pt P) rfl (by kernel_rfl) HQp.out (Or.inl ⟨by rfl,?_⟩) (by assumption) ?_
  ·intro V hSV
   try dsimp only at hSV
   go_simp
   try with_reducible rfl
   try(intro h9;exfalso;omega)
  try simp only[Act.put,pA,pB,pC,pD,pE,pF]
  refine wpAnyH_ready (rs:=[3,5,7]) (by kernel_rfl) (by simp) (AllReadyH.cons rfl (fun K hK=>?_) (AllReadyH.cons rfl (fun K hK=>?_) (AllReadyH.cons rfl (fun K hK=>?_) AllReadyH.nil)))
  go_simp
  refine hK.out _ _ hHeld (fun hHeld=>?_)
  clear hK K
  try simp only[Act.put,pA,pB,pC,pD,pE,pF]
  refine tK (i:=6) (v:= .int .i64 (s.kids.length:Int)) rfl (by kernel_rfl) HQp.out (Or.inl ⟨by rfl,?_⟩) (by assumption) ?_
  ·intro V hSV
   try dsimp only at hSV
   go_simp
   try with_reducible rfl
   try(intro h9;exfalso;omega)
  try simp only[Act.put,pA,pB,pC,pD,pE,pF]
  refine wpAnyH_ready (rs:=[5,7]) (by kernel_rfl) (by simp) (AllReadyH.cons rfl (fun K hK=>?_) (AllReadyH.cons rfl (fun K hK=>?_) AllReadyH.nil))
  go_simp
  refine HD0.mono ?_
  rintro e1 w1 hpo
  obtain⟨rfl,hk1⟩:=bad_panic hpo (KP.refl P W.drew)
  exact HPn.out _ _ _ rfl rfl (fr0.kp hk1)
  go_simp
  refine hK.out _ _ sb_5 (fun hHeld=>?_)
  clear hK K
  try simp only[Act.put,pA,pB,pC,pD,pE,pF]
  refine wpAnyH_ready (rs:=[5]) (by kernel_rfl) (by simp) (AllReadyH.cons rfl (fun K hK=>?_) AllReadyH.nil)
  go_simp
  refine HD5.mono ?_
  rintro e1 w1 hpo
  obtain⟨rfl,hk1⟩:=bad_panic hpo (KP.refl P (W.drew.alloc ez))
  exact HPn.out _ _ _ rfl rfl (fr5.kp hk1)
  go_simp
  refine HD0.mono ?_
  rintro e1 w1 hpo
  obtain⟨rfl,hk1⟩:=bad_panic hpo (KP.refl P W.drew)
  exact HPn.out _ _ _ rfl rfl (fr0.kp hk1)
  go_simp
  refine hK.out _ _ sb_5 (fun hHeld=>?_)
  clear hK K
  try simp only[Act.put,pA,pB,pC,pD,pE,pF]
  refine wpAnyH_ready (rs:=[3,5]) (by kernel_rfl) (by simp) (AllReadyH.cons rfl (fun K hK=>?_) (AllReadyH.cons rfl (fun K hK=>?_) AllReadyH.nil))
  go_simp
  refine hK.out _ _ hHeld (fun hHeld=>?_)
  clear hK K
  try simp only[Act.put,pA,pB,pC,pD,pE,pF]
  refine tK (i:=6) (v:= .int .i64 (s.kids.length:Int)) rfl (by kernel_rfl) HQp.out (Or.inl ⟨by rfl,?_⟩) (by assumption) ?_
  ·intro V hSV
   try dsimp only at hSV
   go_simp
   try with_reducible rfl
   try(intro h9;exfalso;omega)
  try simp only[Act.put,pA,pB,pC,pD,pE,pF]
  refine wpAnyH_ready (rs:=[5]) (by kernel_rfl) (by simp) (AllReadyH.cons rfl (fun K hK=>?_) AllReadyH.nil)
  go_simp
  refine HD5.mono ?_
  rintro e1 w1 hpo
  obtain⟨rfl,hk1⟩:=bad_panic hpo (KP.refl P (W.drew.alloc ez))
  exact HPn.out _ _ _ rfl rfl (fr5.kp hk1)
  go_simp
  refine HD5.mono ?_
  rintro e1 w1 hpo
  obtain⟨rfl,hk1⟩:=bad_panic hpo (KP.refl P (W.drew.alloc ez))
  exact HPn.out _ _ _ rfl rfl (fr5.kp hk1)
 | .ok (y,q)=>
  have HTail:∀ (XW:World) (ZB:Nat) (cy:List Value),Hid (FrL P lo Eb W0 XW∧BuB Sx lo Eb XW s (.slice ak s.kids.length ck) nv vs∧ExA XW (fun g=>(Sx g∨lo≤g)∧g≠Eb∧(Value.slice ak s.kids.length ck).ownBlock≠some g∧nv.ownBlock≠some g) y cy∧PsA P T XW q∧cy.length=5)→XW.heap[ZB]? =some ez→∀ (O:Array Oper) (f:Nat) (L:Array Bool),O=opsR (subW [true,true,false] (Tryz.f327.body.getD .skip))→f=6→L=#[true,true,true,true,true,true,true,true,false,false,false,false,false,false]→wpAnyH Tryz.prog .any O Q0 (fun _=>True) f L ⟨#[pt P,pt Eb,x2,x3,x4,x5,x6,x7,x8,x9,x10,x11,x12,x13,x14,pt Eb,pt Eb,.pointer (some ⟨Eb,3,none⟩),.slice ak s.kids.length ck,pt P,.agg cy.toArray,.int .i64 (s.kids.length:Int),.slice (some ⟨ZB,0,none⟩) 1 1,x23,x24,x25,x26,x27,x28,x29,x30,x31,x32,x33,x34,x35,x36,x37,x38,x39,x40,x41,x42,x43,x44,x45,x46],[]⟩ XW:=by
   intro XW ZB cy HX hz O f L hO hf hL
   subst hO hf hL
   conv=>arg 3;whnf
   have hnews:∀ (j:Nat) (u:Value),[.int .i64 0,.int .i64 0,.string ⟨#[]⟩,.slice none 0 0,.slice none 0 0][j]? =some u→XW.cell? ((⟨ZB,0,none⟩:Addr).add j)=some u:=fun j u hu=>World.news_of_block hz j u hu
   have hsX:=HX.out.1.size
   have sb_X:=HSb.out XW HX.out.1
   have c3_X:XW.cell? ⟨Eb,3,none⟩=some (.slice ak s.kids.length ck):=HX.out.2.1.ev.five.2.2.2.1
   clear hz
   refine wpAnyH_ready (rs:=[8]) (by kernel_rfl) (by simp) (AllReadyH.cons rfl (fun K hK=>?_) AllReadyH.nil)
   refine step_append_lies XW (by rfl) (Operand.tmp 18) (Operand.tmp 22) 160 (by rfl) lo 162 i0 (.agg #[.int .i64 0,.int .i64 0,.string ⟨#[]⟩,.slice none 0 0,.slice none 0 0]) 5 80 Tryz.underlying160 hi hz0 hz1 hz2 rfl (by decide) (.slice ak s.kids.length ck) s.kids.length vs.flatten (by rfl) HX.out.2.1.kr ⟨ZB,0,none⟩ 1 1 [.int .i64 0,.int .i64 0,.string ⟨#[]⟩,.slice none 0 0,.slice none 0 0] (by rfl) rfl hnews (by simp[Value.oneCell']) (by decide) (by unfold maxLen;omega) (by omega) hsX XW.heap.size rfl ?_
   intro g' cap' w2 hown2 hgrow hat hltg
   have hlen5:(vs.flatten).length=s.kids.length*5:=HX.out.2.1.kr.1
   have hEX:=HX.out.2.1.ev.lt
   have hE2:w2.heap[Eb]? =XW.heap[Eb]? :=hgrow.block Eb hEX (fun e=>HX.out.2.1.nk e.symm)
   have ev2:=HX.out.2.1.ev.keep hE2
   have hgE:g'≠Eb:=by
    rcases hat with h1|h1
    ·exact fun e=>HX.out.2.1.nk (e▸h1)
    ·omega
   have th2:w2.there g' (s.kids.length*5) 5:=own_cells hown2 _ _ (by rw[List.length_append,hlen5];simp)
   have sb_2:True:=trivial
   have c3_2:w2.cell? ⟨Eb,3,none⟩=some (.slice ak s.kids.length ck):=ev2.five.2.2.2.1
   have f3_2:w2.frozen? ⟨Eb,3,none⟩=false:=ev2.fz 3
   have hcA:cy.toArray.size=5:=HX.out.2.2.2.2
   have hiA:(Tryz.prog.info? 162).map (·.size)=some cy.toArray.size:=by rw[hcA];exact szE
   have hoA:=all_oneCell_toArray HX.out.2.2.1.one
   refine hK.out _ _ sb_2 (fun hHeld=>?_)
   clear hK K
   try simp only[Act.put,pA,pB,pC,pD,pE,pF]
   refine tK (i:=9) (v:= .pointer (some ⟨g',s.kids.length*5,none⟩)) rfl (by kernel_rfl) HQp.out (Or.inl ⟨by rfl,?_⟩) (by assumption) ?_
   ·intro V hSV
    try dsimp only at hSV
    go_simp
    try with_reducible rfl
    try(intro h9;exfalso;omega)
   try simp only[Act.put,pA,pB,pC,pD,pE,pF]
   refine tK (i:=11) (v:=pt Eb) rfl (by kernel_rfl) HQp.out (Or.inl ⟨by rfl,?_⟩) (by assumption) ?_
   ·intro V hSV
    try dsimp only at hSV
    go_simp
    try with_reducible rfl
    try(intro h9;exfalso;omega)
   try simp only[Act.put,pA,pB,pC,pD,pE,pF]
   refine tK (i:=12) (v:= .pointer (some ⟨Eb,3,none⟩)) rfl (by kernel_rfl) HQp.out (Or.inl ⟨by rfl,?_⟩) (by assumption) ?_
   ·intro V hSV
    try dsimp only at hSV
    go_simp
    try with_reducible rfl
    try(intro h9;exfalso;omega)
   try simp only[Act.put,pA,pB,pC,pD,pE,pF]
   refine wpAnyH_ready (rs:=[10,13]) (by kernel_rfl) (by simp) (AllReadyH.cons rfl (fun K hK=>?_) (AllReadyH.cons rfl (fun K hK=>?_) AllReadyH.nil))
   refine step_call (by rfl) ?_
   refine wp_store_mid 162 (Operand.tmp 24) (Operand.tmp 20) rfl g' (s.kids.length*5) cy.toArray rfl rfl (by rw[hcA];exact th2) hiA hoA ?_
   have ev3:EV (w2.setCells g' (s.kids.length*5) cy) Eb _:=ev2.keep (heap_sets g' cy _ w2 Eb (fun e=>hgE e.symm))
   have c3_3:=ev3.five.2.2.2.1
   have f3_3:=ev3.fz 3
   have sb_3:True:=trivial
   refine hK.out _ _ sb_3 (fun hHeld=>?_)
   clear hK K
   try simp only[Act.put,pA,pB,pC,pD,pE,pF]
   refine wpAnyH_ready (rs:=[13]) (by kernel_rfl) (by simp) (AllReadyH.cons rfl (fun K hK=>?_) AllReadyH.nil)
   go_simp
   have HP:=BuB.push (Wf:=((w2.setCells g' (s.kids.length*5) cy).setCell ⟨Eb,3,none⟩ (.slice (some ⟨g',0,none⟩) (s.kids.length+1) cap'))) HX.out.2.1 HX.out.2.2.1 hgrow hat HX.out.1 (own_heap (stored_cells' hown2 hlen5 HX.out.2.2.2.2) fun g hg=>Below.heap_setCell _ ⟨Eb,3,none⟩ _ g (fun e=>hgE ((ob_eq hg).trans e))) (ev3.put3 _) (fun g h1 h2=>(Below.heap_setCell _ ⟨Eb,3,none⟩ _ g h1).trans (heap_sets g' cy _ w2 g h2)) (os_sets _ _ _ _) (tape_sets _ _ _ _) (out_sets _ _ _ _) (by rw[size_set,size_sets];exact Nat.le_refl _)
   have sb_4:=HSb.out _ HP.2.1
   refine hK.out _ _ sb_4 (fun hHeld=>?_)
   clear hK K
   try simp only[Act.put,pA,pB,pC,pD,pE,pF]
   refine wpAnyH_done (by kernel_rfl) ?_ _
   try simp only[Act.put,pA,pB,pC,pD,pE,pF]
   have hpF:PsA P T ((w2.setCells g' (s.kids.length*5) cy).setCell ⟨Eb,3,none⟩ (.slice (some ⟨g',0,none⟩) (s.kids.length+1) cap')) q:=HX.out.2.2.2.1.keep (HP.2.2 P hP (fun e=>hPE e.symm)) (HP.2.2 T hT hTE)
   have hLI:LI Sx P T lo Eb W0 ((w2.setCells g' (s.kids.length*5) cy).setCell ⟨Eb,3,none⟩ (.slice (some ⟨g',0,none⟩) (s.kids.length+1) cap')) (s.kid y) q:=⟨hpF,HP.2.1,_,_,_,HP.1⟩
   exact HOk.out _ _ _ _ _ _ _ _ _ _ _ _ _ _ _ rfl hLI
   go_simp
   have ev3:=ev2.put3 (.slice (some ⟨g',0,none⟩) (s.kids.length+1) cap')
   have sb_3:True:=trivial
   have ow3:(w2.setCell ⟨Eb,3,none⟩ (.slice (some ⟨g',0,none⟩) (s.kids.length+1) cap')).ownsRow _ _ _ _ _ _:=own_heap hown2 fun g hg=>Below.heap_setCell _ ⟨Eb,3,none⟩ _ g (fun e=>hgE ((ob_eq hg).trans e))
   have th3:=own_cells ow3 (s.kids.length*5) 5 (by rw[List.length_append,hlen5];simp)
   refine hK.out _ _ sb_3 (fun hHeld=>?_)
   clear hK K
   try simp only[Act.put,pA,pB,pC,pD,pE,pF]
   refine wpAnyH_ready (rs:=[10]) (by kernel_rfl) (by simp) (AllReadyH.cons rfl (fun K hK=>?_) AllReadyH.nil)
   refine step_call (by rfl) ?_
   refine wp_store_mid 162 (Operand.tmp 24) (Operand.tmp 20) rfl g' (s.kids.length*5) cy.toArray rfl rfl (by rw[hcA];exact th3) hiA hoA ?_
   have HP:=BuB.push (Wf:=((w2.setCell ⟨Eb,3,none⟩ (.slice (some ⟨g',0,none⟩) (s.kids.length+1) cap')).setCells g' (s.kids.length*5) cy)) HX.out.2.1 HX.out.2.2.1 hgrow hat HX.out.1 (stored_cells' ow3 hlen5 HX.out.2.2.2.2) (ev3.keep (heap_sets g' cy _ _ Eb (fun e=>hgE e.symm))) (fun g h1 h2=>(heap_sets g' cy _ _ g h2).trans (Below.heap_setCell _ ⟨Eb,3,none⟩ _ g h1)) (os_sets _ _ _ _) (tape_sets _ _ _ _) (out_sets _ _ _ _) (by rw[size_sets,size_set];exact Nat.le_refl _)
   have sb_4:=HSb.out _ HP.2.1
   refine hK.out _ _ sb_4 (fun hHeld=>?_)
   clear hK K
   try simp only[Act.put,pA,pB,pC,pD,pE,pF]
   refine wpAnyH_done (by kernel_rfl) ?_ _
   try simp only[Act.put,pA,pB,pC,pD,pE,pF]
   have hpF:PsA P T ((w2.setCell ⟨Eb,3,none⟩ (.slice (some ⟨g',0,none⟩) (s.kids.length+1) cap')).setCells g' (s.kids.length*5) cy) q:=HX.out.2.2.2.1.keep (HP.2.2 P hP (fun e=>hPE e.symm)) (HP.2.2 T hT hTE)
   have hLI:LI Sx P T lo Eb W0 ((w2.setCell ⟨Eb,3,none⟩ (.slice (some ⟨g',0,none⟩) (s.kids.length+1) cap')).setCells g' (s.kids.length*5) cy) (s.kid y) q:=⟨hpF,HP.2.1,_,_,_,HP.1⟩
   exact HOk.out _ _ _ _ _ _ _ _ _ _ _ _ _ _ _ rfl hLI
  refine wp_region_held_drew (S:=fun _=>True) (by kernel_rfl) sb_0 (fun hHeld=>?_)
  refine tK (i:=0) (v:=pt Eb) rfl (by kernel_rfl) HQp.out (Or.inl ⟨by rfl,?_⟩) (by assumption) ?_
  ·intro V hSV
   try dsimp only at hSV
   go_simp
   try with_reducible rfl
   try(intro h9;exfalso;omega)
  try simp only[Act.put,pA,pB,pC,pD,pE,pF]
  refine tK (i:=1) (v:=pt Eb) rfl (by kernel_rfl) HQp.out (Or.inl ⟨by rfl,?_⟩) (by assumption) ?_
  ·intro V hSV
   try dsimp only at hSV
   go_simp
   try with_reducible rfl
   try(intro h9;exfalso;omega)
  try simp only[Act.put,pA,pB,pC,pD,pE,pF]
  refine tK (i:=2) (v:= .pointer (some ⟨Eb,3,none⟩)) rfl (by kernel_rfl) HQp.out (Or.inl ⟨by rfl,?_⟩) (by assumption) ?_
  ·intro V hSV
   try dsimp only at hSV
   go_simp
   try with_reducible rfl
   try(intro h9;exfalso;omega)
  try simp only[Act.put,pA,pB,pC,pD,pE,pF]
  refine tK (i:=4) (v:=pt P) rfl (by kernel_rfl) HQp.out (Or.inl ⟨by rfl,?_⟩) (by assumption) ?_
  ·intro V hSV
   try dsimp only at hSV
   go_simp
   try with_reducible rfl
   try(intro h9;exfalso;omega)
  try simp only[Act.put,pA,pB,pC,pD,pE,pF]
  refine wpAnyH_ready (rs:=[3,5,7]) (by kernel_rfl) (by simp) (AllReadyH.cons rfl (fun K hK=>?_) (AllReadyH.cons rfl (fun K hK=>?_) (AllReadyH.cons rfl (fun K hK=>?_) AllReadyH.nil)))
  go_simp
  refine hK.out _ _ hHeld (fun hHeld=>?_)
  clear hK K
  try simp only[Act.put,pA,pB,pC,pD,pE,pF]
  refine tK (i:=6) (v:= .int .i64 (s.kids.length:Int)) rfl (by kernel_rfl) HQp.out (Or.inl ⟨by rfl,?_⟩) (by assumption) ?_
  ·intro V hSV
   try dsimp only at hSV
   go_simp
   try with_reducible rfl
   try(intro h9;exfalso;omega)
  try simp only[Act.put,pA,pB,pC,pD,pE,pF]
  refine wpAnyH_ready (rs:=[5,7]) (by kernel_rfl) (by simp) (AllReadyH.cons rfl (fun K hK=>?_) (AllReadyH.cons rfl (fun K hK=>?_) AllReadyH.nil))
  go_simp
  refine HD0.mono ?_
  rintro e1 w1 ⟨v1,rfl,⟨cy,rfl,hy1⟩,hp1,hk1⟩
  have fr1:=fr0.kp hk1
  have bu1:=bu0.keepK hk1 hP hPE hSx
  have kb1:=fun g (hg:(Value.slice ak s.kids.length ck).ownBlock=some g)=>(bu0.kr.lt g hg).2
  have nb1:=fun g (hg:nv.ownBlock=some g)=>(bu0.nr.lt g hg).2
  have hyS:ExA w1 (fun g=>(Sx g∨lo≤g)∧g≠Eb∧(Value.slice ak s.kids.length ck).ownBlock≠some g∧nv.ownBlock≠some g) y cy:=hy1.mono (fun g hg _=>⟨.inr (Nat.le_trans fr0.size hg),fun e=>absurd (e▸bu0.ev.lt) (Nat.not_lt.2 hg),fun e=>absurd hg (Nat.not_le.2 (kb1 g e)),fun e=>absurd hg (Nat.not_le.2 (nb1 g e))⟩)
  have sb_1:=HSb.out w1 fr1
  have c3_1:w1.cell? ⟨Eb,3,none⟩=some (.slice ak s.kids.length ck):=bu1.ev.five.2.2.2.1
  have frx:=fr1.al ez
  have bux:=bu1.al ez
  have sb_x:=HSb.out _ frx
  have hz:(w1.alloc ez).heap[w1.heap.size]? =some ez:=heap_alloc_new w1 ez
  have frX:=frx
  have buX:=bux
  have hyX:ExA (w1.alloc ez) (fun g=>(Sx g∨lo≤g)∧g≠Eb∧(Value.slice ak s.kids.length ck).ownBlock≠some g∧nv.ownBlock≠some g) y cy:=hyS.keep (fun g _ hg2=>heap_al w1 _ g hg2) (fun _ hg _=>hg)
  have hpX:=hp1.up (alB w1 ez)
  have c3_x:(w1.alloc ez).cell? ⟨Eb,3,none⟩=some (.slice ak s.kids.length ck):=bux.ev.five.2.2.2.1
  clear hy1 hk1 kb1 nb1
  refine hK.out _ _ sb_1 (fun hHeld=>?_)
  clear hK K
  try simp only[Act.put,pA,pB,pC,pD,pE,pF]
  refine wpAnyH_ready (rs:=[7]) (by kernel_rfl) (by simp) (AllReadyH.cons rfl (fun K hK=>?_) AllReadyH.nil)
  go_simp
  refine hK.out _ _ sb_x (fun hHeld=>?_)
  clear hK K
  try simp only[Act.put,pA,pB,pC,pD,pE,pF]
  exact HTail (w1.alloc ez) w1.heap.size cy ⟨frX,buX,hyX,hpX,hyX.len⟩ hz _ _ _ (by kernel_rfl) (by kernel_rfl) (by kernel_rfl)
  go_simp
  refine hK.out _ _ sb_5 (fun hHeld=>?_)
  clear hK K
  try simp only[Act.put,pA,pB,pC,pD,pE,pF]
  refine wpAnyH_ready (rs:=[5]) (by kernel_rfl) (by simp) (AllReadyH.cons rfl (fun K hK=>?_) AllReadyH.nil)
  go_simp
  refine HD5.mono ?_
  rintro e1 w1 ⟨v1,rfl,⟨cy,rfl,hy1⟩,hp1,hk1⟩
  have fr1:=fr5.kp hk1
  have bu1:=bu5.keepK hk1 hP hPE hSx
  have kb1:=fun g (hg:(Value.slice ak s.kids.length ck).ownBlock=some g)=>(bu5.kr.lt g hg).2
  have nb1:=fun g (hg:nv.ownBlock=some g)=>(bu5.nr.lt g hg).2
  have hyS:ExA w1 (fun g=>(Sx g∨lo≤g)∧g≠Eb∧(Value.slice ak s.kids.length ck).ownBlock≠some g∧nv.ownBlock≠some g) y cy:=hy1.mono (fun g hg _=>⟨.inr (Nat.le_trans fr5.size hg),fun e=>absurd (e▸bu5.ev.lt) (Nat.not_lt.2 hg),fun e=>absurd hg (Nat.not_le.2 (kb1 g e)),fun e=>absurd hg (Nat.not_le.2 (nb1 g e))⟩)
  have sb_1:=HSb.out w1 fr1
  have c3_1:w1.cell? ⟨Eb,3,none⟩=some (.slice ak s.kids.length ck):=bu1.ev.five.2.2.2.1
  have hz:w1.heap[W.heap.size]? =some ez:=hk1.heapEq hz5 (by have:=fr0.size;show ¬W.heap.size=P;have h0:lo≤W.heap.size:=this;omega)
  have frX:=fr1
  have buX:=bu1
  have hyX:=hyS
  have hpX:=hp1
  clear hy1 hk1 kb1 nb1
  refine hK.out _ _ sb_1 (fun hHeld=>?_)
  clear hK K
  try simp only[Act.put,pA,pB,pC,pD,pE,pF]
  exact HTail w1 W.heap.size cy ⟨frX,buX,hyX,hpX,hyX.len⟩ hz _ _ _ (by kernel_rfl) (by kernel_rfl) (by kernel_rfl)
  go_simp
  refine HD0.mono ?_
  rintro e1 w1 ⟨v1,rfl,⟨cy,rfl,hy1⟩,hp1,hk1⟩
  have fr1:=fr0.kp hk1
  have bu1:=bu0.keepK hk1 hP hPE hSx
  have kb1:=fun g (hg:(Value.slice ak s.kids.length ck).ownBlock=some g)=>(bu0.kr.lt g hg).2
  have nb1:=fun g (hg:nv.ownBlock=some g)=>(bu0.nr.lt g hg).2
  have hyS:ExA w1 (fun g=>(Sx g∨lo≤g)∧g≠Eb∧(Value.slice ak s.kids.length ck).ownBlock≠some g∧nv.ownBlock≠some g) y cy:=hy1.mono (fun g hg _=>⟨.inr (Nat.le_trans fr0.size hg),fun e=>absurd (e▸bu0.ev.lt) (Nat.not_lt.2 hg),fun e=>absurd hg (Nat.not_le.2 (kb1 g e)),fun e=>absurd hg (Nat.not_le.2 (nb1 g e))⟩)
  have sb_1:=HSb.out w1 fr1
  have c3_1:w1.cell? ⟨Eb,3,none⟩=some (.slice ak s.kids.length ck):=bu1.ev.five.2.2.2.1
  have frx:=fr1.al ez
  have bux:=bu1.al ez
  have sb_x:=HSb.out _ frx
  have hz:(w1.alloc ez).heap[w1.heap.size]? =some ez:=heap_alloc_new w1 ez
  have frX:=frx
  have buX:=bux
  have hyX:ExA (w1.alloc ez) (fun g=>(Sx g∨lo≤g)∧g≠Eb∧(Value.slice ak s.kids.length ck).ownBlock≠some g∧nv.ownBlock≠some g) y cy:=hyS.keep (fun g _ hg2=>heap_al w1 _ g hg2) (fun _ hg _=>hg)
  have hpX:=hp1.up (alB w1 ez)
  have c3_x:(w1.alloc ez).cell? ⟨Eb,3,none⟩=some (.slice ak s.kids.length ck):=bux.ev.five.2.2.2.1
  clear hy1 hk1 kb1 nb1
  refine hK.out _ _ sb_1 (fun hHeld=>?_)
  clear hK K
  try simp only[Act.put,pA,pB,pC,pD,pE,pF]
  refine wpAnyH_ready (rs:=[3,7]) (by kernel_rfl) (by simp) (AllReadyH.cons rfl (fun K hK=>?_) (AllReadyH.cons rfl (fun K hK=>?_) AllReadyH.nil))
  go_simp
  refine hK.out _ _ hHeld (fun hHeld=>?_)
  clear hK K
  try simp only[Act.put,pA,pB,pC,pD,pE,pF]
  refine tK (i:=6) (v:= .int .i64 (s.kids.length:Int)) rfl (by kernel_rfl) HQp.out (Or.inl ⟨by rfl,?_⟩) (by assumption) ?_
  ·intro V hSV
   try dsimp only at hSV
   go_simp
   try with_reducible rfl
   try(intro h9;exfalso;omega)
  try simp only[Act.put,pA,pB,pC,pD,pE,pF]
  refine wpAnyH_ready (rs:=[7]) (by kernel_rfl) (by simp) (AllReadyH.cons rfl (fun K hK=>?_) AllReadyH.nil)
  go_simp
  refine hK.out _ _ sb_x (fun hHeld=>?_)
  clear hK K
  try simp only[Act.put,pA,pB,pC,pD,pE,pF]
  exact HTail (w1.alloc ez) w1.heap.size cy ⟨frX,buX,hyX,hpX,hyX.len⟩ hz _ _ _ (by kernel_rfl) (by kernel_rfl) (by kernel_rfl)
  go_simp
  refine hK.out _ _ sb_x (fun hHeld=>?_)
  clear hK K
  try simp only[Act.put,pA,pB,pC,pD,pE,pF]
  refine wpAnyH_ready (rs:=[3]) (by kernel_rfl) (by simp) (AllReadyH.cons rfl (fun K hK=>?_) AllReadyH.nil)
  go_simp
  refine hK.out _ _ hHeld (fun hHeld=>?_)
  clear hK K
  try simp only[Act.put,pA,pB,pC,pD,pE,pF]
  refine tK (i:=6) (v:= .int .i64 (s.kids.length:Int)) rfl (by kernel_rfl) HQp.out (Or.inl ⟨by rfl,?_⟩) (by assumption) ?_
  ·intro V hSV
   try dsimp only at hSV
   go_simp
   try with_reducible rfl
   try(intro h9;exfalso;omega)
  try simp only[Act.put,pA,pB,pC,pD,pE,pF]
  exact HTail (w1.alloc ez) w1.heap.size cy ⟨frX,buX,hyX,hpX,hyX.len⟩ hz _ _ _ (by kernel_rfl) (by kernel_rfl) (by kernel_rfl)
  go_simp
  refine hK.out _ _ sb_5 (fun hHeld=>?_)
  clear hK K
  try simp only[Act.put,pA,pB,pC,pD,pE,pF]
  refine wpAnyH_ready (rs:=[3,5]) (by kernel_rfl) (by simp) (AllReadyH.cons rfl (fun K hK=>?_) (AllReadyH.cons rfl (fun K hK=>?_) AllReadyH.nil))
  go_simp
  refine hK.out _ _ hHeld (fun hHeld=>?_)
  clear hK K
  try simp only[Act.put,pA,pB,pC,pD,pE,pF]
  refine tK (i:=6) (v:= .int .i64 (s.kids.length:Int)) rfl (by kernel_rfl) HQp.out (Or.inl ⟨by rfl,?_⟩) (by assumption) ?_
  ·intro V hSV
   try dsimp only at hSV
   go_simp
   try with_reducible rfl
   try(intro h9;exfalso;omega)
  try simp only[Act.put,pA,pB,pC,pD,pE,pF]
  refine wpAnyH_ready (rs:=[5]) (by kernel_rfl) (by simp) (AllReadyH.cons rfl (fun K hK=>?_) AllReadyH.nil)
  go_simp
  refine HD5.mono ?_
  rintro e1 w1 ⟨v1,rfl,⟨cy,rfl,hy1⟩,hp1,hk1⟩
  have fr1:=fr5.kp hk1
  have bu1:=bu5.keepK hk1 hP hPE hSx
  have kb1:=fun g (hg:(Value.slice ak s.kids.length ck).ownBlock=some g)=>(bu5.kr.lt g hg).2
  have nb1:=fun g (hg:nv.ownBlock=some g)=>(bu5.nr.lt g hg).2
  have hyS:ExA w1 (fun g=>(Sx g∨lo≤g)∧g≠Eb∧(Value.slice ak s.kids.length ck).ownBlock≠some g∧nv.ownBlock≠some g) y cy:=hy1.mono (fun g hg _=>⟨.inr (Nat.le_trans fr5.size hg),fun e=>absurd (e▸bu5.ev.lt) (Nat.not_lt.2 hg),fun e=>absurd hg (Nat.not_le.2 (kb1 g e)),fun e=>absurd hg (Nat.not_le.2 (nb1 g e))⟩)
  have sb_1:=HSb.out w1 fr1
  have c3_1:w1.cell? ⟨Eb,3,none⟩=some (.slice ak s.kids.length ck):=bu1.ev.five.2.2.2.1
  have hz:w1.heap[W.heap.size]? =some ez:=hk1.heapEq hz5 (by have:=fr0.size;show ¬W.heap.size=P;have h0:lo≤W.heap.size:=this;omega)
  have frX:=fr1
  have buX:=bu1
  have hyX:=hyS
  have hpX:=hp1
  clear hy1 hk1 kb1 nb1
  refine hK.out _ _ sb_1 (fun hHeld=>?_)
  clear hK K
  try simp only[Act.put,pA,pB,pC,pD,pE,pF]
  exact HTail w1 W.heap.size cy ⟨frX,buX,hyX,hpX,hyX.len⟩ hz _ _ _ (by kernel_rfl) (by kernel_rfl) (by kernel_rfl)
  go_simp
  refine HD5.mono ?_
  rintro e1 w1 ⟨v1,rfl,⟨cy,rfl,hy1⟩,hp1,hk1⟩
  have fr1:=fr5.kp hk1
  have bu1:=bu5.keepK hk1 hP hPE hSx
  have kb1:=fun g (hg:(Value.slice ak s.kids.length ck).ownBlock=some g)=>(bu5.kr.lt g hg).2
  have nb1:=fun g (hg:nv.ownBlock=some g)=>(bu5.nr.lt g hg).2
  have hyS:ExA w1 (fun g=>(Sx g∨lo≤g)∧g≠Eb∧(Value.slice ak s.kids.length ck).ownBlock≠some g∧nv.ownBlock≠some g) y cy:=hy1.mono (fun g hg _=>⟨.inr (Nat.le_trans fr5.size hg),fun e=>absurd (e▸bu5.ev.lt) (Nat.not_lt.2 hg),fun e=>absurd hg (Nat.not_le.2 (kb1 g e)),fun e=>absurd hg (Nat.not_le.2 (nb1 g e))⟩)
  have sb_1:=HSb.out w1 fr1
  have c3_1:w1.cell? ⟨Eb,3,none⟩=some (.slice ak s.kids.length ck):=bu1.ev.five.2.2.2.1
  have hz:w1.heap[W.heap.size]? =some ez:=hk1.heapEq hz5 (by have:=fr0.size;show ¬W.heap.size=P;have h0:lo≤W.heap.size:=this;omega)
  have frX:=fr1
  have buX:=bu1
  have hyX:=hyS
  have hpX:=hp1
  clear hy1 hk1 kb1 nb1
  refine hK.out _ _ sb_1 (fun hHeld=>?_)
  clear hK K
  try simp only[Act.put,pA,pB,pC,pD,pE,pF]
  refine wpAnyH_ready (rs:=[3]) (by kernel_rfl) (by simp) (AllReadyH.cons rfl (fun K hK=>?_) AllReadyH.nil)
  go_simp
  refine hK.out _ _ hHeld (fun hHeld=>?_)
  clear hK K
  try simp only[Act.put,pA,pB,pC,pD,pE,pF]
  refine tK (i:=6) (v:= .int .i64 (s.kids.length:Int)) rfl (by kernel_rfl) HQp.out (Or.inl ⟨by rfl,?_⟩) (by assumption) ?_
  ·intro V hSV
   try dsimp only at hSV
   go_simp
   try with_reducible rfl
   try(intro h9;exfalso;omega)
  try simp only[Act.put,pA,pB,pC,pD,pE,pF]
  exact HTail w1 W.heap.size cy ⟨frX,buX,hyX,hpX,hyX.len⟩ hz _ _ _ (by kernel_rfl) (by kernel_rfl) (by kernel_rfl)
end Go.Proofs.YthfgpkdbclogpaaGreatDoor
