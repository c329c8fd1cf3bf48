/- 40. -/
import Derived.Test.YthfgpkdbclogpaaGreatDoorTx39
import Derived.Test.YthfgpkdbclogpaaGreatDoorTx29
set_option maxHeartbeats 40000000
set_option maxRecDepth 100000
namespace Go.Proofs.YthfgpkdbclogpaaGreatDoor
open Go.RowKit Go.Shelf
attribute [local go_sem ↓] fld0 fld1 fld2 fld3
set_option linter.unusedSimpArgs false in
set_option linter.unusedVariables false in
theorem nr_ca {P T lo Vb b:Nat}{W:World}{xs:List (List UInt8)}{nv:Value}{p:Ps}{zN:Except Ft (List UInt8×Ps)}{x2 x3 x4 x5 x6 x7 x8 x9 x10 x11 x12 x13 x14 x15 x16 x17 x18 x19 x20 x21 x22 x23 x24 x25 x26 x27 x28 x29:Value}(hlo:lo≤W.heap.size)(hPl:P<lo)(hnV:nv.ownBlock≠some Vb)(hbV:b≠Vb)(hnb:nv.ownBlock≠some b)
  (hps:PsA P T W p) (hnm:∀ W',KP P W W'→W'.cell? ⟨Vb,4,none⟩=some nv∧W'.frozen? ⟨Vb,4,none⟩=false∧W'.ownsRow lo 9 1 nv xs.length (xs.map sv)∧W'.cell? ⟨b,0,none⟩=some (pt P)) (hn1:xs.length≤1000000) (hz:tkN xs p=some zN) (Q0:Exit→Act→World→Prop) (hQp:∀ c (a a':Act) w,a.defers=a'.defers→Q0 (.panic c) a w→Q0 (.panic c) a' w)
  (hpan:∀ (x:Ft) (a:Act) (w':World),a.defers=[]→zN= .error x→KP P W w'→Q0 (.panic (PC x.1 x.2)) a w')
  (hok:∀ (u4 u5 u6 u7 u8 u9 u10 u11 u12:Value) (x:List UInt8) (q:Ps) (X w2:World) (g' cap':Nat),zN= .ok (x,q)→KP P W X→PsA P T X q→X.ownsRow lo 9 1 nv xs.length (xs.map sv)→X.grownBy w2 nv.ownBlock→(nv.ownBlock=some g'∨g'=X.heap.size)→w2.ownsRow lo 9 1 (.slice (some ⟨g',0,none⟩) (xs.length+1) cap') (xs.length+1) (xs.map sv++[sv x])→Q0 .normal ⟨#[pt b,pt Vb,x2,x3,u4,u5,u6,u7,u8,u9,u10,u11,u12,x13,x14,x15,x16,x17,x18,x19,x20,x21,x22,x23,x24,x25,x26,x27,x28,x29],[]⟩ (w2.setCell ⟨Vb,4,none⟩ (.slice (some ⟨g',0,none⟩) (xs.length+1) cap'))):
  Code.wp Tryz.prog (subW [false,true,false,false] (Tryz.f323.body.getD .skip)) Q0 ⟨#[pt b,pt Vb,x2,x3,x4,x5,x6,x7,x8,x9,x10,x11,x12,x13,x14,x15,x16,x17,x18,x19,x20,x21,x22,x23,x24,x25,x26,x27,x28,x29],[]⟩ W:=by
 have infN:(Tryz.prog.info? 9).map (fun i=>(i.zero,i.size,i.bytes))=some (some (.string ⟨#[]⟩),1,16):=by kernel_rfl
 obtain⟨i0,hi,hz0,hz1,hz2⟩:=info_p infN
 clear infN
 have HNm:Hid (∀ W',KP P W W'→W'.cell? ⟨Vb,4,none⟩=some nv∧W'.frozen? ⟨Vb,4,none⟩=false∧W'.ownsRow lo 9 1 nv xs.length (xs.map sv)∧W'.cell? ⟨b,0,none⟩=some (pt P)):=hnm
 have HPn:Hid (∀ (x:Ft) (a:Act) (w':World),a.defers=[]→zN= .error x→KP P W w'→Q0 (.panic (PC x.1 x.2)) a w'):=hpan
 have HOk:Hid (∀ (u4 u5 u6 u7 u8 u9 u10 u11 u12:Value) (x:List UInt8) (q:Ps) (X w2:World) (g' cap':Nat),zN= .ok (x,q)→KP P W X→PsA P T X q→X.ownsRow lo 9 1 nv xs.length (xs.map sv)→X.grownBy w2 nv.ownBlock→(nv.ownBlock=some g'∨g'=X.heap.size)→w2.ownsRow lo 9 1 (.slice (some ⟨g',0,none⟩) (xs.length+1) cap') (xs.length+1) (xs.map sv++[sv x])→Q0 .normal ⟨#[pt b,pt Vb,x2,x3,u4,u5,u6,u7,u8,u9,u10,u11,u12,x13,x14,x15,x16,x17,x18,x19,x20,x21,x22,x23,x24,x25,x26,x27,x28,x29],[]⟩ (w2.setCell ⟨Vb,4,none⟩ (.slice (some ⟨g',0,none⟩) (xs.length+1) cap'))):=hok
 have hk0:KP P W W.drew:=(KP.refl P W).drew
 obtain⟨c_0,f_0,r_0,sb_0⟩:=hnm W.drew hk0
 obtain⟨an,cn,hnv⟩:=row_shape r_0
 have HD0:=takeNew_any (hps.drewN 1) (SgA.of_own r_0 hPl hn1) hz
 clear hnm hpan hok hz
 subst hnv
 have HQp:Hid (∀ c (a a':Act) w,a.defers=a'.defers→Q0 (.panic c) a w→Q0 (.panic c) a' w):=hQp
 clear hQp
 conv=>arg 2;whnf
 match zN with
 | .error x=>
  refine wp_region_held_drew (S:=fun V=>V.cell? ⟨b,0,none⟩=some (pt P)) (by kernel_rfl) sb_0 (fun hHeld=>?_)
  refine tK (i:=0) (v:= .pointer (some ⟨Vb,4,none⟩)) rfl (by kernel_rfl) HQp.out (Or.inl ⟨by rfl,?_⟩) (by assumption) ?_
  ·intro V hSV
   try dsimp only at hSV
   go_simp
   try with_reducible rfl
   try(intro h9;exfalso;omega)
  try simp only[Act.put,pA,pB,pC,pD,pE,pF]
  refine tK (i:=2) (v:=pt P) rfl (by kernel_rfl) HQp.out (Or.inl ⟨by rfl,?_⟩) (by assumption) ?_
  ·intro V hSV
   try dsimp only at hSV
   go_simp
   try with_reducible rfl
   try(intro h9;exfalso;omega)
  try simp only[Act.put,pA,pB,pC,pD,pE,pF]
  refine tK (i:=3) (v:= .pointer (some ⟨Vb,4,none⟩)) rfl (by kernel_rfl) HQp.out (Or.inl ⟨by rfl,?_⟩) (by assumption) ?_
  ·intro V hSV
   try dsimp only at hSV
   go_simp
   try with_reducible rfl
   try(intro h9;exfalso;omega)
  try simp only[Act.put,pA,pB,pC,pD,pE,pF]
  refine wpAnyH_ready (rs:=[1,4]) (by kernel_rfl) (by simp) (AllReadyH.cons rfl (fun K hK=>?_) (AllReadyH.cons rfl (fun K hK=>?_) AllReadyH.nil))
  go_simp
  refine hK.out _ _ hHeld (fun hHeld=>?_)
  clear hK K
  try simp only[Act.put,pA,pB,pC,pD,pE,pF]
  refine wpAnyH_ready (rs:=[4]) (by kernel_rfl) (by simp) (AllReadyH.cons rfl (fun K hK=>?_) AllReadyH.nil)
  go_simp
  refine hK.out _ _ hHeld (fun hHeld=>?_)
  clear hK K
  try simp only[Act.put,pA,pB,pC,pD,pE,pF]
  refine wpAnyH_ready (rs:=[5]) (by kernel_rfl) (by simp) (AllReadyH.cons rfl (fun K hK=>?_) AllReadyH.nil)
  go_simp
  refine HD0.mono ?_
  rintro e1 w1 hpo
  obtain⟨rfl,hk1⟩:=bad_panic hpo hk0
  exact HPn.out _ _ _ rfl rfl hk1
  go_simp
  refine hK.out _ _ hHeld (fun hHeld=>?_)
  clear hK K
  try simp only[Act.put,pA,pB,pC,pD,pE,pF]
  refine wpAnyH_ready (rs:=[1,5]) (by kernel_rfl) (by simp) (AllReadyH.cons rfl (fun K hK=>?_) (AllReadyH.cons rfl (fun K hK=>?_) AllReadyH.nil))
  go_simp
  refine hK.out _ _ hHeld (fun hHeld=>?_)
  clear hK K
  try simp only[Act.put,pA,pB,pC,pD,pE,pF]
  refine wpAnyH_ready (rs:=[5]) (by kernel_rfl) (by simp) (AllReadyH.cons rfl (fun K hK=>?_) AllReadyH.nil)
  go_simp
  refine HD0.mono ?_
  rintro e1 w1 hpo
  obtain⟨rfl,hk1⟩:=bad_panic hpo hk0
  exact HPn.out _ _ _ rfl rfl hk1
  go_simp
  refine HD0.mono ?_
  rintro e1 w1 hpo
  obtain⟨rfl,hk1⟩:=bad_panic hpo hk0
  exact HPn.out _ _ _ rfl rfl hk1
 | .ok (x,q)=>
  refine wp_region_held_drew (S:=fun V=>V.cell? ⟨b,0,none⟩=some (pt P)) (by kernel_rfl) sb_0 (fun hHeld=>?_)
  refine tK (i:=0) (v:= .pointer (some ⟨Vb,4,none⟩)) rfl (by kernel_rfl) HQp.out (Or.inl ⟨by rfl,?_⟩) (by assumption) ?_
  ·intro V hSV
   try dsimp only at hSV
   go_simp
   try with_reducible rfl
   try(intro h9;exfalso;omega)
  try simp only[Act.put,pA,pB,pC,pD,pE,pF]
  refine tK (i:=2) (v:=pt P) rfl (by kernel_rfl) HQp.out (Or.inl ⟨by rfl,?_⟩) (by assumption) ?_
  ·intro V hSV
   try dsimp only at hSV
   go_simp
   try with_reducible rfl
   try(intro h9;exfalso;omega)
  try simp only[Act.put,pA,pB,pC,pD,pE,pF]
  refine tK (i:=3) (v:= .pointer (some ⟨Vb,4,none⟩)) rfl (by kernel_rfl) HQp.out (Or.inl ⟨by rfl,?_⟩) (by assumption) ?_
  ·intro V hSV
   try dsimp only at hSV
   go_simp
   try with_reducible rfl
   try(intro h9;exfalso;omega)
  try simp only[Act.put,pA,pB,pC,pD,pE,pF]
  refine wpAnyH_ready (rs:=[1,4]) (by kernel_rfl) (by simp) (AllReadyH.cons rfl (fun K hK=>?_) (AllReadyH.cons rfl (fun K hK=>?_) AllReadyH.nil))
  go_simp
  refine hK.out _ _ hHeld (fun hHeld=>?_)
  clear hK K
  try simp only[Act.put,pA,pB,pC,pD,pE,pF]
  refine wpAnyH_ready (rs:=[4]) (by kernel_rfl) (by simp) (AllReadyH.cons rfl (fun K hK=>?_) AllReadyH.nil)
  go_simp
  refine hK.out _ _ hHeld (fun hHeld=>?_)
  clear hK K
  try simp only[Act.put,pA,pB,pC,pD,pE,pF]
  refine wpAnyH_ready (rs:=[5]) (by kernel_rfl) (by simp) (AllReadyH.cons rfl (fun K hK=>?_) AllReadyH.nil)
  go_simp
  refine HD0.mono ?_
  rintro e1 w1 ⟨v1,rfl,rfl,hp1,hkw1⟩
  have hk1:=hk0.trans hkw1
  obtain⟨c_1,f_1,r_1,sb_1⟩:=HNm.out w1 hk1
  have hkx:=hk1.alloc (.cells #[.string (mkB x)] 9)
  obtain⟨c_x,f_x,r_x,sb_x⟩:=HNm.out _ hkx
  have hpx:=hp1.up (alB w1 (.cells #[.string (mkB x)] 9))
  have hzx:(w1.alloc (.cells #[.string (mkB x)] 9)).heap[w1.heap.size]? =some (.cells #[.string (mkB x)] 9 (0,0)):=heap_alloc_new w1 _
  have HX:Hid (KP P W (w1.alloc (.cells #[.string (mkB x)] 9))∧PsA P T (w1.alloc (.cells #[.string (mkB x)] 9)) q):=⟨hkx,hpx⟩
  clear hkw1 hk1 hkx hp1 hpx
  refine hK.out _ _ sb_1 (fun hHeld=>?_)
  clear hK K
  try simp only[Act.put,pA,pB,pC,pD,pE,pF]
  refine wpAnyH_ready (rs:=[6]) (by kernel_rfl) (by simp) (AllReadyH.cons rfl (fun K hK=>?_) AllReadyH.nil)
  go_simp
  refine hK.out _ _ sb_x (fun hHeld=>?_)
  clear hK K
  try simp only[Act.put,pA,pB,pC,pD,pE,pF]
  have hnews:∀ (j:Nat) (u:Value),[Value.string (mkB x)][j]? =some u→(w1.alloc (.cells #[.string (mkB x)] 9)).cell? ((⟨w1.heap.size,0,none⟩:Addr).add j)=some u:=fun j u hu=>World.news_of_block hzx j u hu
  have hsX:lo≤(w1.alloc (.cells #[.string (mkB x)] 9)).heap.size:=Nat.le_trans hlo HX.out.1.size
  refine wpAnyH_ready (rs:=[7]) (by kernel_rfl) (by simp) (AllReadyH.cons rfl (fun K hK=>?_) AllReadyH.nil)
  refine step_append_lies (w1.alloc (.cells #[.string (mkB x)] 9)) (by rfl) (Operand.tmp 5) (Operand.tmp 10) 37 (by rfl) lo 9 i0 (.string ⟨#[]⟩) 1 16 Tryz.underlying37 hi hz0 hz1 hz2 rfl (by decide) (.slice an xs.length cn) xs.length (xs.map sv) (by rfl) r_x ⟨w1.heap.size,0,none⟩ 1 1 [.string (mkB x)] (by rfl) rfl hnews (by simp[Value.oneCell']) (by decide) (by unfold maxLen;omega) (by omega) hsX (w1.alloc (.cells #[.string (mkB x)] 9)).heap.size rfl ?_
  intro g' cap' w2 hown2 hgrow hat hltg
  have hVX:Vb<(w1.alloc (.cells #[.string (mkB x)] 9)).heap.size:=World.block_lt_of_cell? _ _ c_x
  have hV2:w2.heap[Vb]? =(w1.alloc (.cells #[.string (mkB x)] 9)).heap[Vb]? :=hgrow.block Vb hVX (fun e=>hnV e.symm)
  have c_2:w2.cell? ⟨Vb,4,none⟩=some (.slice an xs.length cn):=(World.cell?_of_block hV2).trans c_x
  have f_2:w2.frozen? ⟨Vb,4,none⟩=false:=by
   rw[←f_x]
   unfold World.frozen?
   rw[hV2]
  have sb_2:w2.cell? ⟨b,0,none⟩=some (pt P):=(World.cell?_of_block (hgrow.block b (World.block_lt_of_cell? _ _ sb_x) (fun e=>hnb e.symm))).trans sb_x
  have sb_4:(w2.setCell ⟨Vb,4,none⟩ (.slice (some ⟨g',0,none⟩) (xs.length+1) cap')).cell? ⟨b,0,none⟩=some (pt P):=(World.cell?_of_block (Below.heap_setCell _ ⟨Vb,4,none⟩ _ b hbV)).trans sb_2
  refine hK.out _ _ sb_2 (fun hHeld=>?_)
  clear hK K
  try simp only[Act.put,pA,pB,pC,pD,pE,pF]
  refine tK (i:=8) (v:= .pointer (some ⟨Vb,4,none⟩)) rfl (by kernel_rfl) HQp.out (Or.inl ⟨by rfl,?_⟩) (by assumption) ?_
  ·intro V hSV
   try dsimp only at hSV
   go_simp
   try with_reducible rfl
   try(intro h9;exfalso;omega)
  try simp only[Act.put,pA,pB,pC,pD,pE,pF]
  refine wpAnyH_ready (rs:=[9]) (by kernel_rfl) (by simp) (AllReadyH.cons rfl (fun K hK=>?_) AllReadyH.nil)
  go_simp
  refine hK.out _ _ sb_4 (fun hHeld=>?_)
  clear hK K
  try simp only[Act.put,pA,pB,pC,pD,pE,pF]
  refine wpAnyH_done (by kernel_rfl) ?_ _
  try simp only[Act.put,pA,pB,pC,pD,pE,pF]
  exact HOk.out _ _ _ _ _ _ _ _ _ x q (w1.alloc (.cells #[.string (mkB x)] 9)) w2 g' cap' rfl HX.out.1 HX.out.2 r_x hgrow hat hown2
  go_simp
  refine hK.out _ _ hHeld (fun hHeld=>?_)
  clear hK K
  try simp only[Act.put,pA,pB,pC,pD,pE,pF]
  refine wpAnyH_ready (rs:=[1,5]) (by kernel_rfl) (by simp) (AllReadyH.cons rfl (fun K hK=>?_) (AllReadyH.cons rfl (fun K hK=>?_) AllReadyH.nil))
  go_simp
  refine hK.out _ _ hHeld (fun hHeld=>?_)
  clear hK K
  try simp only[Act.put,pA,pB,pC,pD,pE,pF]
  refine wpAnyH_ready (rs:=[5]) (by kernel_rfl) (by simp) (AllReadyH.cons rfl (fun K hK=>?_) AllReadyH.nil)
  go_simp
  refine HD0.mono ?_
  rintro e1 w1 ⟨v1,rfl,rfl,hp1,hkw1⟩
  have hk1:=hk0.trans hkw1
  obtain⟨c_1,f_1,r_1,sb_1⟩:=HNm.out w1 hk1
  have hkx:=hk1.alloc (.cells #[.string (mkB x)] 9)
  obtain⟨c_x,f_x,r_x,sb_x⟩:=HNm.out _ hkx
  have hpx:=hp1.up (alB w1 (.cells #[.string (mkB x)] 9))
  have hzx:(w1.alloc (.cells #[.string (mkB x)] 9)).heap[w1.heap.size]? =some (.cells #[.string (mkB x)] 9 (0,0)):=heap_alloc_new w1 _
  have HX:Hid (KP P W (w1.alloc (.cells #[.string (mkB x)] 9))∧PsA P T (w1.alloc (.cells #[.string (mkB x)] 9)) q):=⟨hkx,hpx⟩
  clear hkw1 hk1 hkx hp1 hpx
  refine hK.out _ _ sb_1 (fun hHeld=>?_)
  clear hK K
  try simp only[Act.put,pA,pB,pC,pD,pE,pF]
  refine wpAnyH_ready (rs:=[6]) (by kernel_rfl) (by simp) (AllReadyH.cons rfl (fun K hK=>?_) AllReadyH.nil)
  go_simp
  refine hK.out _ _ sb_x (fun hHeld=>?_)
  clear hK K
  try simp only[Act.put,pA,pB,pC,pD,pE,pF]
  have hnews:∀ (j:Nat) (u:Value),[Value.string (mkB x)][j]? =some u→(w1.alloc (.cells #[.string (mkB x)] 9)).cell? ((⟨w1.heap.size,0,none⟩:Addr).add j)=some u:=fun j u hu=>World.news_of_block hzx j u hu
  have hsX:lo≤(w1.alloc (.cells #[.string (mkB x)] 9)).heap.size:=Nat.le_trans hlo HX.out.1.size
  refine wpAnyH_ready (rs:=[7]) (by kernel_rfl) (by simp) (AllReadyH.cons rfl (fun K hK=>?_) AllReadyH.nil)
  refine step_append_lies (w1.alloc (.cells #[.string (mkB x)] 9)) (by rfl) (Operand.tmp 5) (Operand.tmp 10) 37 (by rfl) lo 9 i0 (.string ⟨#[]⟩) 1 16 Tryz.underlying37 hi hz0 hz1 hz2 rfl (by decide) (.slice an xs.length cn) xs.length (xs.map sv) (by rfl) r_x ⟨w1.heap.size,0,none⟩ 1 1 [.string (mkB x)] (by rfl) rfl hnews (by simp[Value.oneCell']) (by decide) (by unfold maxLen;omega) (by omega) hsX (w1.alloc (.cells #[.string (mkB x)] 9)).heap.size rfl ?_
  intro g' cap' w2 hown2 hgrow hat hltg
  have hVX:Vb<(w1.alloc (.cells #[.string (mkB x)] 9)).heap.size:=World.block_lt_of_cell? _ _ c_x
  have hV2:w2.heap[Vb]? =(w1.alloc (.cells #[.string (mkB x)] 9)).heap[Vb]? :=hgrow.block Vb hVX (fun e=>hnV e.symm)
  have c_2:w2.cell? ⟨Vb,4,none⟩=some (.slice an xs.length cn):=(World.cell?_of_block hV2).trans c_x
  have f_2:w2.frozen? ⟨Vb,4,none⟩=false:=by
   rw[←f_x]
   unfold World.frozen?
   rw[hV2]
  have sb_2:w2.cell? ⟨b,0,none⟩=some (pt P):=(World.cell?_of_block (hgrow.block b (World.block_lt_of_cell? _ _ sb_x) (fun e=>hnb e.symm))).trans sb_x
  have sb_4:(w2.setCell ⟨Vb,4,none⟩ (.slice (some ⟨g',0,none⟩) (xs.length+1) cap')).cell? ⟨b,0,none⟩=some (pt P):=(World.cell?_of_block (Below.heap_setCell _ ⟨Vb,4,none⟩ _ b hbV)).trans sb_2
  refine hK.out _ _ sb_2 (fun hHeld=>?_)
  clear hK K
  try simp only[Act.put,pA,pB,pC,pD,pE,pF]
  refine tK (i:=8) (v:= .pointer (some ⟨Vb,4,none⟩)) rfl (by kernel_rfl) HQp.out (Or.inl ⟨by rfl,?_⟩) (by assumption) ?_
  ·intro V hSV
   try dsimp only at hSV
   go_simp
   try with_reducible rfl
   try(intro h9;exfalso;omega)
  try simp only[Act.put,pA,pB,pC,pD,pE,pF]
  refine wpAnyH_ready (rs:=[9]) (by kernel_rfl) (by simp) (AllReadyH.cons rfl (fun K hK=>?_) AllReadyH.nil)
  go_simp
  refine hK.out _ _ sb_4 (fun hHeld=>?_)
  clear hK K
  try simp only[Act.put,pA,pB,pC,pD,pE,pF]
  refine wpAnyH_done (by kernel_rfl) ?_ _
  try simp only[Act.put,pA,pB,pC,pD,pE,pF]
  exact HOk.out _ _ _ _ _ _ _ _ _ x q (w1.alloc (.cells #[.string (mkB x)] 9)) w2 g' cap' rfl HX.out.1 HX.out.2 r_x hgrow hat hown2
  go_simp
  refine HD0.mono ?_
  rintro e1 w1 ⟨v1,rfl,rfl,hp1,hkw1⟩
  have hk1:=hk0.trans hkw1
  obtain⟨c_1,f_1,r_1,sb_1⟩:=HNm.out w1 hk1
  have hkx:=hk1.alloc (.cells #[.string (mkB x)] 9)
  obtain⟨c_x,f_x,r_x,sb_x⟩:=HNm.out _ hkx
  have hpx:=hp1.up (alB w1 (.cells #[.string (mkB x)] 9))
  have hzx:(w1.alloc (.cells #[.string (mkB x)] 9)).heap[w1.heap.size]? =some (.cells #[.string (mkB x)] 9 (0,0)):=heap_alloc_new w1 _
  have HX:Hid (KP P W (w1.alloc (.cells #[.string (mkB x)] 9))∧PsA P T (w1.alloc (.cells #[.string (mkB x)] 9)) q):=⟨hkx,hpx⟩
  clear hkw1 hk1 hkx hp1 hpx
  refine hK.out _ _ sb_1 (fun hHeld=>?_)
  clear hK K
  try simp only[Act.put,pA,pB,pC,pD,pE,pF]
  refine wpAnyH_ready (rs:=[1,6]) (by kernel_rfl) (by simp) (AllReadyH.cons rfl (fun K hK=>?_) (AllReadyH.cons rfl (fun K hK=>?_) AllReadyH.nil))
  go_simp
  refine hK.out _ _ hHeld (fun hHeld=>?_)
  clear hK K
  try simp only[Act.put,pA,pB,pC,pD,pE,pF]
  refine wpAnyH_ready (rs:=[6]) (by kernel_rfl) (by simp) (AllReadyH.cons rfl (fun K hK=>?_) AllReadyH.nil)
  go_simp
  refine hK.out _ _ sb_x (fun hHeld=>?_)
  clear hK K
  try simp only[Act.put,pA,pB,pC,pD,pE,pF]
  have hnews:∀ (j:Nat) (u:Value),[Value.string (mkB x)][j]? =some u→(w1.alloc (.cells #[.string (mkB x)] 9)).cell? ((⟨w1.heap.size,0,none⟩:Addr).add j)=some u:=fun j u hu=>World.news_of_block hzx j u hu
  have hsX:lo≤(w1.alloc (.cells #[.string (mkB x)] 9)).heap.size:=Nat.le_trans hlo HX.out.1.size
  refine wpAnyH_ready (rs:=[7]) (by kernel_rfl) (by simp) (AllReadyH.cons rfl (fun K hK=>?_) AllReadyH.nil)
  refine step_append_lies (w1.alloc (.cells #[.string (mkB x)] 9)) (by rfl) (Operand.tmp 5) (Operand.tmp 10) 37 (by rfl) lo 9 i0 (.string ⟨#[]⟩) 1 16 Tryz.underlying37 hi hz0 hz1 hz2 rfl (by decide) (.slice an xs.length cn) xs.length (xs.map sv) (by rfl) r_x ⟨w1.heap.size,0,none⟩ 1 1 [.string (mkB x)] (by rfl) rfl hnews (by simp[Value.oneCell']) (by decide) (by unfold maxLen;omega) (by omega) hsX (w1.alloc (.cells #[.string (mkB x)] 9)).heap.size rfl ?_
  intro g' cap' w2 hown2 hgrow hat hltg
  have hVX:Vb<(w1.alloc (.cells #[.string (mkB x)] 9)).heap.size:=World.block_lt_of_cell? _ _ c_x
  have hV2:w2.heap[Vb]? =(w1.alloc (.cells #[.string (mkB x)] 9)).heap[Vb]? :=hgrow.block Vb hVX (fun e=>hnV e.symm)
  have c_2:w2.cell? ⟨Vb,4,none⟩=some (.slice an xs.length cn):=(World.cell?_of_block hV2).trans c_x
  have f_2:w2.frozen? ⟨Vb,4,none⟩=false:=by
   rw[←f_x]
   unfold World.frozen?
   rw[hV2]
  have sb_2:w2.cell? ⟨b,0,none⟩=some (pt P):=(World.cell?_of_block (hgrow.block b (World.block_lt_of_cell? _ _ sb_x) (fun e=>hnb e.symm))).trans sb_x
  have sb_4:(w2.setCell ⟨Vb,4,none⟩ (.slice (some ⟨g',0,none⟩) (xs.length+1) cap')).cell? ⟨b,0,none⟩=some (pt P):=(World.cell?_of_block (Below.heap_setCell _ ⟨Vb,4,none⟩ _ b hbV)).trans sb_2
  refine hK.out _ _ sb_2 (fun hHeld=>?_)
  clear hK K
  try simp only[Act.put,pA,pB,pC,pD,pE,pF]
  refine tK (i:=8) (v:= .pointer (some ⟨Vb,4,none⟩)) rfl (by kernel_rfl) HQp.out (Or.inl ⟨by rfl,?_⟩) (by assumption) ?_
  ·intro V hSV
   try dsimp only at hSV
   go_simp
   try with_reducible rfl
   try(intro h9;exfalso;omega)
  try simp only[Act.put,pA,pB,pC,pD,pE,pF]
  refine wpAnyH_ready (rs:=[9]) (by kernel_rfl) (by simp) (AllReadyH.cons rfl (fun K hK=>?_) AllReadyH.nil)
  go_simp
  refine hK.out _ _ sb_4 (fun hHeld=>?_)
  clear hK K
  try simp only[Act.put,pA,pB,pC,pD,pE,pF]
  refine wpAnyH_done (by kernel_rfl) ?_ _
  try simp only[Act.put,pA,pB,pC,pD,pE,pF]
  exact HOk.out _ _ _ _ _ _ _ _ _ x q (w1.alloc (.cells #[.string (mkB x)] 9)) w2 g' cap' rfl HX.out.1 HX.out.2 r_x hgrow hat hown2
  go_simp
  refine hK.out _ _ sb_x (fun hHeld=>?_)
  clear hK K
  try simp only[Act.put,pA,pB,pC,pD,pE,pF]
  refine wpAnyH_ready (rs:=[1]) (by kernel_rfl) (by simp) (AllReadyH.cons rfl (fun K hK=>?_) AllReadyH.nil)
  go_simp
  refine hK.out _ _ hHeld (fun hHeld=>?_)
  clear hK K
  try simp only[Act.put,pA,pB,pC,pD,pE,pF]
  have hnews:∀ (j:Nat) (u:Value),[Value.string (mkB x)][j]? =some u→(w1.alloc (.cells #[.string (mkB x)] 9)).cell? ((⟨w1.heap.size,0,none⟩:Addr).add j)=some u:=fun j u hu=>World.news_of_block hzx j u hu
  have hsX:lo≤(w1.alloc (.cells #[.string (mkB x)] 9)).heap.size:=Nat.le_trans hlo HX.out.1.size
  refine wpAnyH_ready (rs:=[7]) (by kernel_rfl) (by simp) (AllReadyH.cons rfl (fun K hK=>?_) AllReadyH.nil)
  refine step_append_lies (w1.alloc (.cells #[.string (mkB x)] 9)) (by rfl) (Operand.tmp 5) (Operand.tmp 10) 37 (by rfl) lo 9 i0 (.string ⟨#[]⟩) 1 16 Tryz.underlying37 hi hz0 hz1 hz2 rfl (by decide) (.slice an xs.length cn) xs.length (xs.map sv) (by rfl) r_x ⟨w1.heap.size,0,none⟩ 1 1 [.string (mkB x)] (by rfl) rfl hnews (by simp[Value.oneCell']) (by decide) (by unfold maxLen;omega) (by omega) hsX (w1.alloc (.cells #[.string (mkB x)] 9)).heap.size rfl ?_
  intro g' cap' w2 hown2 hgrow hat hltg
  have hVX:Vb<(w1.alloc (.cells #[.string (mkB x)] 9)).heap.size:=World.block_lt_of_cell? _ _ c_x
  have hV2:w2.heap[Vb]? =(w1.alloc (.cells #[.string (mkB x)] 9)).heap[Vb]? :=hgrow.block Vb hVX (fun e=>hnV e.symm)
  have c_2:w2.cell? ⟨Vb,4,none⟩=some (.slice an xs.length cn):=(World.cell?_of_block hV2).trans c_x
  have f_2:w2.frozen? ⟨Vb,4,none⟩=false:=by
   rw[←f_x]
   unfold World.frozen?
   rw[hV2]
  have sb_2:w2.cell? ⟨b,0,none⟩=some (pt P):=(World.cell?_of_block (hgrow.block b (World.block_lt_of_cell? _ _ sb_x) (fun e=>hnb e.symm))).trans sb_x
  have sb_4:(w2.setCell ⟨Vb,4,none⟩ (.slice (some ⟨g',0,none⟩) (xs.length+1) cap')).cell? ⟨b,0,none⟩=some (pt P):=(World.cell?_of_block (Below.heap_setCell _ ⟨Vb,4,none⟩ _ b hbV)).trans sb_2
  refine hK.out _ _ sb_2 (fun hHeld=>?_)
  clear hK K
  try simp only[Act.put,pA,pB,pC,pD,pE,pF]
  refine tK (i:=8) (v:= .pointer (some ⟨Vb,4,none⟩)) rfl (by kernel_rfl) HQp.out (Or.inl ⟨by rfl,?_⟩) (by assumption) ?_
  ·intro V hSV
   try dsimp only at hSV
   go_simp
   try with_reducible rfl
   try(intro h9;exfalso;omega)
  try simp only[Act.put,pA,pB,pC,pD,pE,pF]
  refine wpAnyH_ready (rs:=[9]) (by kernel_rfl) (by simp) (AllReadyH.cons rfl (fun K hK=>?_) AllReadyH.nil)
  go_simp
  refine hK.out _ _ sb_4 (fun hHeld=>?_)
  clear hK K
  try simp only[Act.put,pA,pB,pC,pD,pE,pF]
  refine wpAnyH_done (by kernel_rfl) ?_ _
  try simp only[Act.put,pA,pB,pC,pD,pE,pF]
  exact HOk.out _ _ _ _ _ _ _ _ _ x q (w1.alloc (.cells #[.string (mkB x)] 9)) w2 g' cap' rfl HX.out.1 HX.out.2 r_x hgrow hat hown2
end Go.Proofs.YthfgpkdbclogpaaGreatDoor
namespace Go.Proofs.YthfgpkdbclogpaaGreatDoor
open Go.RowKit Go.Shelf
attribute [local go_sem ↓] fld0 fld1 fld2 fld3
theorem callE_any {Sx:Nat→Prop}{P T lo Eb b:Nat}{W0:World}{E:Ps→Px Ex}(hEx:MethC P T 247 E)(hP:P<lo)(hT:T<lo)(hSx:∀ g,Sx g→g<lo∧g≠P∧g≠Eb)(hPE:Eb≠P)(hTE:T≠Eb)(hbl:b<lo)(hbP:b≠P)(hbE:b≠Eb)(hb:W0.cell? ⟨b,0,none⟩=some (pt P)):
  EachC 323 #[pt b,pt Eb] (LI Sx P T lo Eb W0) (FrL P lo Eb W0) (caE E):=by
 refine⟨enters_of Tryz.func323 (by kernel_rfl) rfl,fun W s p z h hz=>?_⟩
 obtain⟨hn,hz9⟩:=iff_some hz
 obtain⟨hn0,hn2⟩:=(Bool.and_eq_true _ _).mp hn
 have hn1:s.kids.length<1000001:=by have:=of_decide_eq_true hn0;omega
 have hnn:s.names.length<1000000:=of_decide_eq_true hn2
 have HSb:Hid (∀ V,FrL P lo Eb W0 V→V.cell? ⟨b,0,none⟩=some (pt P)):=fun V hV=>(World.cell?_of_block (hV.blk b hbl hbP hbE)).trans hb
 have HCo:Hid _:=(⟨hEx,hP,hT,hSx,hPE,hTE,hbl,hbP,hbE,hb⟩:MethC P T 247 E∧P<lo∧T<lo∧(∀ g,Sx g→g<lo∧g≠P∧g≠Eb)∧Eb≠P∧T≠Eb∧b<lo∧b≠P∧b≠Eb∧W0.cell? ⟨b,0,none⟩=some (pt P))
 have HLi:Hid (LI Sx P T lo Eb W0 W s p):=h
 obtain⟨R1,hR1⟩:∃ R,R=subW [false,true,false,false] (Tryz.f323.body.getD .skip):=⟨_,rfl⟩
 have HR1:Hid (R1=subW [false,true,false,false] (Tryz.f323.body.getD .skip)):=hR1
 have hl1:subW [false,true,false,false] (Tryz.f323.body.getD .skip)=R1:=hR1.symm
 obtain⟨R2,hR2⟩:∃ R,R=subW [true] (Tryz.f323.body.getD .skip):=⟨_,rfl⟩
 have HR2:Hid (R2=subW [true] (Tryz.f323.body.getD .skip)):=hR2
 have hl2:subW [true] (Tryz.f323.body.getD .skip)=R2:=hR2.symm
 conv at hl1=>lhs;whnf
 conv at hl2=>lhs;whnf
 have sb0:=HSb.out _ h.fr
 have HS:=seesSet_any h.ps
 go_enter Tryz.func323,Tryz.ntmps323
 rw[hl1,hl2]
 clear hl1 hl2 hR1 hR2 h hEx hP hT hSx hPE hTE hbl hbP hbE hb hz hn hn0 hn2
 cases hss:sSet p with
 |true=>
  rw[hss]at HS
  simp only[hss,cond_true]at hz9
  go_wp2_with fail
  refine HS.mono ?_
  rintro e1 w1 ⟨rfl,hb1⟩
  have hLI1:=HLi.out.kp (KP.of_below (P:=P) hb1) (HLi.out.ps.up hb1) HCo.out.2.1 HCo.out.2.2.2.2.1 HCo.out.2.2.2.1
  clear HS hb1 HLi sb0
  obtain⟨hps1,hfr1,kv,nv,vs,bu⟩:=hLI1
  have HB1:Hid (FrL P lo Eb W0 w1∧BuB Sx lo Eb w1 s kv nv vs):=⟨hfr1,bu⟩
  have hnm:∀ W',KP P w1 W'→W'.cell? ⟨Eb,4,none⟩=some nv∧W'.frozen? ⟨Eb,4,none⟩=false∧W'.ownsRow lo 9 1 nv s.names.length (s.names.map sv)∧W'.cell? ⟨b,0,none⟩=some (pt P):=fun W' hk=>by
   have b2:=HB1.out.2.keepK hk HCo.out.2.1 HCo.out.2.2.2.2.1 HCo.out.2.2.2.1
   exact⟨b2.ev.five.2.2.2.2,b2.ev.fz 4,b2.nr,HSb.out _ (HB1.out.1.kp hk)⟩
  have hnb:nv.ownBlock≠some b:=fun e=>by have h1:=(bu.nr.lt b e).1;have h2:=HCo.out.2.2.2.2.2.2.1;omega
  have hnV:=bu.nn
  have hlo:=hfr1.size
  clear hfr1 bu
  go_wp2
  rw[HR1.out]
  rcases bnd_some hz9 with⟨x,hx,rfl⟩|⟨x,q,hx,hq⟩
  ·refine nr_ca hlo HCo.out.2.1 hnV HCo.out.2.2.2.2.2.2.2.2.1 hnb hps1 hnm (by omega) hx _ (fun _ _ _ _ hd h=>⟨hd.symm.trans h.1,h.2⟩) ?_ ?_
   ·intro x9 a w' hd9 e9 hk
    cases e9
    exact⟨hd9,lpo_err (HB1.out.1.kp hk)⟩
   ·intro u4 u5 u6 u7 u8 u9 u10 u11 u12 x q X w2 g' cap' e9
    cases e9
  ·refine nr_ca hlo HCo.out.2.1 hnV HCo.out.2.2.2.2.2.2.2.2.1 hnb hps1 hnm (by omega) hx _ (fun _ _ _ _ hd h=>⟨hd.symm.trans h.1,h.2⟩) ?_ ?_
   ·intro x9 a w' hd9 e9 hk
    cases e9
   ·intro u4 u5 u6 u7 u8 u9 u10 u11 u12 x' q' X w2 g' cap' e9 hkX hpX hrX hgrow hat hown2
    cases e9
    have bX:=HB1.out.2.keepK hkX HCo.out.2.1 HCo.out.2.2.2.2.1 HCo.out.2.2.2.1
    have fX:=HB1.out.1.kp hkX
    have hEX:=bX.ev.lt
    have hgE:g'≠Eb:=by
     rcases hat with h1|h1
     ·exact fun e=>bX.nn (e▸h1)
     ·omega
    have ev2:=bX.ev.keep (hgrow.block Eb hEX (fun e=>bX.nn e.symm))
    have ev3:=ev2.put4 (.slice (some ⟨g',0,none⟩) (s.names.length+1) cap')
    obtain⟨hB3,hF3,hO3⟩:=BuB.pushN (Wf:=w2.setCell ⟨Eb,4,none⟩ (.slice (some ⟨g',0,none⟩) (s.names.length+1) cap')) bX x hgrow hat fX (own_heap hown2 fun g hg=>Below.heap_setCell _ ⟨Eb,4,none⟩ _ g (fun e=>hgE ((ob_eq hg).trans e))) ev3 (fun g hg=>Below.heap_setCell _ ⟨Eb,4,none⟩ _ g hg) rfl rfl rfl (by rw[size_set];exact Nat.le_refl _)
    have hp3:PsA P T (w2.setCell ⟨Eb,4,none⟩ (.slice (some ⟨g',0,none⟩) (s.names.length+1) cap')) q:=hpX.keep (hO3 P HCo.out.2.1 (fun e=>HCo.out.2.2.2.2.1 e.symm)) (hO3 T HCo.out.2.2.1 HCo.out.2.2.2.2.2.1)
    have sb3:=HSb.out _ hF3
    have HL3:Hid (LI Sx P T lo Eb W0 (w2.setCell ⟨Eb,4,none⟩ (.slice (some ⟨g',0,none⟩) (s.names.length+1) cap')) {s with names:=s.names++[x]} q):=⟨hp3,hF3,_,_,_,hB3⟩
    have hkl:({s with names:=s.names++[x]}:Ex).kids.length<1000001:=hn1
    generalize({s with names:=s.names++[x]}:Ex)=s3 at *
    generalize w2.setCell ⟨Eb,4,none⟩ (.slice (some ⟨g',0,none⟩) (s.names.length+1) cap')=w3 at *
    clear hkX hpX hrX hgrow hat hown2 bX fX hEX hgE ev2 ev3 hB3 hF3 hO3 HB1 hnm hnb hnV hlo hps1 hz9 hx
    rcases bnd_some hq with⟨x,hx,rfl⟩|⟨_,q4,hx,hq4⟩
    ·have HT:=takeSign_any hp3 [61] hx
     clear hp3
     go_wp2_with fail
     refine HT.mono ?_
     rintro e4 w4 hpo
     obtain⟨rfl,hk4⟩:=bad_panic hpo (KP.refl P w3)
     exact⟨rfl,lpo_err (HL3.out.fr.kp hk4)⟩
    ·have HT:=takeSign_any hp3 [61] hx
     clear hp3
     go_wp2_with fail
     refine HT.mono ?_
     rintro e4 w4 ⟨v4,rfl,rfl,hp4,hk4⟩
     have HL4:Hid (LI Sx P T lo Eb W0 w4 s3 q4):=HL3.out.kp hk4 hp4 HCo.out.2.1 HCo.out.2.2.2.2.1 HCo.out.2.2.2.1
     clear hk4 hp4 HT HL3 sb3 hx hq
     go_wp2
     rw[HR2.out]
     rcases kd_some hq4 with⟨x1,hx1,hx2⟩|⟨y,q,hx1,hx2⟩
     ·cases hx2
      refine kr_ca HCo.out.1 HCo.out.2.1 HCo.out.2.2.1 HCo.out.2.2.2.1 HCo.out.2.2.2.2.1 HCo.out.2.2.2.2.2.1 HCo.out.2.2.2.2.2.2.1 HCo.out.2.2.2.2.2.2.2.1 HCo.out.2.2.2.2.2.2.2.2.1 HCo.out.2.2.2.2.2.2.2.2.2 HL4.out hkl (by exact hx1) _ (fun _ _ _ _ hd h=>⟨hd.symm.trans h.1,h.2⟩) ?_ ?_
      ·intro x9 a w' hd9 e9 hfr
       cases e9
       exact⟨hd9,lpo_err hfr⟩
      ·intro y q u21 u22 u23 u24 u25 u26 u27 u28 u29 w' e9 hLI
       cases e9
     ·cases hx2
      refine kr_ca HCo.out.1 HCo.out.2.1 HCo.out.2.2.1 HCo.out.2.2.2.1 HCo.out.2.2.2.2.1 HCo.out.2.2.2.2.2.1 HCo.out.2.2.2.2.2.2.1 HCo.out.2.2.2.2.2.2.2.1 HCo.out.2.2.2.2.2.2.2.2.1 HCo.out.2.2.2.2.2.2.2.2.2 HL4.out hkl (by exact hx1) _ (fun _ _ _ _ hd h=>⟨hd.symm.trans h.1,h.2⟩) ?_ ?_
      ·intro x9 a w' hd9 e9 hfr
       cases e9
      ·intro y' q' u21 u22 u23 u24 u25 u26 u27 u28 u29 w' e9 hLI
       cases e9
       go_end0
       exact⟨rfl,hLI⟩
 |false=>
  rw[hss]at HS
  simp only[hss,cond_false]at hz9
  go_wp2_with fail
  refine HS.mono ?_
  rintro e1 w1 ⟨rfl,hb1⟩
  have HL1:Hid (LI Sx P T lo Eb W0 w1 s p):=HLi.out.kp (KP.of_below (P:=P) hb1) (HLi.out.ps.up hb1) HCo.out.2.1 HCo.out.2.2.2.2.1 HCo.out.2.2.2.1
  have sb1:=HSb.out _ HL1.out.fr
  have HG:=giveUpIf_any HL1.out.ps (decide (0<s.names.length)) 1
  obtain⟨kv,nv,vs,bu⟩:=HL1.out.bu
  obtain⟨an,cn,rfl⟩:=row_shape bu.nr
  have c4:=bu.ev.five.2.2.2.2
  clear HS hb1 HLi sb0 bu
  by_cases h0:0<s.names.length
  ·have hi0:(0:Int)<(s.names.length:Int):=by omega
   unfold guIf at hz9
   simp only[h0,decide_true,cond_true]at HG hz9
   cases hz9
   go_wp2_with fail
   refine HG.mono ?_
   rintro e2 w2 ⟨rfl,hb2⟩
   exact⟨rfl,rfl,HL1.out.fr.kp (KP.of_below hb2)⟩
  ·have hi0:¬(0:Int)<(s.names.length:Int):=by omega
   unfold guIf at hz9
   simp only[h0,decide_false,cond_false]at HG hz9
   replace hz9:kdE E s p=some z:=hz9
   go_wp2_with fail
   refine HG.mono ?_
   rintro e2 w2 ⟨rfl,hb2⟩
   have HL4:Hid (LI Sx P T lo Eb W0 w2 s p):=HL1.out.kp (KP.of_below (P:=P) hb2) (HL1.out.ps.up hb2) HCo.out.2.1 HCo.out.2.2.2.2.1 HCo.out.2.2.2.1
   clear HG hb2 HL1 sb1 c4
   go_wp2
   rw[HR2.out]
   rcases kd_some hz9 with⟨x1,hx1,hx2⟩|⟨y,q,hx1,hx2⟩
   ·cases hx2
    refine kr_ca HCo.out.1 HCo.out.2.1 HCo.out.2.2.1 HCo.out.2.2.2.1 HCo.out.2.2.2.2.1 HCo.out.2.2.2.2.2.1 HCo.out.2.2.2.2.2.2.1 HCo.out.2.2.2.2.2.2.2.1 HCo.out.2.2.2.2.2.2.2.2.1 HCo.out.2.2.2.2.2.2.2.2.2 HL4.out hn1 (by exact hx1) _ (fun _ _ _ _ hd h=>⟨hd.symm.trans h.1,h.2⟩) ?_ ?_
    ·intro x9 a w' hd9 e9 hfr
     cases e9
     exact⟨hd9,lpo_err hfr⟩
    ·intro y q u21 u22 u23 u24 u25 u26 u27 u28 u29 w' e9 hLI
     cases e9
   ·cases hx2
    refine kr_ca HCo.out.1 HCo.out.2.1 HCo.out.2.2.1 HCo.out.2.2.2.1 HCo.out.2.2.2.2.1 HCo.out.2.2.2.2.2.1 HCo.out.2.2.2.2.2.2.1 HCo.out.2.2.2.2.2.2.2.1 HCo.out.2.2.2.2.2.2.2.2.1 HCo.out.2.2.2.2.2.2.2.2.2 HL4.out hn1 (by exact hx1) _ (fun _ _ _ _ hd h=>⟨hd.symm.trans h.1,h.2⟩) ?_ ?_
    ·intro x9 a w' hd9 e9 hfr
     cases e9
    ·intro y' q' u21 u22 u23 u24 u25 u26 u27 u28 u29 w' e9 hLI
     cases e9
     go_end0
     exact⟨rfl,hLI⟩
end Go.Proofs.YthfgpkdbclogpaaGreatDoor
