/- 29. -/
import Derived.Test.YthfgpkdbclogpaaGreatDoorTx28
set_option maxHeartbeats 40000000
set_option maxRecDepth 100000
namespace Go.Proofs.YthfgpkdbclogpaaGreatDoor
open Go.RowKit Go.Shelf
attribute [local go_sem ↓] fld0 fld1 fld2 fld3
set_option linter.unusedSimpArgs false in
set_option linter.unusedVariables false in
theorem nr_lo {P T lo Vb:Nat}{W:World}{xs:List (List UInt8)}{nv:Value}{p:Ps}{zN:Except Ft (Tk×Ps)}{x1 x2 x4 x5 x6 x7 x8 x9 x10 x11 x12 x13 x14 x15 x16 x17 x18 x19 x20 x21 x22 x23 x24 x25 x26 x27 x28 x29 x30 x31 x32 x33 x34 x35 x36 x37 x38 x39 x40 x41 x42 x43 x44 x45 x46 x47 x48:Value}(hlo:lo≤W.heap.size)(hPl:P<lo)(hnV:nv.ownBlock≠some Vb)
  (hps:PsA P T W p) (hnm:∀ W',KP P W W'→W'.cell? ⟨Vb,2,none⟩=some nv∧W'.frozen? ⟨Vb,2,none⟩=false∧W'.ownsRow lo 9 1 nv xs.length (xs.map sv)∧True) (hn1:xs.length≤1000000) (hz:tkK 3 p=some zN) (Q0:Exit→Act→World→Prop) (hQp:∀ c (a a':Act) w,a.defers=a'.defers→Q0 (.panic c) a w→Q0 (.panic c) a' w)
  (hpan:∀ (x:Ft) (a:Act) (w':World),a.defers=[]→zN= .error x→KP P W w'→Q0 (.panic (PC x.1 x.2)) a w')
  (hok:∀ (u38 u39 u40 u41 u42 u43 u44 u45:Value) (t:Tk) (q:Ps) (X w2:World) (g' cap':Nat),zN= .ok (t,q)→KP P W X→PsA P T X q→X.ownsRow lo 9 1 nv xs.length (xs.map sv)→X.grownBy w2 nv.ownBlock→(nv.ownBlock=some g'∨g'=X.heap.size)→w2.ownsRow lo 9 1 (.slice (some ⟨g',0,none⟩) (xs.length+1) cap') (xs.length+1) (xs.map sv++[sv t.text])→Q0 .normal ⟨#[pt P,x1,x2,pt Vb,x4,x5,x6,x7,x8,x9,x10,x11,x12,x13,x14,x15,x16,x17,x18,x19,x20,x21,x22,x23,x24,x25,x26,x27,x28,x29,x30,x31,x32,x33,x34,x35,x36,x37,u38,u39,u40,u41,u42,u43,u44,u45,x46,x47,x48],[]⟩ (w2.setCell ⟨Vb,2,none⟩ (.slice (some ⟨g',0,none⟩) (xs.length+1) cap'))):
  Code.wp Tryz.prog (subW [true,true,true,true,true,false,false,false,true,false,true,true] (Tryz.f255.body.getD .skip)) Q0 ⟨#[pt P,x1,x2,pt Vb,x4,x5,x6,x7,x8,x9,x10,x11,x12,x13,x14,x15,x16,x17,x18,x19,x20,x21,x22,x23,x24,x25,x26,x27,x28,x29,x30,x31,x32,x33,x34,x35,x36,x37,x38,x39,x40,x41,x42,x43,x44,x45,x46,x47,x48],[]⟩ W:=by
 have infN:(Tryz.prog.info? 9).map (fun i=>(i.zero,i.size,i.bytes))=some (some (.string ⟨#[]⟩),1,16):=by kernel_rfl
 obtain⟨i0,hi,hz0,hz1,hz2⟩:=info_p infN
 clear infN
 have HNm:Hid (∀ W',KP P W W'→W'.cell? ⟨Vb,2,none⟩=some nv∧W'.frozen? ⟨Vb,2,none⟩=false∧W'.ownsRow lo 9 1 nv xs.length (xs.map sv)∧True):=hnm
 have HPn:Hid (∀ (x:Ft) (a:Act) (w':World),a.defers=[]→zN= .error x→KP P W w'→Q0 (.panic (PC x.1 x.2)) a w'):=hpan
 have HOk:Hid (∀ (u38 u39 u40 u41 u42 u43 u44 u45:Value) (t:Tk) (q:Ps) (X w2:World) (g' cap':Nat),zN= .ok (t,q)→KP P W X→PsA P T X q→X.ownsRow lo 9 1 nv xs.length (xs.map sv)→X.grownBy w2 nv.ownBlock→(nv.ownBlock=some g'∨g'=X.heap.size)→w2.ownsRow lo 9 1 (.slice (some ⟨g',0,none⟩) (xs.length+1) cap') (xs.length+1) (xs.map sv++[sv t.text])→Q0 .normal ⟨#[pt P,x1,x2,pt Vb,x4,x5,x6,x7,x8,x9,x10,x11,x12,x13,x14,x15,x16,x17,x18,x19,x20,x21,x22,x23,x24,x25,x26,x27,x28,x29,x30,x31,x32,x33,x34,x35,x36,x37,u38,u39,u40,u41,u42,u43,u44,u45,x46,x47,x48],[]⟩ (w2.setCell ⟨Vb,2,none⟩ (.slice (some ⟨g',0,none⟩) (xs.length+1) cap'))):=hok
 have hk0:KP P W W.drew:=(KP.refl P W).drew
 obtain⟨c_0,f_0,r_0,sb_0⟩:=hnm W.drew hk0
 obtain⟨an,cn,hnv⟩:=row_shape r_0
 have HD0:=take2_any (hps.drewN 1) 3 (by decide) hz
 clear hnm hpan hok hz
 subst hnv
 have HQp:Hid (∀ c (a a':Act) w,a.defers=a'.defers→Q0 (.panic c) a w→Q0 (.panic c) a' w):=hQp
 clear hQp
 conv=>arg 2;whnf
 match zN with
 | .error x=>
  refine wp_region_held_drew (S:=fun _=>True) (by kernel_rfl) sb_0 (fun hHeld=>?_)
  refine tK (i:=0) (v:= .pointer (some ⟨Vb,2,none⟩)) rfl (by kernel_rfl) HQp.out (Or.inl ⟨by rfl,?_⟩) (by assumption) ?_
  ·intro V hSV
   try dsimp only at hSV
   go_simp
   try with_reducible rfl
   try(intro h9;exfalso;omega)
  try simp only[Act.put,pA,pB,pC,pD,pE,pF]
  refine tK (i:=2) (v:=pt P) rfl (by kernel_rfl) HQp.out (Or.inl ⟨by rfl,?_⟩) (by assumption) ?_
  ·intro V hSV
   try dsimp only at hSV
   go_simp
   try with_reducible rfl
   try(intro h9;exfalso;omega)
  try simp only[Act.put,pA,pB,pC,pD,pE,pF]
  refine wpAnyH_ready (rs:=[1,3]) (by kernel_rfl) (by simp) (AllReadyH.cons rfl (fun K hK=>?_) (AllReadyH.cons rfl (fun K hK=>?_) AllReadyH.nil))
  go_simp
  refine hK.out _ _ hHeld (fun hHeld=>?_)
  clear hK K
  try simp only[Act.put,pA,pB,pC,pD,pE,pF]
  refine wpAnyH_ready (rs:=[3]) (by kernel_rfl) (by simp) (AllReadyH.cons rfl (fun K hK=>?_) AllReadyH.nil)
  go_simp
  refine HD0.mono ?_
  rintro e1 w1 hpo
  obtain⟨rfl,hk1⟩:=bad_panic hpo hk0
  exact HPn.out _ _ _ rfl rfl hk1
  go_simp
  refine HD0.mono ?_
  rintro e1 w1 hpo
  obtain⟨rfl,hk1⟩:=bad_panic hpo hk0
  exact HPn.out _ _ _ rfl rfl hk1
 | .ok (x,q)=>
  refine wp_region_held_drew (S:=fun _=>True) (by kernel_rfl) sb_0 (fun hHeld=>?_)
  refine tK (i:=0) (v:= .pointer (some ⟨Vb,2,none⟩)) rfl (by kernel_rfl) HQp.out (Or.inl ⟨by rfl,?_⟩) (by assumption) ?_
  ·intro V hSV
   try dsimp only at hSV
   go_simp
   try with_reducible rfl
   try(intro h9;exfalso;omega)
  try simp only[Act.put,pA,pB,pC,pD,pE,pF]
  refine tK (i:=2) (v:=pt P) rfl (by kernel_rfl) HQp.out (Or.inl ⟨by rfl,?_⟩) (by assumption) ?_
  ·intro V hSV
   try dsimp only at hSV
   go_simp
   try with_reducible rfl
   try(intro h9;exfalso;omega)
  try simp only[Act.put,pA,pB,pC,pD,pE,pF]
  refine wpAnyH_ready (rs:=[1,3]) (by kernel_rfl) (by simp) (AllReadyH.cons rfl (fun K hK=>?_) (AllReadyH.cons rfl (fun K hK=>?_) AllReadyH.nil))
  go_simp
  refine hK.out _ _ hHeld (fun hHeld=>?_)
  clear hK K
  try simp only[Act.put,pA,pB,pC,pD,pE,pF]
  refine wpAnyH_ready (rs:=[3]) (by kernel_rfl) (by simp) (AllReadyH.cons rfl (fun K hK=>?_) AllReadyH.nil)
  go_simp
  refine HD0.mono ?_
  rintro e1 w1 ⟨v1,rfl,rfl,hp1,hkw1⟩
  have hk1:=hk0.trans hkw1
  obtain⟨c_1,f_1,r_1,sb_1⟩:=HNm.out w1 hk1
  have hkx:=hk1.alloc (.cells #[.string (mkB x.text)] 9)
  obtain⟨c_x,f_x,r_x,sb_x⟩:=HNm.out _ hkx
  have hpx:=hp1.up (alB w1 (.cells #[.string (mkB x.text)] 9))
  have hzx:(w1.alloc (.cells #[.string (mkB x.text)] 9)).heap[w1.heap.size]? =some (.cells #[.string (mkB x.text)] 9 (0,0)):=heap_alloc_new w1 _
  have HX:Hid (KP P W (w1.alloc (.cells #[.string (mkB x.text)] 9))∧PsA P T (w1.alloc (.cells #[.string (mkB x.text)] 9)) q):=⟨hkx,hpx⟩
  clear hkw1 hk1 hkx hp1 hpx
  refine hK.out _ _ sb_1 (fun hHeld=>?_)
  clear hK K
  try simp only[Act.put,pA,pB,pC,pD,pE,pF]
  refine tK (i:=4) (v:= .string (mkB x.text)) rfl (by kernel_rfl) HQp.out (Or.inl ⟨by rfl,?_⟩) (by assumption) ?_
  ·intro V hSV
   try dsimp only at hSV
   go_simp
   try with_reducible rfl
   try(intro h9;exfalso;omega)
  try simp only[Act.put,pA,pB,pC,pD,pE,pF]
  refine wpAnyH_ready (rs:=[5]) (by kernel_rfl) (by simp) (AllReadyH.cons rfl (fun K hK=>?_) AllReadyH.nil)
  go_simp
  refine hK.out _ _ sb_x (fun hHeld=>?_)
  clear hK K
  try simp only[Act.put,pA,pB,pC,pD,pE,pF]
  have hnews:∀ (j:Nat) (u:Value),[Value.string (mkB x.text)][j]? =some u→(w1.alloc (.cells #[.string (mkB x.text)] 9)).cell? ((⟨w1.heap.size,0,none⟩:Addr).add j)=some u:=fun j u hu=>World.news_of_block hzx j u hu
  have hsX:lo≤(w1.alloc (.cells #[.string (mkB x.text)] 9)).heap.size:=Nat.le_trans hlo HX.out.1.size
  refine wpAnyH_ready (rs:=[6]) (by kernel_rfl) (by simp) (AllReadyH.cons rfl (fun K hK=>?_) AllReadyH.nil)
  refine step_append_lies (w1.alloc (.cells #[.string (mkB x.text)] 9)) (by rfl) (Operand.tmp 39) (Operand.tmp 43) 37 (by rfl) lo 9 i0 (.string ⟨#[]⟩) 1 16 Tryz.underlying37 hi hz0 hz1 hz2 rfl (by decide) (.slice an xs.length cn) xs.length (xs.map sv) (by rfl) r_x ⟨w1.heap.size,0,none⟩ 1 1 [.string (mkB x.text)] (by rfl) rfl hnews (by simp[Value.oneCell']) (by decide) (by unfold maxLen;omega) (by omega) hsX (w1.alloc (.cells #[.string (mkB x.text)] 9)).heap.size rfl ?_
  intro g' cap' w2 hown2 hgrow hat hltg
  have hVX:Vb<(w1.alloc (.cells #[.string (mkB x.text)] 9)).heap.size:=World.block_lt_of_cell? _ _ c_x
  have hV2:w2.heap[Vb]? =(w1.alloc (.cells #[.string (mkB x.text)] 9)).heap[Vb]? :=hgrow.block Vb hVX (fun e=>hnV e.symm)
  have c_2:w2.cell? ⟨Vb,2,none⟩=some (.slice an xs.length cn):=(World.cell?_of_block hV2).trans c_x
  have f_2:w2.frozen? ⟨Vb,2,none⟩=false:=by
   rw[←f_x]
   unfold World.frozen?
   rw[hV2]
  have sb_2:True:=trivial
  have sb_4:True:=trivial
  refine hK.out _ _ sb_2 (fun hHeld=>?_)
  clear hK K
  try simp only[Act.put,pA,pB,pC,pD,pE,pF]
  refine tK (i:=7) (v:= .pointer (some ⟨Vb,2,none⟩)) rfl (by kernel_rfl) HQp.out (Or.inl ⟨by rfl,?_⟩) (by assumption) ?_
  ·intro V hSV
   try dsimp only at hSV
   go_simp
   try with_reducible rfl
   try(intro h9;exfalso;omega)
  try simp only[Act.put,pA,pB,pC,pD,pE,pF]
  refine wpAnyH_ready (rs:=[8]) (by kernel_rfl) (by simp) (AllReadyH.cons rfl (fun K hK=>?_) AllReadyH.nil)
  go_simp
  refine hK.out _ _ sb_4 (fun hHeld=>?_)
  clear hK K
  try simp only[Act.put,pA,pB,pC,pD,pE,pF]
  refine wpAnyH_done (by kernel_rfl) ?_ _
  try simp only[Act.put,pA,pB,pC,pD,pE,pF]
  exact HOk.out _ _ _ _ _ _ _ _ x q (w1.alloc (.cells #[.string (mkB x.text)] 9)) w2 g' cap' rfl HX.out.1 HX.out.2 r_x hgrow hat hown2
  go_simp
  refine HD0.mono ?_
  rintro e1 w1 ⟨v1,rfl,rfl,hp1,hkw1⟩
  have hk1:=hk0.trans hkw1
  obtain⟨c_1,f_1,r_1,sb_1⟩:=HNm.out w1 hk1
  have hkx:=hk1.alloc (.cells #[.string (mkB x.text)] 9)
  obtain⟨c_x,f_x,r_x,sb_x⟩:=HNm.out _ hkx
  have hpx:=hp1.up (alB w1 (.cells #[.string (mkB x.text)] 9))
  have hzx:(w1.alloc (.cells #[.string (mkB x.text)] 9)).heap[w1.heap.size]? =some (.cells #[.string (mkB x.text)] 9 (0,0)):=heap_alloc_new w1 _
  have HX:Hid (KP P W (w1.alloc (.cells #[.string (mkB x.text)] 9))∧PsA P T (w1.alloc (.cells #[.string (mkB x.text)] 9)) q):=⟨hkx,hpx⟩
  clear hkw1 hk1 hkx hp1 hpx
  refine hK.out _ _ sb_1 (fun hHeld=>?_)
  clear hK K
  try simp only[Act.put,pA,pB,pC,pD,pE,pF]
  refine tK (i:=4) (v:= .string (mkB x.text)) rfl (by kernel_rfl) HQp.out (Or.inl ⟨by rfl,?_⟩) (by assumption) ?_
  ·intro V hSV
   try dsimp only at hSV
   go_simp
   try with_reducible rfl
   try(intro h9;exfalso;omega)
  try simp only[Act.put,pA,pB,pC,pD,pE,pF]
  refine wpAnyH_ready (rs:=[1,5]) (by kernel_rfl) (by simp) (AllReadyH.cons rfl (fun K hK=>?_) (AllReadyH.cons rfl (fun K hK=>?_) AllReadyH.nil))
  go_simp
  refine hK.out _ _ hHeld (fun hHeld=>?_)
  clear hK K
  try simp only[Act.put,pA,pB,pC,pD,pE,pF]
  refine wpAnyH_ready (rs:=[5]) (by kernel_rfl) (by simp) (AllReadyH.cons rfl (fun K hK=>?_) AllReadyH.nil)
  go_simp
  refine hK.out _ _ sb_x (fun hHeld=>?_)
  clear hK K
  try simp only[Act.put,pA,pB,pC,pD,pE,pF]
  have hnews:∀ (j:Nat) (u:Value),[Value.string (mkB x.text)][j]? =some u→(w1.alloc (.cells #[.string (mkB x.text)] 9)).cell? ((⟨w1.heap.size,0,none⟩:Addr).add j)=some u:=fun j u hu=>World.news_of_block hzx j u hu
  have hsX:lo≤(w1.alloc (.cells #[.string (mkB x.text)] 9)).heap.size:=Nat.le_trans hlo HX.out.1.size
  refine wpAnyH_ready (rs:=[6]) (by kernel_rfl) (by simp) (AllReadyH.cons rfl (fun K hK=>?_) AllReadyH.nil)
  refine step_append_lies (w1.alloc (.cells #[.string (mkB x.text)] 9)) (by rfl) (Operand.tmp 39) (Operand.tmp 43) 37 (by rfl) lo 9 i0 (.string ⟨#[]⟩) 1 16 Tryz.underlying37 hi hz0 hz1 hz2 rfl (by decide) (.slice an xs.length cn) xs.length (xs.map sv) (by rfl) r_x ⟨w1.heap.size,0,none⟩ 1 1 [.string (mkB x.text)] (by rfl) rfl hnews (by simp[Value.oneCell']) (by decide) (by unfold maxLen;omega) (by omega) hsX (w1.alloc (.cells #[.string (mkB x.text)] 9)).heap.size rfl ?_
  intro g' cap' w2 hown2 hgrow hat hltg
  have hVX:Vb<(w1.alloc (.cells #[.string (mkB x.text)] 9)).heap.size:=World.block_lt_of_cell? _ _ c_x
  have hV2:w2.heap[Vb]? =(w1.alloc (.cells #[.string (mkB x.text)] 9)).heap[Vb]? :=hgrow.block Vb hVX (fun e=>hnV e.symm)
  have c_2:w2.cell? ⟨Vb,2,none⟩=some (.slice an xs.length cn):=(World.cell?_of_block hV2).trans c_x
  have f_2:w2.frozen? ⟨Vb,2,none⟩=false:=by
   rw[←f_x]
   unfold World.frozen?
   rw[hV2]
  have sb_2:True:=trivial
  have sb_4:True:=trivial
  refine hK.out _ _ sb_2 (fun hHeld=>?_)
  clear hK K
  try simp only[Act.put,pA,pB,pC,pD,pE,pF]
  refine tK (i:=7) (v:= .pointer (some ⟨Vb,2,none⟩)) rfl (by kernel_rfl) HQp.out (Or.inl ⟨by rfl,?_⟩) (by assumption) ?_
  ·intro V hSV
   try dsimp only at hSV
   go_simp
   try with_reducible rfl
   try(intro h9;exfalso;omega)
  try simp only[Act.put,pA,pB,pC,pD,pE,pF]
  refine wpAnyH_ready (rs:=[8]) (by kernel_rfl) (by simp) (AllReadyH.cons rfl (fun K hK=>?_) AllReadyH.nil)
  go_simp
  refine hK.out _ _ sb_4 (fun hHeld=>?_)
  clear hK K
  try simp only[Act.put,pA,pB,pC,pD,pE,pF]
  refine wpAnyH_done (by kernel_rfl) ?_ _
  try simp only[Act.put,pA,pB,pC,pD,pE,pF]
  exact HOk.out _ _ _ _ _ _ _ _ x q (w1.alloc (.cells #[.string (mkB x.text)] 9)) w2 g' cap' rfl HX.out.1 HX.out.2 r_x hgrow hat hown2
  go_simp
  refine hK.out _ _ sb_x (fun hHeld=>?_)
  clear hK K
  try simp only[Act.put,pA,pB,pC,pD,pE,pF]
  refine wpAnyH_ready (rs:=[1]) (by kernel_rfl) (by simp) (AllReadyH.cons rfl (fun K hK=>?_) AllReadyH.nil)
  go_simp
  refine hK.out _ _ hHeld (fun hHeld=>?_)
  clear hK K
  try simp only[Act.put,pA,pB,pC,pD,pE,pF]
  have hnews:∀ (j:Nat) (u:Value),[Value.string (mkB x.text)][j]? =some u→(w1.alloc (.cells #[.string (mkB x.text)] 9)).cell? ((⟨w1.heap.size,0,none⟩:Addr).add j)=some u:=fun j u hu=>World.news_of_block hzx j u hu
  have hsX:lo≤(w1.alloc (.cells #[.string (mkB x.text)] 9)).heap.size:=Nat.le_trans hlo HX.out.1.size
  refine wpAnyH_ready (rs:=[6]) (by kernel_rfl) (by simp) (AllReadyH.cons rfl (fun K hK=>?_) AllReadyH.nil)
  refine step_append_lies (w1.alloc (.cells #[.string (mkB x.text)] 9)) (by rfl) (Operand.tmp 39) (Operand.tmp 43) 37 (by rfl) lo 9 i0 (.string ⟨#[]⟩) 1 16 Tryz.underlying37 hi hz0 hz1 hz2 rfl (by decide) (.slice an xs.length cn) xs.length (xs.map sv) (by rfl) r_x ⟨w1.heap.size,0,none⟩ 1 1 [.string (mkB x.text)] (by rfl) rfl hnews (by simp[Value.oneCell']) (by decide) (by unfold maxLen;omega) (by omega) hsX (w1.alloc (.cells #[.string (mkB x.text)] 9)).heap.size rfl ?_
  intro g' cap' w2 hown2 hgrow hat hltg
  have hVX:Vb<(w1.alloc (.cells #[.string (mkB x.text)] 9)).heap.size:=World.block_lt_of_cell? _ _ c_x
  have hV2:w2.heap[Vb]? =(w1.alloc (.cells #[.string (mkB x.text)] 9)).heap[Vb]? :=hgrow.block Vb hVX (fun e=>hnV e.symm)
  have c_2:w2.cell? ⟨Vb,2,none⟩=some (.slice an xs.length cn):=(World.cell?_of_block hV2).trans c_x
  have f_2:w2.frozen? ⟨Vb,2,none⟩=false:=by
   rw[←f_x]
   unfold World.frozen?
   rw[hV2]
  have sb_2:True:=trivial
  have sb_4:True:=trivial
  refine hK.out _ _ sb_2 (fun hHeld=>?_)
  clear hK K
  try simp only[Act.put,pA,pB,pC,pD,pE,pF]
  refine tK (i:=7) (v:= .pointer (some ⟨Vb,2,none⟩)) rfl (by kernel_rfl) HQp.out (Or.inl ⟨by rfl,?_⟩) (by assumption) ?_
  ·intro V hSV
   try dsimp only at hSV
   go_simp
   try with_reducible rfl
   try(intro h9;exfalso;omega)
  try simp only[Act.put,pA,pB,pC,pD,pE,pF]
  refine wpAnyH_ready (rs:=[8]) (by kernel_rfl) (by simp) (AllReadyH.cons rfl (fun K hK=>?_) AllReadyH.nil)
  go_simp
  refine hK.out _ _ sb_4 (fun hHeld=>?_)
  clear hK K
  try simp only[Act.put,pA,pB,pC,pD,pE,pF]
  refine wpAnyH_done (by kernel_rfl) ?_ _
  try simp only[Act.put,pA,pB,pC,pD,pE,pF]
  exact HOk.out _ _ _ _ _ _ _ _ x q (w1.alloc (.cells #[.string (mkB x.text)] 9)) w2 g' cap' rfl HX.out.1 HX.out.2 r_x hgrow hat hown2
end Go.Proofs.YthfgpkdbclogpaaGreatDoor
namespace Go.Proofs.YthfgpkdbclogpaaGreatDoor
open Go.RowKit Go.Shelf
attribute [local go_sem ↓] fld0 fld1 fld2 fld3
theorem PsA.second {P T:Nat}{w:World}{p:Ps}(h:PsA P T w p){t u:Tk}{r:List Tk}(hp:p.toks=t::u::r):∃ o c,w.cell? ⟨P,0,none⟩=some (.slice (some ⟨T,o,none⟩) (r.length+1+1) c)∧w.cell? ⟨T,o+4,none⟩=some (.int .i64 u.kind)∧w.cell? ⟨T,o+5,none⟩=some (.string (mkB u.text))∧w.cell? ⟨T,o+6,none⟩=some (.int .i64 u.num)∧w.cell? ⟨T,o+7,none⟩=some (.int .i64 u.pos):=by
 obtain⟨a,c,o,h1,h2,h3,h4,h5,h6,h7,h8⟩:=h
 rw[hp]at h1 h2 h4 h5
 obtain rfl:=h4 (by simp)
 simp only[List.length_cons]at h1 h5
 refine⟨o,c,by rw[Lib.cell_of_heap h1];rfl,?_,?_,?_,?_⟩
 ·exact h5 4 (by omega)
 ·exact h5 5 (by omega)
 ·exact h5 6 (by omega)
 ·exact h5 7 (by omega)
theorem seesSet_any {P T:Nat}{w:World}{p:Ps}(h:PsA P T w p):
  Calls Tryz.prog 256 #[pt P] w fun e w'=>e= .returned (.bool (sSet p))∧Below w.heap.size w w':=by
 have HS:=sees2_any h 1
 match hp:p.toks with
 |[]=>
  obtain⟨a,c,c0,_⟩:=h.cells
  rw[hp]at c0
  rw[show sSet p=false from by unfold sSet;rw[hp]]
  clear HS h
  go_enter Tryz.func256,Tryz.ntmps256
  go_wp2
  go_ret
  exact⟨rfl,Below.refl _ _⟩
 |[t]=>
  obtain⟨a,c,c0,_⟩:=h.cells
  rw[hp]at c0
  rw[show sSet p=false from by unfold sSet;rw[hp]]
  clear HS h
  go_enter Tryz.func256,Tryz.ntmps256
  go_wp2
  go_ret
  exact⟨rfl,Below.refl _ _⟩
 |t::u::r=>
  rw[show sSet p=(t.kind==1&&isS u [[61]])from by unfold sSet;rw[hp]]
  rw[adv_of hp]at HS
  obtain⟨o,c,c0,_⟩:=h.second hp
  have H:Hid (PsA P T w p):=h
  clear h
  have hge:(1:Int)<((r.length:Int)+1+1):=by omega
  cases hk:t.kind==1 with
  |false=>
   rw[hk]at HS
   go_enter Tryz.func256,Tryz.ntmps256
   go_wp2_with (go_at_call 257;refine HS.mono ?_;rintro e w1 ⟨rfl,hb1⟩)
   go_ret
   exact⟨rfl,hb1⟩
  |true=>
   rw[hk]at HS
   go_enter Tryz.func256,Tryz.ntmps256
   go_wp2_with fail
   refine HS.mono ?_
   rintro e w1 ⟨rfl,hb1⟩
   have h1:=H.out.up hb1
   obtain⟨o1,k1,d0,d1,d2,d3,d4⟩:=h1.second hp
   have hPl:=h1.lt
   have HI:Calls Tryz.prog 244 #[.agg #[.int .i64 u.kind,.string (mkB u.text),.int .i64 u.num,.int .i64 u.pos],.slice (some ⟨w1.heap.size,0,none⟩) 1 1] (w1.alloc (.cells #[.string ⟨#[61]⟩] 9)) fun e w'=>e= .returned (.bool (isS u [[61]]))∧Below w.heap.size w w':=(isSign_any u (SgA.new P w1 [[61]] (by simp) hPl)).mono fun e w' ⟨a,b⟩=>⟨a,(hb1.trans ((alB w1 _).mono hb1.size)).trans (b.mono (Nat.le_trans hb1.size (by rw[World.size_alloc];omega)))⟩
   clear h1 hb1 H HS
   go_wp2_with fail
   refine HI.mono ?_
   rintro e w2 ⟨rfl,hb2⟩
   go_wp2
   go_ret
   exact⟨rfl,hb2⟩
end Go.Proofs.YthfgpkdbclogpaaGreatDoor
namespace Go.Proofs.YthfgpkdbclogpaaGreatDoor
open Go.RowKit Go.Shelf
def SmV (w:World)(S:Nat→Prop):Nat→Sm→List Value→Prop
 |0,_,_=>False
 |n+1,x,c=>∃ nv ce bv ev bs es,c= .int .i64 x.kind::sv x.text::nv::(ce++[bv,ev])∧ExA w S x.ex ce∧w.ownsRow 0 9 1 nv x.names.length (x.names.map sv)∧w.ownsRow 0 164 10 bv x.body.length bs.flatten∧w.ownsRow 0 164 10 ev x.els.length es.flatten∧(∀ g,nv.ownBlock=some g→S g)∧(∀ g,bv.ownBlock=some g→S g)∧(∀ g,ev.ownBlock=some g→S g)∧Fa (SmV w S n) x.body bs∧Fa (SmV w S n) x.els es
theorem SmV.keep {w w':World}{S Q:Nat→Prop}(hk:∀ g,S g→g<w.heap.size→w'.heap[g]? =w.heap[g]?)(hs:∀ g,S g→g<w.heap.size→Q g):∀ {n:Nat} {x:Sm} {c:List Value},SmV w S n x c→SmV w' Q n x c
 |_+1,_,_,⟨nv,ce,bv,ev,bs,es,e,h1,h2,h3,h4,k2,k3,k4,h5,h6⟩=>⟨nv,ce,bv,ev,bs,es,e,h1.keep hk hs,own_heap h2 fun g hg=>hk g (k2 g hg) (h2.lt g hg).2,own_heap h3 fun g hg=>hk g (k3 g hg) (h3.lt g hg).2,own_heap h4 fun g hg=>hk g (k4 g hg) (h4.lt g hg).2,fun g hg=>hs g (k2 g hg) (h2.lt g hg).2,fun g hg=>hs g (k3 g hg) (h3.lt g hg).2,fun g hg=>hs g (k4 g hg) (h4.lt g hg).2,h5.mono fun _ _ f=>SmV.keep hk hs f,h6.mono fun _ _ f=>SmV.keep hk hs f⟩
def SmA (w:World)(S:Nat→Prop)(x:Sm)(c:List Value):Prop:=∃ n,SmV w S n x c
section
variable {w w':World} {S Q:Nat→Prop} {x:Sm} {c:List Value}
theorem SmA.keep (h:SmA w S x c)(hk:∀ g,S g→g<w.heap.size→w'.heap[g]? =w.heap[g]?)(hs:∀ g,S g→g<w.heap.size→Q g):SmA w' Q x c:=⟨h.choose,h.choose_spec.keep hk hs⟩
theorem SmA.mono (h:SmA w S x c)(hs:∀ g,S g→g<w.heap.size→Q g):SmA w Q x c:=h.keep (fun _ _ _=>rfl) hs
theorem SmA.form (h:SmA w S x c):∃ a0 c0 a1 c1 a2 c2 a3 c3 a4 c4,c=[.int .i64 x.kind,.string (mkB x.text),.slice a0 x.names.length c0,.int .i64 x.ex.kind,.int .i64 x.ex.num,.string (mkB x.ex.text),.slice a1 x.ex.kids.length c1,.slice a2 x.ex.names.length c2,.slice a3 x.body.length c3,.slice a4 x.els.length c4]:=by
 obtain⟨n,hn⟩:=h
 match n,hn with
 |n+1,⟨nv,ce,bv,ev,bs,es,e,h1,h2,h3,h4,_⟩=>
  obtain⟨a0,c0,rfl⟩:=row_shape h2
  obtain⟨a3,c3,rfl⟩:=row_shape h3
  obtain⟨a4,c4,rfl⟩:=row_shape h4
  obtain⟨a1,c1,a2,c2,rfl⟩:=h1.form
  exact⟨a0,c0,a1,c1,a2,c2,a3,c3,a4,c4,e⟩
theorem SmA.len (h:SmA w S x c):c.length=10:=by
 obtain⟨a0,c0,a1,c1,a2,c2,a3,c3,a4,c4,rfl⟩:=h.form
 rfl
theorem SmA.one (h:SmA w S x c):∀ v∈c,v.oneCell'=true:=by
 obtain⟨a0,c0,a1,c1,a2,c2,a3,c3,a4,c4,rfl⟩:=h.form
 simp[Value.oneCell']
theorem SmA.small {e:Ex}{ce:List Value}(h:ExA w S e ce)(k:Nat)(t:List UInt8):SmA w S ⟨k,t,[],e,[],[]⟩ (.int .i64 k::sv t:: .slice none 0 0::(ce++[.slice none 0 0,.slice none 0 0])):=
 ⟨1,_,ce,_,_,[],[],rfl,h,World.ownsRow_nil _ _ _ _,World.ownsRow_nil _ _ _ _,World.ownsRow_nil _ _ _ _,(fun g hg=>by cases hg),(fun g hg=>by cases hg),(fun g hg=>by cases hg),trivial,trivial⟩
end
def VS (n:Nat)(w:World)(x:Sm)(v:Value):Prop:=∃ c,v= .agg c.toArray∧SmA w (fun g=>n≤g) x c
abbrev sz:Obj:= .cells #[.int .i64 0,.string ⟨#[]⟩,.slice none 0 0,.int .i64 0,.int .i64 0,.string ⟨#[]⟩,.slice none 0 0,.slice none 0 0,.slice none 0 0,.slice none 0 0] 164
theorem szS:(Tryz.prog.info? 164).map (·.size)=some 10:=by kernel_rfl
theorem fin10 {w1:World}{R:Nat}{c0:Array Value}(hr:w1.heap[R]? =some (.cells c0 164 (0,0)))(h0:c0.size=10){S:Nat→Prop}{x:Sm}{c:List Value}(h:SmA w1 S x c):
  w1.there R 0 c.toArray.size∧(Tryz.prog.info? 164).map (·.size)=some c.toArray.size∧c.toArray.all (·.oneCell')=true∧(loadVar 164 ⟨R,0,none⟩).run Tryz.prog (w1.setCells R 0 c)= .ok (.agg c.toArray) (w1.setCells R 0 c)∧
  (Tryz.prog.info? 164).map (·.size)=some c.length:=by
 have hl:=h.len
 have hla:c.toArray.size=10:=hl
 refine⟨by rw[hla,←h0];exact there_of hr,by rw[hla];exact szS,all_oneCell_toArray h.one,(stN hr (c:=c) (by rw[hl,h0]) (by rw[hl];exact szS) h.one Tryz.underlying164 rfl).2,by rw[hl];exact szS⟩
theorem poS_fin {P T:Nat}{w w1:World}{R:Nat}(hR:w.heap.size≤R){S:Nat→Prop}{x:Sm}{c:List Value}(hx:SmA w1 S x c)(hS:∀ g,S g→w.heap.size≤g∧g≠R){q:Ps}(hps:PsA P T w1 q)(hk:KP P w w1)(hP:P<w.heap.size)(hT:T<w.heap.size):
  PoA P T (VS w.heap.size) w (.ok (x,q)) (.returned (.agg c.toArray)) (w1.setCells R 0 c):=
 ⟨_,rfl,⟨c,rfl,hx.keep (fun g hg _=>heap_sets R c 0 w1 g (hS g hg).2) (fun g hg _=>(hS g hg).1)⟩,hps.sets (by omega) (by omega) _,hk.sets hR _⟩
def MethS (P T Y:Nat)(m:Ps→Px Sm):Prop:=∀ W p z,PsA P T W p→ErrR W→m p=some z→Calls Tryz.prog Y #[pt P] W (PoA P T (VS W.heap.size) W z)
theorem ErrR.ne {P T:Nat}{w:World}{p:Ps}(h:ErrR w)(hp:PsA P T w p):7≠P:=fun e=>by
 obtain⟨ev,h1,h2⟩:=h
 obtain⟨a,c,c0,_⟩:=hp.cells
 rw[e,c0]at h1
 rcases h2 with rfl|⟨te,pe,rfl⟩
 ·cases h1
 ·cases h1
theorem ErrR.kp {P:Nat}{w w':World}(h:ErrR w)(hne:7≠P)(hk:KP P w w'):ErrR w':=by
 obtain⟨ev,h1,h2⟩:=h
 refine⟨ev,?_,h2⟩
 rw[←h1]
 exact World.cell?_of_block (hk.blk _ (World.block_lt_of_cell? w ⟨7,0,none⟩ h1) hne)
theorem SmV.up {w:World}{S:Nat→Prop}:∀ {n:Nat} {x:Sm} {c:List Value},SmV w S n x c→SmV w S (n+1) x c
 |_+1,_,_,⟨nv,ce,bv,ev,bs,es,e,h1,h2,h3,h4,k2,k3,k4,h5,h6⟩=>⟨nv,ce,bv,ev,bs,es,e,h1,h2,h3,h4,k2,k3,k4,h5.mono fun _ _ f=>SmV.up f,h6.mono fun _ _ f=>SmV.up f⟩
theorem SmV.le {w:World}{S:Nat→Prop}{n:Nat}{x:Sm}{c:List Value}(h:SmV w S n x c):∀ m,n≤m→SmV w S m x c
 |m,hm=>by
  induction m with
  |zero=>
   obtain rfl:n=0:=by omega
   exact h
  |succ m ih=>
   rcases Nat.lt_or_ge m n with hl|hl
   ·obtain rfl:n=m+1:=by omega
    exact h
   ·exact(ih hl).up
theorem fa_allS {w:World}{S:Nat→Prop}:∀ {l:List Sm} {vs:List (List Value)},Fa (SmA w S) l vs→∃ n,Fa (SmV w S n) l vs
 |[],[],_=>⟨0,trivial⟩
 |a::l,b::m,f=>by
  obtain⟨n1,h1⟩:=f.1
  obtain⟨n2,h2⟩:=fa_allS f.2
  exact⟨max n1 n2,h1.le _ (Nat.le_max_left _ _),h2.mono fun _ _ h=>h.le _ (Nat.le_max_right _ _)⟩
theorem SmA.make {w:World}{S:Nat→Prop}{x:Sm}{nv bv ev:Value}{ce:List Value}{bs es:List (List Value)}(h1:ExA w S x.ex ce)(h2:w.ownsRow 0 9 1 nv x.names.length (x.names.map sv))(h3:w.ownsRow 0 164 10 bv x.body.length bs.flatten)(h4:w.ownsRow 0 164 10 ev x.els.length es.flatten)
  (k2:∀ g,nv.ownBlock=some g→S g) (k3:∀ g,bv.ownBlock=some g→S g) (k4:∀ g,ev.ownBlock=some g→S g) (h5:Fa (SmA w S) x.body bs) (h6:Fa (SmA w S) x.els es):SmA w S x (.int .i64 x.kind::sv x.text::nv::(ce++[bv,ev])):=by
 obtain⟨n1,q1⟩:=fa_allS h5
 obtain⟨n2,q2⟩:=fa_allS h6
 exact⟨max n1 n2+1,nv,ce,bv,ev,bs,es,rfl,h1,h2,h3,h4,k2,k3,k4,q1.mono fun _ _ h=>h.le _ (Nat.le_max_left _ _),q2.mono fun _ _ h=>h.le _ (Nat.le_max_right _ _)⟩
def SV (w:World)(L:Nat)(c:List Value):Prop:=(∃ c0,w.heap[L]? =some (.cells c0 164 (0,0))∧c0.size=10)∧w.rangeAt L 0 c∧c.length=10
section
variable {w w':World} {L:Nat} {c:List Value}
theorem SV.lt (h:SV w L c):L<w.heap.size:=by
 obtain⟨⟨c0,h,_⟩,_⟩:=h
 exact(Array.getElem?_eq_some_iff.1 h).1
theorem SV.keep (h:SV w L c)(hk:w'.heap[L]? =w.heap[L]?):SV w' L c:=by
 obtain⟨⟨c0,h1,h2⟩,h3,h4⟩:=h
 refine⟨⟨c0,hk.trans h1,h2⟩,fun j v hv=>?_,h4⟩
 rw[←h3 j v hv]
 simp[World.cell?,hk]
theorem SV.fz (h:SV w L c)(i:Nat):w.frozen? ⟨L,i,none⟩=false:=by
 obtain⟨⟨c0,h1,_⟩,_⟩:=h
 exact Lib.frozen_of_heap h1 i
theorem SV.there (h:SV w L c):w.there L 0 10:=by
 obtain⟨⟨c0,h1,h2⟩,_⟩:=h
 rw[←h2]
 exact there_of h1
theorem SV.at_ (h:SV w L c)(i:Nat){v:Value}(hv:c[i]? =some v):w.cell? ⟨L,i,none⟩=some v:=by
 have:=h.2.1 i v hv
 rwa [Nat.zero_add]at this
theorem SV.set (h:SV w L c)(i:Nat)(v:Value):SV (w.setCell ⟨L,i,none⟩ v) L (c.set i v):=by
 have h0:=h
 obtain⟨⟨c0,h1,h2⟩,h3,h4⟩:=h
 have hb:(w.setCell ⟨L,i,none⟩ v).heap[L]? =some (.cells (c0.setIfInBounds i v) 164 (0,0)):=Go.Joins.block_setCell h1 v
 refine⟨⟨_,hb,by simpa using h2⟩,fun j u hu=>?_,by simpa using h4⟩
 rw[Nat.zero_add,Lib.cell_of_heap hb]
 by_cases hij:i=j
 ·subst hij
  have hi:i<c.length:=by
   have:=(List.getElem?_eq_some_iff.1 hu).1
   simpa using this
  have hu2:u=v:=by
   rw[List.getElem?_set_self hi]at hu
   exact(Option.some.inj hu).symm
  rw[hu2,Array.getElem?_setIfInBounds_self_of_lt (by omega)]
 ·rw[List.getElem?_set_ne hij]at hu
  have:=h0.at_ j hu
  rw[Lib.cell_of_heap h1]at this
  rw[Array.getElem?_setIfInBounds_ne hij]
  exact this
theorem SV.sets {L:Nat}:∀ (vs:List Value) (o:Nat) {w:World} {c:List Value},SV w L c→SV (w.setCells L o vs) L (vs.foldl (fun(q:List Value×Nat) v=>(q.1.set q.2 v,q.2+1)) (c,o)).1
 |[],_,_,_,h=>h
 |v::vs,o,_,_,h=>SV.sets vs (o+1) (h.set o v)
theorem SV.new (w:World){c:List Value}(hl:c.length=10):SV (w.alloc (.cells c.toArray 164)) w.heap.size c:=by
 have hb:(w.alloc (.cells c.toArray 164)).heap[w.heap.size]? =some (.cells c.toArray 164 (0,0)):=heap_alloc_new w _
 refine⟨⟨_,hb,by simpa using hl⟩,fun j v hv=>?_,hl⟩
 rw[Nat.zero_add,Lib.cell_of_heap hb]
 simpa using hv
end
theorem KP.setIn {P L:Nat}{a b:World}(h:KP P a b)(hL:a.heap.size≤L)(i:Nat)(v:Value):KP P a (b.setCell ⟨L,i,none⟩ v):=
 ⟨h.os,h.tape,h.output,by rw[size_set];exact h.size,fun g hg hp=>(Below.heap_setCell b ⟨L,i,none⟩ v g (by show ¬g=L;omega)).trans (h.blk g hg hp)⟩
theorem infSt:(Tryz.prog.info? 164).map (fun i=>(i.zero,i.size,i.bytes))=some (some (.agg #[.int .i64 0,.string ⟨#[]⟩,.slice none 0 0,.int .i64 0,.int .i64 0,.string ⟨#[]⟩,.slice none 0 0,.slice none 0 0,.slice none 0 0,.slice none 0 0]),10,176):=by kernel_rfl
structure RwS (n:Nat)(w:World)(l:List Sm)(v:Value)(vs:List (List Value)):Prop where
 row:w.ownsRow n 164 10 v l.length vs.flatten
 fa:Fa (SmA w (fun g=>n≤g∧v.ownBlock≠some g)) l vs
theorem RwS.keep {n:Nat}{w w':World}{l:List Sm}{v:Value}{vs:List (List Value)}(h:RwS n w l v vs)(hk:∀ g,n≤g→g<w.heap.size→w'.heap[g]? =w.heap[g]?):RwS n w' l v vs:=
 ⟨own_heap h.row fun g hg=>hk g (h.row.lt g hg).1 (h.row.lt g hg).2,h.fa.mono fun _ _ f=>f.keep (fun g hg hg2=>hk g hg.1 hg2) (fun _ hg _=>hg)⟩
theorem RwS.push {n:Nat}{X w2:World}{l:List Sm}{v:Value}{vs:List (List Value)}(h:RwS n X l v vs){y:Sm}{cy:List Value}(hy:SmA X (fun g=>n≤g∧v.ownBlock≠some g) y cy)
  {g' cap':Nat} (hgrow:X.grownBy w2 v.ownBlock) (hat:v.ownBlock=some g'∨g'=X.heap.size) (hrow:w2.ownsRow n 164 10 (.slice (some ⟨g',0,none⟩) (l.length+1) cap') (l.length+1) (vs.flatten++cy)):
  RwS n w2 (l++[y]) (.slice (some ⟨g',0,none⟩) (l.length+1) cap') (vs++[cy]):=by
 have hgo:∀ g,g<X.heap.size→v.ownBlock≠some g→g≠g':=fun g h1 h2 e=>by
  rcases hat with h3|h3
  ·exact h2 (by rw[h3,e])
  ·omega
 have hS:∀ (x:Sm) (c:List Value),SmA X (fun g=>n≤g∧v.ownBlock≠some g) x c→SmA w2 (fun g=>n≤g∧(Value.slice (some ⟨g',0,none⟩) (l.length+1) cap').ownBlock≠some g) x c:=fun x c hx=>hx.keep (fun g hg hg2=>hgrow.block g hg2 fun e=>hg.2 e.symm) (fun g hg hg2=>⟨hg.1,fun e=>by
  have e2:g'=g:=by simpa[Value.ownBlock]using e
  exact hgo g hg2 hg.2 e2.symm⟩)
 exact⟨by simpa using hrow,(h.fa.mono fun _ _ f=>hS _ _ f).snoc (hS _ _ hy)⟩
theorem KP.trans' {P:Nat}{a b c:World}(h:KP P a b){row:Option Nat}(k:b.grownBy c row)(hr:∀ g,g<a.heap.size→some g≠row):KP P a c:=⟨k.os.trans h.os,k.tape.trans h.tape,k.output.trans h.output,Nat.le_trans h.size k.size,fun g hg hp=>(k.block g (Nat.lt_of_lt_of_le hg h.size) (hr g hg)).trans (h.blk g hg hp)⟩
def VL (n:Nat)(w:World)(l:List Sm)(v:Value):Prop:=∃ vs,RwS n w l v vs
end Go.Proofs.YthfgpkdbclogpaaGreatDoor
