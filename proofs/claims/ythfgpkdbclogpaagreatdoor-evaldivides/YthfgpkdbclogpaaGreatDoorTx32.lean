/- 32. -/
import Derived.Test.YthfgpkdbclogpaaGreatDoorTx31
set_option maxHeartbeats 40000000
set_option maxRecDepth 100000
namespace Go.Proofs.YthfgpkdbclogpaaGreatDoor
open Go.RowKit Go.Shelf
attribute [local go_sem ↓] fld0 fld1 fld2 fld3
attribute [local go_sem] mk_func
theorem KP.transF {P Lb:Nat}{a b c:World}(h:KP P a b)(f:FrL P b.heap.size Lb b c)(hL:a.heap.size≤Lb):KP P a c:=⟨f.os.trans h.os,f.tape.trans h.tape,f.output.trans h.output,Nat.le_trans h.size f.size,fun g hg hp=>(f.blk g (Nat.lt_of_lt_of_le hg h.size) hp (by omega)).trans (h.blk g hg hp)⟩
structure DQ (P:Nat)(W w:World):Prop where
 kp:KP P W w
 r:w.heap[W.heap.size+1]? =some sz
 b:w.heap[W.heap.size]? =some (.cells #[pt P] 224 (0,0))
theorem DQ.up {P:Nat}{W w w':World}(h:DQ P W w)(k:KP P w w')(hP:P<W.heap.size):DQ P W w':=⟨h.kp.trans k,k.heapEq h.r (by omega),k.heapEq h.b (by omega)⟩
theorem DQ.box {P:Nat}{W w:World}(h:DQ P W w):w.cell? ⟨W.heap.size,0,none⟩=some (pt P):=by rw[Lib.cell_of_heap h.b];rfl
theorem DQ.lt {P:Nat}{W w:World}(h:DQ P W w):W.heap.size+1<w.heap.size:=(Array.getElem?_eq_some_iff.1 h.r).1
theorem DQ.put {P L:Nat}{W w:World}(h:DQ P W w)(hL:W.heap.size+1<L)(i:Nat)(v:Value):DQ P W (w.setCell ⟨L,i,none⟩ v):=
 ⟨h.kp.setIn (by omega) i v,(Below.heap_setCell _ ⟨L,i,none⟩ _ _ (by show ¬_=L;omega)).trans h.r,(Below.heap_setCell _ ⟨L,i,none⟩ _ _ (by show ¬_=L;omega)).trans h.b⟩
theorem DQ.fr {P Lb:Nat}{W w w':World}(h:DQ P W w)(f:FrL P w.heap.size Lb w w')(hL:W.heap.size+1<Lb)(hP:P<W.heap.size):DQ P W w':=by
 have hl:=h.lt
 exact⟨h.kp.transF f (by omega),(f.blk _ (by omega) (by omega) (by omega)).trans h.r,(f.blk _ (by omega) (by omega) (by omega)).trans h.b⟩
theorem DQ.own {P:Nat}{W w:World}(h:DQ P W w)(hP:P<W.heap.size)(i:Nat)(v:Value):DQ P W (w.setCell ⟨P,i,none⟩ v):=h.up ((KP.refl P w).setCell i v) hP
theorem definition_any {P T:Nat}{B:Ps→Px (List Sm)}(hB:MethB P T 248 B):MethS P T 218 (defS B):=by
 intro W p z h hr hz
 have hPl:=h.lt
 have hTl:=h.ltT
 have s1:(W.alloc (.cells #[pt P] 224)).heap.size=W.heap.size+1:=World.size_alloc _ _
 have h0:PsA P T ((W.alloc (.cells #[pt P] 224)).alloc sz) p:=(h.up (alB W (.cells #[pt P] 224))).up (alB _ sz)
 have hk0:KP P W ((W.alloc (.cells #[pt P] 224)).alloc sz):=(KP.al P W (.cells #[pt P] 224)).trans (KP.al P _ sz)
 have hr0:((W.alloc (.cells #[pt P] 224)).alloc sz).heap[W.heap.size+1]? =some sz:=by
  have:=heap_alloc_new (W.alloc (.cells #[pt P] 224)) sz
  rwa [s1]at this
 have hx0:((W.alloc (.cells #[pt P] 224)).alloc sz).heap[W.heap.size]? =some (.cells #[pt P] 224 (0,0)):=(heap_al _ _ _ (by omega)).trans (heap_alloc_new W _)
 have hbx:((W.alloc (.cells #[pt P] 224)).alloc sz).cell? ⟨W.heap.size,0,none⟩=some (pt P):=by rw[Lib.cell_of_heap hx0];rfl
 have HB:Hid (MethB P T 248 B):=hB
 have HEr:Hid (∀ W',KP P W W'→ErrR W'):=fun W' hk=>hr.kp (hr.ne h) hk
 clear h hB hr s1
 have HV0:Hid (PsA P T ((W.alloc (.cells #[pt P] 224)).alloc sz).drew p):=h0.drewN 1
 obtain⟨V,hV⟩:∃ V,V=((W.alloc (.cells #[pt P] 224)).alloc sz).drew:=⟨_,rfl⟩
 have hVb:V.cell? ⟨W.heap.size,0,none⟩=some (pt P):=by rw[hV];exact hbx
 have hVd:V.cell? ⟨P,2,none⟩=some (.int .i64 p.blk):=by rw[hV];exact h0.d2
 have hVp:PsA P T V p:=by rw[hV];exact HV0.out
 have hVk:KP P W V:=by rw[hV];exact hk0.drew
 have hVr:V.heap[W.heap.size+1]? =some sz:=by rw[hV];exact hr0
 have hVx:V.heap[W.heap.size]? =some (.cells #[pt P] 224 (0,0)):=by rw[hV];exact hx0
 clear HV0 h0 hk0 hr0 hx0 hbx
 have HV:Hid (V=((W.alloc (.cells #[pt P] 224)).alloc sz).drew):=hV
 have HQ:Hid (PsA P T V p∧DQ P W V):=⟨hVp,hVk,hVr,hVx⟩
 have HG:=giveUpIf_any hVp (decide (0<p.blk)) 4
 clear hVp hVk hVr hVx
 have hbl:(0:Int)<(p.blk:Int)↔0<p.blk:=by omega
 go_enter Tryz.func218,Tryz.ntmps218
 go_wp2_with fail
 refine wp_region_still_tail 6 (by kernel_rfl) (by kernel_rfl) ?_
 simp only[List.take_succ_cons,List.take_zero,List.drop_succ_cons,List.drop_zero]
 change wpStill _ _ ((W.alloc (.cells #[pt P] 224)).alloc sz).drew (fun a'=>wpList _ _ _ _ a' ((W.alloc (.cells #[pt P] 224)).alloc sz).drew) _ _
 rw[←hV]
 clear hV
 repeat still_step
 refine wpStill_nil ?_
 cases hd:decide (0<p.blk)with
 |true=>
  rw[hd]at HG
  unfold defS guIf at hz
  simp only[hd,cond_true]at hz
  cases hz
  go_wp2_with fail
  refine HG.mono ?_
  rintro e1 w1 ⟨he,hb1⟩
  simp only[cond_true]at he
  subst he
  exact⟨rfl,rfl,HQ.out.2.kp.trans (KP.of_below hb1)⟩
 |false=>
 rw[hd]at HG
 unfold defS guIf at hz
 simp only[hd,cond_false]at hz
 replace hz:(bnd (tkS [100,101,102] p) fun _ p=>bnd (tkK 1 p) fun t p=>bnd (tkS [40] p) fun _ p=>bnd (lst [41] nmE [] p) fun l p=>bnd (B (p.din true)) fun b p=>ok ⟨6,t.text,l,⟨0,0,[],[],[]⟩,b,[]⟩ (p.din false))=some z:=hz
 go_wp2_with fail
 refine HG.mono ?_
 rintro e1 w1 ⟨he,hb1⟩
 simp only[cond_false]at he
 subst he
 have h1:=HQ.out.1.up hb1
 have HD1:Hid (DQ P W w1):=HQ.out.2.up (KP.of_below hb1) hPl
 have x1:=HD1.out.box
 clear hb1 HG HQ hd hbl HV hVb hVd
 rcases bnd_some hz with⟨x,hx,rfl⟩|⟨_,p2,hx,hz2⟩
 ·have HT:=takeSign_any h1 [100,101,102] hx
  go_wp2_with fail
  refine HT.mono ?_
  rintro eX wX hpo
  obtain⟨rfl,hkX⟩:=bad_panic hpo HD1.out.kp
  exact⟨rfl,rfl,hkX⟩
 have HT:=takeSign_any h1 [100,101,102] hx
 go_wp2_with fail
 refine HT.mono ?_
 rintro e2 w2 ⟨v2,rfl,rfl,h2,hj2⟩
 have HD2:Hid (DQ P W w2):=HD1.out.up hj2 hPl
 have x2:=HD2.out.box
 clear HT hz hx hj2 h1 HD1 x1
 rcases bnd_some hz2 with⟨x,hx,rfl⟩|⟨t,p3,hx,hz3⟩
 ·have HT:=take2_any h2 1 (by decide) hx
  go_wp2_with fail
  refine HT.mono ?_
  rintro eX wX hpo
  obtain⟨rfl,hkX⟩:=bad_panic hpo HD2.out.kp
  exact⟨rfl,rfl,hkX⟩
 have HT:=take2_any h2 1 (by decide) hx
 go_wp2_with fail
 refine HT.mono ?_
 rintro e3 w3 ⟨v3,rfl,rfl,h3,hj3⟩
 have HD3:DQ P W w3:=HD2.out.up hj3 hPl
 have hl3:=HD3.lt
 have sv4:SV (w3.alloc (.cells #[.int .i64 6,.string (mkB t.text),.slice none 0 0,.int .i64 0,.int .i64 0,.string ⟨#[]⟩,.slice none 0 0,.slice none 0 0,.slice none 0 0,.slice none 0 0] 164)) w3.heap.size [.int .i64 6,.string (mkB t.text),.slice none 0 0,.int .i64 0,.int .i64 0,.string ⟨#[]⟩,.slice none 0 0,.slice none 0 0,.slice none 0 0,.slice none 0 0]:=SV.new w3 rfl
 have h4:=h3.up (alB w3 (.cells #[.int .i64 6,.string (mkB t.text),.slice none 0 0,.int .i64 0,.int .i64 0,.string ⟨#[]⟩,.slice none 0 0,.slice none 0 0,.slice none 0 0,.slice none 0 0] 164))
 have HD4:Hid (DQ P W (w3.alloc (.cells #[.int .i64 6,.string (mkB t.text),.slice none 0 0,.int .i64 0,.int .i64 0,.string ⟨#[]⟩,.slice none 0 0,.slice none 0 0,.slice none 0 0,.slice none 0 0] 164))):=HD3.up (KP.al P w3 _) hPl
 have hs4:(w3.alloc (.cells #[.int .i64 6,.string (mkB t.text),.slice none 0 0,.int .i64 0,.int .i64 0,.string ⟨#[]⟩,.slice none 0 0,.slice none 0 0,.slice none 0 0,.slice none 0 0] 164)).heap.size=w3.heap.size+1:=World.size_alloc _ _
 obtain⟨w4,hw4⟩:∃ w4,w4=w3.alloc (.cells #[.int .i64 6,.string (mkB t.text),.slice none 0 0,.int .i64 0,.int .i64 0,.string ⟨#[]⟩,.slice none 0 0,.slice none 0 0,.slice none 0 0,.slice none 0 0] 164):=⟨_,rfl⟩
 rw[←hw4]at sv4 h4 HD4 hs4
 have HW4:Hid (w4=w3.alloc (.cells #[.int .i64 6,.string (mkB t.text),.slice none 0 0,.int .i64 0,.int .i64 0,.string ⟨#[]⟩,.slice none 0 0,.slice none 0 0,.slice none 0 0,.slice none 0 0] 164)):=hw4
 have x4:(w3.alloc (.cells #[.int .i64 6,.string (mkB t.text),.slice none 0 0,.int .i64 0,.int .i64 0,.string ⟨#[]⟩,.slice none 0 0,.slice none 0 0,.slice none 0 0,.slice none 0 0] 164)).cell? ⟨W.heap.size,0,none⟩=some (pt P):=by rw[←hw4];exact HD4.out.box
 clear hw4
 generalize hLb:w3.heap.size=Lb at *
 clear HT hz2 hx hj3 h2 HD2 x2 h3 HD3
 rcases bnd_some hz3 with⟨x,hx,rfl⟩|⟨_,p5,hx,hz5⟩
 ·have HT:=takeSign_any h4 [40] hx
  go_wp2_with fail
  rw[←HW4.out]
  refine HT.mono ?_
  rintro eX wX hpo
  obtain⟨rfl,hkX⟩:=bad_panic hpo HD4.out.kp
  exact⟨rfl,rfl,hkX⟩
 have HT:=takeSign_any h4 [40] hx
 go_wp2_with fail
 rw[←HW4.out]
 refine HT.mono ?_
 rintro e5 w5 ⟨v5,rfl,rfl,h5,hj5⟩
 have HD5:Hid (DQ P W w5):=HD4.out.up hj5 hPl
 have x5:=HD5.out.box
 have sv5:=sv4.keep (hj5.blk Lb sv4.lt (by omega))
 have hs5:=hj5.size
 have hJ:LDf P T w5.heap.size Lb t w5 w5 [] p5:=⟨h5,⟨rfl,rfl,rfl,Nat.le_refl _,fun _ _ _ _=>rfl⟩,.slice none 0 0,sv5,World.ownsRow_nil _ _ _ _,fun e=>by cases e⟩
 clear HT hz3 hx hj5 h4 HD4 x4 sv4 HW4
 have hjs:(∃ x,lst [41] nmE [] p5=some (.error x)∧z= .error x)∨∃ l p6,lst [41] nmE [] p5=some (.ok (l,p6))∧(bnd (B (p6.din true)) fun b p=>ok (⟨6,t.text,l,⟨0,0,[],[],[]⟩,b,[]⟩:Sm) (p.din false))=some z:=bnd_some hz5
 clear hz5
 rcases hjs with⟨x,hx,rfl⟩|⟨l,p6,hx,hz6⟩
 ·have HC:=listed_any (ldf_liv (by omega) (by omega)) (defE_any (b:=W.heap.size) (by omega) (by omega) (by omega) (by omega) (by omega) (by omega) (by omega) x5) [41] hJ hx
  go_wp2_with fail
  refine HC.mono ?_
  rintro e6 w6 hpo
  obtain⟨rfl,hn⟩:=bad_lpo hpo
  exact⟨rfl,rfl,HD5.out.kp.transF hn (by omega)⟩
 have HC:=listed_any (ldf_liv (by omega) (by omega)) (defE_any (b:=W.heap.size) (by omega) (by omega) (by omega) (by omega) (by omega) (by omega) (by omega) x5) [41] hJ hx
 go_wp2_with fail
 refine HC.mono ?_
 rintro e6 w6 ⟨rfl,hL6⟩
 have HD6:Hid (DQ P W w6):=HD5.out.fr hL6.fr (by omega) hPl
 have x6:=HD6.out.box
 have h6:=hL6.ps
 obtain⟨nv,sv6,nr6,nn6⟩:=hL6.nm
 have hs6:=hL6.fr.size
 have q3:w6.cell? ⟨P,3,none⟩=some (.bool p6.inD):=by
  obtain⟨_,_,_,_,_,cD,_⟩:=h6.cells
  exact cD
 have f3:=h6.fz 3
 have h7:PsA P T (w6.setCell ⟨P,3,none⟩ (.bool true)) (p6.din true):=h6.inTo true
 have HD7:Hid (DQ P W (w6.setCell ⟨P,3,none⟩ (.bool true))):=HD6.out.own hPl 3 _
 have x7:=HD7.out.box
 have hg7:∀ g,g≠P→(w6.setCell ⟨P,3,none⟩ (.bool true)).heap[g]? =w6.heap[g]? :=fun g hg=>Below.heap_setCell _ ⟨P,3,none⟩ _ g hg
 have HN7:Hid (SV (w6.setCell ⟨P,3,none⟩ (.bool true)) Lb [.int .i64 6,.string (mkB t.text),nv,.int .i64 0,.int .i64 0,.string ⟨#[]⟩,.slice none 0 0,.slice none 0 0,.slice none 0 0,.slice none 0 0]∧(w6.setCell ⟨P,3,none⟩ (.bool true)).ownsRow w5.heap.size 9 1 nv l.length (l.map sv)∧(w6.setCell ⟨P,3,none⟩ (.bool true)).heap.size=w6.heap.size):=⟨sv6.keep (hg7 _ (by omega)),own_heap nr6 fun g hg=>hg7 g (by have:=(nr6.lt g hg).1;omega),size_set _ _ _⟩
 obtain⟨w7,hw7⟩:∃ w7,w7=(w6.setCell ⟨P,3,none⟩ (.bool true)):=⟨_,rfl⟩
 rw[←hw7]at h7 HD7 x7 HN7
 have HW7:Hid (w7=(w6.setCell ⟨P,3,none⟩ (.bool true))):=hw7
 have x7':(w6.setCell ⟨P,3,none⟩ (.bool true)).cell? ⟨W.heap.size,0,none⟩=some (pt P):=by rw[←hw7];exact x7
 clear hw7 HC hx hJ x5 sv5 h5 hL6 sv6 nr6 h6 hg7 HD5 HD6
 rcases bnd_some hz6 with⟨x,hx,rfl⟩|⟨bl,p8,hx,hz8⟩
 ·have HT:=HB.out w7 _ _ h7 (HEr.out _ HD7.out.kp) hx
  go_wp2_with fail
  rw[←HW7.out]
  refine HT.mono ?_
  rintro eX wX hpo
  obtain⟨rfl,hkX⟩:=bad_panic hpo HD7.out.kp
  exact⟨rfl,rfl,hkX⟩
 have HT:=HB.out w7 _ _ h7 (HEr.out _ HD7.out.kp) hx
 cases hz8
 go_wp2_with fail
 rw[←HW7.out]
 refine HT.mono ?_
 rintro e8 w8 ⟨bv,rfl,hv8,h8,hj8⟩
 obtain⟨ba,bc,rfl⟩:=hv8.shape
 have hsz7:=HN7.out.2.2
 have hs8:=hj8.size
 have sv8:=HN7.out.1.keep (hj8.blk Lb (by omega) (by omega))
 have nr8:=own_heap HN7.out.2.1 (w':=w8) (fun g hg=>hj8.blk g (HN7.out.2.1.lt g hg).2 (by have:=(HN7.out.2.1.lt g hg).1;omega))
 have f8:=sv8.fz 8
 have c8:=sv8.at_ 8 rfl
 have sv9:=sv8.set 8 (.slice ba bl.length bc)
 simp only[List.set_cons_zero,List.set_cons_succ]at sv9
 have hg9:∀ g,g≠Lb→(w8.setCell ⟨Lb,8,none⟩ (.slice ba bl.length bc)).heap[g]? =w8.heap[g]? :=fun g hg=>Below.heap_setCell _ ⟨Lb,8,none⟩ _ g hg
 have h9:PsA P T (w8.setCell ⟨Lb,8,none⟩ (.slice ba bl.length bc)) p8:=h8.keep (hg9 P (by omega)) (hg9 T (by omega))
 have HD9:DQ P W (w8.setCell ⟨Lb,8,none⟩ (.slice ba bl.length bc)):=(HD7.out.up hj8 hPl).put (by omega) 8 _
 have x9:=HD9.box
 have q9:(w8.setCell ⟨Lb,8,none⟩ (.slice ba bl.length bc)).cell? ⟨P,3,none⟩=some (.bool p8.inD):=by
  obtain⟨_,_,_,_,_,cD,_⟩:=h9.cells
  exact cD
 have f9:=h9.fz 3
 have hgA:∀ g,g≠P→((w8.setCell ⟨Lb,8,none⟩ (.slice ba bl.length bc)).setCell ⟨P,3,none⟩ (.bool false)).heap[g]? =(w8.setCell ⟨Lb,8,none⟩ (.slice ba bl.length bc)).heap[g]? :=fun g hg=>Below.heap_setCell _ ⟨P,3,none⟩ _ g hg
 have hA:PsA P T ((w8.setCell ⟨Lb,8,none⟩ (.slice ba bl.length bc)).setCell ⟨P,3,none⟩ (.bool false)) (p8.din false):=h9.inTo false
 have HDA:DQ P W ((w8.setCell ⟨Lb,8,none⟩ (.slice ba bl.length bc)).setCell ⟨P,3,none⟩ (.bool false)):=HD9.own hPl 3 _
 have svA:SV ((w8.setCell ⟨Lb,8,none⟩ (.slice ba bl.length bc)).setCell ⟨P,3,none⟩ (.bool false)) Lb [.int .i64 6,.string (mkB t.text),nv,.int .i64 0,.int .i64 0,.string ⟨#[]⟩,.slice none 0 0,.slice none 0 0,.slice ba bl.length bc,.slice none 0 0]:=sv9.keep (hgA _ (by omega))
 have nrA:((w8.setCell ⟨Lb,8,none⟩ (.slice ba bl.length bc)).setCell ⟨P,3,none⟩ (.bool false)).ownsRow w5.heap.size 9 1 nv l.length (l.map sv):=own_heap nr8 fun g hg=>(hgA g (by have:=(nr8.lt g hg).1;omega)).trans (hg9 g (fun e=>nn6 (e▸hg)))
 have hvA:VL (W.heap.size+1+1) ((w8.setCell ⟨Lb,8,none⟩ (.slice ba bl.length bc)).setCell ⟨P,3,none⟩ (.bool false)) bl (.slice ba bl.length bc):=(hv8.up fun g hg _=>(hgA g (by omega)).trans (hg9 g (by omega))).le (by omega)
 have hsm:SmA ((w8.setCell ⟨Lb,8,none⟩ (.slice ba bl.length bc)).setCell ⟨P,3,none⟩ (.bool false)) (fun g=>W.heap.size+1≤g∧g≠W.heap.size+1) ⟨6,t.text,l,⟨0,0,[],[],[]⟩,bl,[]⟩ [.int .i64 6,.string (mkB t.text),nv,.int .i64 0,.int .i64 0,.string ⟨#[]⟩,.slice none 0 0,.slice none 0 0,.slice ba bl.length bc,.slice none 0 0]:=sm_of (R:=W.heap.size+1) (k:=6) (t:=t.text) (ns:=l) (ExA.leaf 0 0 []) (row_mono nrA (Nat.zero_le _)) (fun g hg=>by have:=(nrA.lt g hg).1;omega) hvA (VL.nil _ _)
 obtain⟨an,cn,rfl⟩:=row_shape nrA
 obtain⟨t2,i2,o2,l2,j2⟩:=fin10 HDA.r rfl hsm
 have HZ:Hid (PoA P T (VS W.heap.size) W _ (.returned (.agg ((([.int .i64 6,.string (mkB t.text),.slice an l.length cn,.int .i64 0,.int .i64 0,.string ⟨#[]⟩,.slice none 0 0,.slice none 0 0,.slice ba bl.length bc,.slice none 0 0]):List Value)).toArray)) (((w8.setCell ⟨Lb,8,none⟩ (.slice ba bl.length bc)).setCell ⟨P,3,none⟩ (.bool false)).setCells (W.heap.size+1) 0 ([.int .i64 6,.string (mkB t.text),.slice an l.length cn,.int .i64 0,.int .i64 0,.string ⟨#[]⟩,.slice none 0 0,.slice none 0 0,.slice ba bl.length bc,.slice none 0 0]))):=poS_fin (Nat.le_succ _) hsm (fun g hg=>⟨by omega,hg.2⟩) hA HDA.kp hPl hTl
 have HG:Hid _:=(⟨svA.2.1,j2,t2,i2,o2,l2⟩:_∧_∧_∧_∧_∧_)
 clear t2 i2 o2 l2 j2 hsm hvA nrA svA HDA hA hgA HD9 h9 hg9 sv9 nr8 sv8 hj8 h8 hv8 HT HN7 HD7 h7
 go_wp2_with (first
  |(refine wpList_load_mid rfl 164 (Operand.tmp 3) rfl Lb 0 rfl _ _ HG.out.1 Tryz.underlying164 rfl HG.out.2.1 ?_)
  |(refine wpList_store_mid rfl 164 (Operand.tmp 2) (Operand.tmp 31) rfl (W.heap.size+1) 0 _ rfl rfl HG.out.2.2.1 HG.out.2.2.2.1 HG.out.2.2.2.2.1 ?_)
  |fail)
 refine bodyPost_ret (v:= .agg _) (res_one Tryz.results218 _ _ rfl HG.out.2.2.2.2.2) rfl HZ.out
end Go.Proofs.YthfgpkdbclogpaaGreatDoor
namespace Go.Proofs.YthfgpkdbclogpaaGreatDoor
open Go.RowKit Go.Shelf
theorem isName_any (L:List UInt8)(w:World)(hr:ErrR w):
  Calls Tryz.prog 290 #[.string (mkB L)] w fun e w'=>e= .returned (.bool (isNmL L))∧Below w.heap.size w w':=by
 have HS:=Split_any L w hr
 clear hr
 unfold isNmL
 match hs:splitA L with
 | .error (k,z)=>
  rw[hs]at HS
  clear hs
  go_enter Tryz.func290,Tryz.ntmps290
  go_wp2_with fail
  refine HS.mono ?_
  rintro e w1 ⟨hbad,_,hb1⟩
  obtain rfl:=hbad k z rfl
  have hb2:Below w.heap.size w (w1.alloc (.cells #[.int .i64 k,.int .i64 z] 110)):=hb1.alloc hb1.size _
  clear hbad hb1 HS
  go_wp2
  go_ret
  exact⟨rfl,hb2⟩
 | .ok []=>
  rw[hs]at HS
  clear hs
  go_enter Tryz.func290,Tryz.ntmps290
  go_wp2_with fail
  refine HS.mono ?_
  rintro e w1 ⟨_,hok,hb1⟩
  obtain⟨tv,rfl,hown⟩:=hok [] rfl
  obtain⟨ao,cp,rfl⟩:=row_shape hown
  have hb2:Below w.heap.size w (w1.alloc (.cells #[.int .i64 0,.int .i64 0] 110)):=hb1.alloc hb1.size _
  clear hok hb1 HS hown
  go_wp2
  go_ret
  exact⟨rfl,hb2⟩
 | .ok (t::r)=>
  rw[hs]at HS
  clear hs
  have hq:(((t.kind:Nat):Int)==(1:Int))=(t.kind==1):=by rw[Bool.eq_iff_iff];simp;omega
  have hq2:((mkB t.text).toList==(mkB L).toList)=(t.text==L):=by rw[mk_toList,mk_toList]
  go_enter Tryz.func290,Tryz.ntmps290
  go_wp2_with fail
  refine HS.mono ?_
  rintro e w1 ⟨_,hok,hb1⟩
  obtain⟨tv,rfl,hown⟩:=hok (t::r) rfl
  have hb2:Below w.heap.size w (w1.alloc (.cells #[.int .i64 0,.int .i64 0] 110)):=hb1.alloc hb1.size _
  have hownX:(w1.alloc (.cells #[.int .i64 0,.int .i64 0] 110)).ownsRow w.heap.size 255 4 tv (t::r).length (tcs (t::r)):=own_heap hown (fun g hg=>heap_al w1 _ g (hown.lt g hg).2)
  rcases hownX.2 with⟨rfl,h0⟩|⟨g,cap,cur,rfl,hB,hg,h1,h2,h3,h4⟩
  ·simp at h0
  obtain⟨d0,d1,d2,d3⟩:=tcs_at t r
  have hcell:∀ j,j<4→∀ v,(tcs (t::r))[j]? =some v→(w1.alloc (.cells #[.int .i64 0,.int .i64 0] 110)).cell? ⟨g,j,none⟩=some v:=fun j hj v hv=>by
   rw[Lib.cell_of_heap hg]
   have e1:(cur.toList.take ((t::r).length*4))[j]? =(tcs (t::r))[j]? :=by rw[h4]
   rw[List.getElem?_take,if_pos (by simp;omega),hv]at e1
   rw[←Array.getElem?_toList]
   exact e1
  have c0:=hcell 0 (by omega) _ d0
  have c1:=hcell 1 (by omega) _ d1
  have hlen:(0:Int)<((t::r).length:Int):=by simp
  clear hok hb1 HS hown hownX hcell hB hg h1 h2 h3 h4 d0 d1 d2 d3
  generalize(t::r).length=n at *
  cases hk:t.kind==1 with
  |false=>
   rw[hk]at hq
   have hne:¬((t.kind:Nat):Int)=1:=by simpa using hq
   go_wp2
   go_ret
   exact⟨by show Ending.returned (.bool false)= .returned (.bool (t.kind==1&&t.text==L));rw[hk,Bool.false_and],hb2⟩
  |true=>
   rw[hk]at hq
   have heq:((t.kind:Nat):Int)=1:=by simpa using hq
   rw[heq]at c0
   go_wp2
   go_ret
   exact⟨by show Ending.returned (.bool (t.text==L))= .returned (.bool (t.kind==1&&t.text==L));rw[hk,Bool.true_and],hb2⟩
end Go.Proofs.YthfgpkdbclogpaaGreatDoor
