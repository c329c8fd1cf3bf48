/- 24. -/
import Derived.Test.YthfgpkdbclogpaaGreatDoorTx23
set_option maxHeartbeats 40000000
set_option maxRecDepth 100000
namespace Go.Proofs.YthfgpkdbclogpaaGreatDoor
open Go.RowKit Go.Shelf
attribute [local go_sem ↓] fld0 fld1 fld2 fld3
def MethC (P T Y:Nat)(m:Ps→Px Ex):Prop:=∀ W p z,PsA P T W p→m p=some z→Calls Tryz.prog Y #[pt P] W (PoA P T (VE W.heap.size) W z)
def BoxA (P b:Nat)(w:World):Prop:=b≠P∧w.cell? ⟨b,0,none⟩=some (pt P)
theorem BoxA.keep {P b:Nat}{w w':World}(h:BoxA P b w)(hk:KP P w w'):BoxA P b w':=by
 have hl:b<w.heap.size:=World.block_lt_of_cell? w ⟨b,0,none⟩ h.2
 refine⟨h.1,?_⟩
 rw[←h.2]
 simp[World.cell?,hk.blk b hl h.1]
theorem KP.al (P:Nat)(w:World)(o:Obj):KP P w (w.alloc o):=KP.of_below (alB w o)
theorem BoxA.new {P:Nat}{w:World}(hP:P<w.heap.size):BoxA P w.heap.size (w.alloc (.cells #[pt P] 224)):=by
 refine⟨by omega,?_⟩
 rw[Lib.cell_of_heap (heap_alloc_new w _)]
 rfl
theorem mk_func (fn:Fn)(first cap:Array Value)(w:World):(Instr.makeFunc fn first cap).run Tryz.prog w= .ok (.func fn first cap) w:=rfl
attribute [local go_sem] mk_func
theorem exC_any {P T:Nat}{m:Ps→Px Ex}(hY:MethC P T 288 m){b:Nat}{w:World}(hb:BoxA P b w):PartC P T 287 #[pt b] w m:=by
 refine⟨enters_of Tryz.func287 (by kernel_rfl) rfl,fun W p z hk h hz=>?_⟩
 have hPl:=h.lt
 have hTl:=h.ltT
 have hW:=h.up (alB W ez)
 have hk0:=KP.al P W ez
 have cb:=((hb.keep hk).keep hk0).2
 have hr0:=heap_alloc_new W ez
 have HC:=hY (W.alloc ez) p z hW hz
 rw[World.size_alloc]at HC
 clear hb hk h hY hz
 go_enter Tryz.func287,Tryz.ntmps287
 go_wp2_with fail
 refine HC.mono ?_
 rintro e w1 hpo
 cases z with
 |error x=>
  obtain⟨rfl,hk1⟩:=bad_panic hpo hk0
  exact⟨rfl,rfl,hk1⟩
 |ok r=>
  obtain⟨x,q⟩:=r
  obtain⟨v,rfl,⟨c,rfl,hx1⟩,hp1,hk1⟩:=hpo
  have hr1:=(hk1.blk _ (Array.getElem?_eq_some_iff.1 hr0).1 (by omega)).trans hr0
  obtain⟨t2,i2,o2,l2,j2⟩:=fin5 hr1 rfl hx1
  have HE:Hid (PoA P T (VE W.heap.size) W (.ok (x,q)) (.returned (.agg c.toArray)) (w1.setCells (W.heap.size) 0 c)):=poE_fin (by omega) (by omega) hx1 hp1 (hk0.trans hk1) hPl hTl
  have HF:Hid (w1.there (W.heap.size) 0 c.toArray.size∧(Tryz.prog.info? 162).map (·.size)=some c.toArray.size∧c.toArray.all (·.oneCell')=true∧(loadVar 162 ⟨W.heap.size,0,none⟩).run Tryz.prog (w1.setCells (W.heap.size) 0 c)= .ok (.agg c.toArray) (w1.setCells (W.heap.size) 0 c)):=⟨t2,i2,o2,l2⟩
  clear t2 i2 o2 l2 j2 hx1 hp1 hk1 hr1 hk0 hr0 HC hW
  go_wp2_with (first
   |(refine wpList_store_mid rfl 162 (Operand.tmp 1) (Operand.tmp 3) rfl (W.heap.size) 0 c.toArray rfl rfl HF.out.1 HF.out.2.1 HF.out.2.2.1 ?_)
   |fail)
  refine bodyPost_ret (v:= .agg c.toArray) (res_one Tryz.results287 _ _ rfl HF.out.2.2.2) rfl HE.out
theorem ngC_any {P T:Nat}{m:Ps→Px Ex}(hY:MethC P T 288 m){b:Nat}{w:World}(hb:BoxA P b w):PartC P T 303 #[pt b] w m:=by
 refine⟨enters_of Tryz.func303 (by kernel_rfl) rfl,fun W p z hk h hz=>?_⟩
 have hPl:=h.lt
 have hTl:=h.ltT
 have hW:=h.up (alB W ez)
 have hk0:=KP.al P W ez
 have cb:=((hb.keep hk).keep hk0).2
 have hr0:=heap_alloc_new W ez
 have HC:=hY (W.alloc ez) p z hW hz
 rw[World.size_alloc]at HC
 clear hb hk h hY hz
 go_enter Tryz.func303,Tryz.ntmps303
 go_wp2_with fail
 refine HC.mono ?_
 rintro e w1 hpo
 cases z with
 |error x=>
  obtain⟨rfl,hk1⟩:=bad_panic hpo hk0
  exact⟨rfl,rfl,hk1⟩
 |ok r=>
  obtain⟨x,q⟩:=r
  obtain⟨v,rfl,⟨c,rfl,hx1⟩,hp1,hk1⟩:=hpo
  have hr1:=(hk1.blk _ (Array.getElem?_eq_some_iff.1 hr0).1 (by omega)).trans hr0
  obtain⟨t2,i2,o2,l2,j2⟩:=fin5 hr1 rfl hx1
  have HE:Hid (PoA P T (VE W.heap.size) W (.ok (x,q)) (.returned (.agg c.toArray)) (w1.setCells (W.heap.size) 0 c)):=poE_fin (by omega) (by omega) hx1 hp1 (hk0.trans hk1) hPl hTl
  have HF:Hid (w1.there (W.heap.size) 0 c.toArray.size∧(Tryz.prog.info? 162).map (·.size)=some c.toArray.size∧c.toArray.all (·.oneCell')=true∧(loadVar 162 ⟨W.heap.size,0,none⟩).run Tryz.prog (w1.setCells (W.heap.size) 0 c)= .ok (.agg c.toArray) (w1.setCells (W.heap.size) 0 c)):=⟨t2,i2,o2,l2⟩
  clear t2 i2 o2 l2 j2 hx1 hp1 hk1 hr1 hk0 hr0 HC hW
  go_wp2_with (first
   |(refine wpList_store_mid rfl 162 (Operand.tmp 1) (Operand.tmp 3) rfl (W.heap.size) 0 c.toArray rfl rfl HF.out.1 HF.out.2.1 HF.out.2.2.1 ?_)
   |fail)
  refine bodyPost_ret (v:= .agg c.toArray) (res_one Tryz.results303 _ _ rfl HF.out.2.2.2) rfl HE.out
theorem cmC_any {P T:Nat}{m:Ps→Px Ex}(hY:MethC P T 309 m){b:Nat}{w:World}(hb:BoxA P b w):PartC P T 310 #[pt b] w m:=by
 refine⟨enters_of Tryz.func310 (by kernel_rfl) rfl,fun W p z hk h hz=>?_⟩
 have hPl:=h.lt
 have hTl:=h.ltT
 have hW:=h.up (alB W ez)
 have hk0:=KP.al P W ez
 have cb:=((hb.keep hk).keep hk0).2
 have hr0:=heap_alloc_new W ez
 have HC:=hY (W.alloc ez) p z hW hz
 rw[World.size_alloc]at HC
 clear hb hk h hY hz
 go_enter Tryz.func310,Tryz.ntmps310
 go_wp2_with fail
 refine HC.mono ?_
 rintro e w1 hpo
 cases z with
 |error x=>
  obtain⟨rfl,hk1⟩:=bad_panic hpo hk0
  exact⟨rfl,rfl,hk1⟩
 |ok r=>
  obtain⟨x,q⟩:=r
  obtain⟨v,rfl,⟨c,rfl,hx1⟩,hp1,hk1⟩:=hpo
  have hr1:=(hk1.blk _ (Array.getElem?_eq_some_iff.1 hr0).1 (by omega)).trans hr0
  obtain⟨t2,i2,o2,l2,j2⟩:=fin5 hr1 rfl hx1
  have HE:Hid (PoA P T (VE W.heap.size) W (.ok (x,q)) (.returned (.agg c.toArray)) (w1.setCells (W.heap.size) 0 c)):=poE_fin (by omega) (by omega) hx1 hp1 (hk0.trans hk1) hPl hTl
  have HF:Hid (w1.there (W.heap.size) 0 c.toArray.size∧(Tryz.prog.info? 162).map (·.size)=some c.toArray.size∧c.toArray.all (·.oneCell')=true∧(loadVar 162 ⟨W.heap.size,0,none⟩).run Tryz.prog (w1.setCells (W.heap.size) 0 c)= .ok (.agg c.toArray) (w1.setCells (W.heap.size) 0 c)):=⟨t2,i2,o2,l2⟩
  clear t2 i2 o2 l2 j2 hx1 hp1 hk1 hr1 hk0 hr0 HC hW
  go_wp2_with (first
   |(refine wpList_store_mid rfl 162 (Operand.tmp 1) (Operand.tmp 3) rfl (W.heap.size) 0 c.toArray rfl rfl HF.out.1 HF.out.2.1 HF.out.2.2.1 ?_)
   |fail)
  refine bodyPost_ret (v:= .agg c.toArray) (res_one Tryz.results310 _ _ rfl HF.out.2.2.2) rfl HE.out
theorem smC_any {P T:Nat}{m:Ps→Px Ex}(hY:MethC P T 315 m){b:Nat}{w:World}(hb:BoxA P b w):PartC P T 314 #[pt b] w m:=by
 refine⟨enters_of Tryz.func314 (by kernel_rfl) rfl,fun W p z hk h hz=>?_⟩
 have hPl:=h.lt
 have hTl:=h.ltT
 have hW:=h.up (alB W ez)
 have hk0:=KP.al P W ez
 have cb:=((hb.keep hk).keep hk0).2
 have hr0:=heap_alloc_new W ez
 have HC:=hY (W.alloc ez) p z hW hz
 rw[World.size_alloc]at HC
 clear hb hk h hY hz
 go_enter Tryz.func314,Tryz.ntmps314
 go_wp2_with fail
 refine HC.mono ?_
 rintro e w1 hpo
 cases z with
 |error x=>
  obtain⟨rfl,hk1⟩:=bad_panic hpo hk0
  exact⟨rfl,rfl,hk1⟩
 |ok r=>
  obtain⟨x,q⟩:=r
  obtain⟨v,rfl,⟨c,rfl,hx1⟩,hp1,hk1⟩:=hpo
  have hr1:=(hk1.blk _ (Array.getElem?_eq_some_iff.1 hr0).1 (by omega)).trans hr0
  obtain⟨t2,i2,o2,l2,j2⟩:=fin5 hr1 rfl hx1
  have HE:Hid (PoA P T (VE W.heap.size) W (.ok (x,q)) (.returned (.agg c.toArray)) (w1.setCells (W.heap.size) 0 c)):=poE_fin (by omega) (by omega) hx1 hp1 (hk0.trans hk1) hPl hTl
  have HF:Hid (w1.there (W.heap.size) 0 c.toArray.size∧(Tryz.prog.info? 162).map (·.size)=some c.toArray.size∧c.toArray.all (·.oneCell')=true∧(loadVar 162 ⟨W.heap.size,0,none⟩).run Tryz.prog (w1.setCells (W.heap.size) 0 c)= .ok (.agg c.toArray) (w1.setCells (W.heap.size) 0 c)):=⟨t2,i2,o2,l2⟩
  clear t2 i2 o2 l2 j2 hx1 hp1 hk1 hr1 hk0 hr0 HC hW
  go_wp2_with (first
   |(refine wpList_store_mid rfl 162 (Operand.tmp 1) (Operand.tmp 3) rfl (W.heap.size) 0 c.toArray rfl rfl HF.out.1 HF.out.2.1 HF.out.2.2.1 ?_)
   |fail)
  refine bodyPost_ret (v:= .agg c.toArray) (res_one Tryz.results314 _ _ rfl HF.out.2.2.2) rfl HE.out
theorem unC_any {P T:Nat}{m:Ps→Px Ex}(hY:MethC P T 315 m){b:Nat}{w:World}(hb:BoxA P b w):PartC P T 319 #[pt b] w m:=by
 refine⟨enters_of Tryz.func319 (by kernel_rfl) rfl,fun W p z hk h hz=>?_⟩
 have hPl:=h.lt
 have hTl:=h.ltT
 have hW:=h.up (alB W ez)
 have hk0:=KP.al P W ez
 have cb:=((hb.keep hk).keep hk0).2
 have hr0:=heap_alloc_new W ez
 have HC:=hY (W.alloc ez) p z hW hz
 rw[World.size_alloc]at HC
 clear hb hk h hY hz
 go_enter Tryz.func319,Tryz.ntmps319
 go_wp2_with fail
 refine HC.mono ?_
 rintro e w1 hpo
 cases z with
 |error x=>
  obtain⟨rfl,hk1⟩:=bad_panic hpo hk0
  exact⟨rfl,rfl,hk1⟩
 |ok r=>
  obtain⟨x,q⟩:=r
  obtain⟨v,rfl,⟨c,rfl,hx1⟩,hp1,hk1⟩:=hpo
  have hr1:=(hk1.blk _ (Array.getElem?_eq_some_iff.1 hr0).1 (by omega)).trans hr0
  obtain⟨t2,i2,o2,l2,j2⟩:=fin5 hr1 rfl hx1
  have HE:Hid (PoA P T (VE W.heap.size) W (.ok (x,q)) (.returned (.agg c.toArray)) (w1.setCells (W.heap.size) 0 c)):=poE_fin (by omega) (by omega) hx1 hp1 (hk0.trans hk1) hPl hTl
  have HF:Hid (w1.there (W.heap.size) 0 c.toArray.size∧(Tryz.prog.info? 162).map (·.size)=some c.toArray.size∧c.toArray.all (·.oneCell')=true∧(loadVar 162 ⟨W.heap.size,0,none⟩).run Tryz.prog (w1.setCells (W.heap.size) 0 c)= .ok (.agg c.toArray) (w1.setCells (W.heap.size) 0 c)):=⟨t2,i2,o2,l2⟩
  clear t2 i2 o2 l2 j2 hx1 hp1 hk1 hr1 hk0 hr0 HC hW
  go_wp2_with (first
   |(refine wpList_store_mid rfl 162 (Operand.tmp 1) (Operand.tmp 3) rfl (W.heap.size) 0 c.toArray rfl rfl HF.out.1 HF.out.2.1 HF.out.2.2.1 ?_)
   |fail)
  refine bodyPost_ret (v:= .agg c.toArray) (res_one Tryz.results319 _ _ rfl HF.out.2.2.2) rfl HE.out
theorem exB_any {P T:Nat}{m:Ps→Px Ex}{b:Nat}{w:World}(hb:BoxA P b w)(hm:∀ w',BoxA P b w'→PartC P T 287 #[pt b] w' m):PartC P T 286 #[pt b] w (jn m [[97,110,100]]):=by
 refine⟨enters_of Tryz.func286 (by kernel_rfl) rfl,fun W p z hk h hz=>?_⟩
 have hPl:=h.lt
 have hTl:=h.ltT
 have s1:(W.alloc ez).heap.size=W.heap.size+1:=World.size_alloc _ _
 have hW:=(h.up (alB W ez)).up (alB (W.alloc ez) (.cells #[.string ⟨#[97,110,100]⟩] 9))
 have s2:((W.alloc ez).alloc (.cells #[.string ⟨#[97,110,100]⟩] 9)).heap.size=W.heap.size+1+1:=by rw[World.size_alloc,s1]
 have hk0:=(KP.al P W ez).trans (KP.al P (W.alloc ez) (.cells #[.string ⟨#[97,110,100]⟩] 9))
 have cb:=((hb.keep hk).keep (KP.al P W ez)).2
 have hr0:((W.alloc ez).alloc (.cells #[.string ⟨#[97,110,100]⟩] 9)).heap[W.heap.size]? =some ez:=(heap_al _ _ _ (by omega)).trans (heap_alloc_new W ez)
 have HC:=joined_any hW (hm _ ((hb.keep hk).keep hk0)) (SgA.new P (W.alloc ez) [[97,110,100]] (by simp) (by omega)) hz
 rw[s2,s1]at HC
 clear hb hk h hm hz s1 s2
 go_enter Tryz.func286,Tryz.ntmps286
 go_wp2_with fail
 refine HC.mono ?_
 rintro e w1 hpo
 cases z with
 |error x=>
  obtain⟨rfl,hk1⟩:=bad_panic hpo hk0
  exact⟨rfl,rfl,hk1⟩
 |ok r=>
  obtain⟨x,q⟩:=r
  obtain⟨v,rfl,⟨c,rfl,hx1⟩,hp1,hk1⟩:=hpo
  have hr1:=(hk1.blk _ (Array.getElem?_eq_some_iff.1 hr0).1 (by omega)).trans hr0
  obtain⟨t2,i2,o2,l2,j2⟩:=fin5 hr1 rfl hx1
  have HE:Hid (PoA P T (VE W.heap.size) W (.ok (x,q)) (.returned (.agg c.toArray)) (w1.setCells (W.heap.size) 0 c)):=poE_fin (by omega) (by omega) hx1 hp1 (hk0.trans hk1) hPl hTl
  have HF:Hid (w1.there (W.heap.size) 0 c.toArray.size∧(Tryz.prog.info? 162).map (·.size)=some c.toArray.size∧c.toArray.all (·.oneCell')=true∧(loadVar 162 ⟨W.heap.size,0,none⟩).run Tryz.prog (w1.setCells (W.heap.size) 0 c)= .ok (.agg c.toArray) (w1.setCells (W.heap.size) 0 c)):=⟨t2,i2,o2,l2⟩
  clear t2 i2 o2 l2 j2 hx1 hp1 hk1 hr1 hk0 hr0 HC hW
  go_wp2_with (first
   |(refine wpList_store_mid rfl 162 (Operand.tmp 1) (Operand.tmp 5) rfl (W.heap.size) 0 c.toArray rfl rfl HF.out.1 HF.out.2.1 HF.out.2.2.1 ?_)
   |fail)
  refine bodyPost_ret (v:= .agg c.toArray) (res_one Tryz.results286 _ _ rfl HF.out.2.2.2) rfl HE.out
theorem exA_any {P T:Nat}{m:Ps→Px Ex}{b:Nat}{w:World}(hb:BoxA P b w)(hm:∀ w',BoxA P b w'→PartC P T 286 #[pt b] w' m):PartC P T 284 #[pt b] w (jn m [[111,114]]):=by
 refine⟨enters_of Tryz.func284 (by kernel_rfl) rfl,fun W p z hk h hz=>?_⟩
 have hPl:=h.lt
 have hTl:=h.ltT
 have s1:(W.alloc ez).heap.size=W.heap.size+1:=World.size_alloc _ _
 have hW:=(h.up (alB W ez)).up (alB (W.alloc ez) (.cells #[.string ⟨#[111,114]⟩] 9))
 have s2:((W.alloc ez).alloc (.cells #[.string ⟨#[111,114]⟩] 9)).heap.size=W.heap.size+1+1:=by rw[World.size_alloc,s1]
 have hk0:=(KP.al P W ez).trans (KP.al P (W.alloc ez) (.cells #[.string ⟨#[111,114]⟩] 9))
 have cb:=((hb.keep hk).keep (KP.al P W ez)).2
 have hr0:((W.alloc ez).alloc (.cells #[.string ⟨#[111,114]⟩] 9)).heap[W.heap.size]? =some ez:=(heap_al _ _ _ (by omega)).trans (heap_alloc_new W ez)
 have HC:=joined_any hW (hm _ ((hb.keep hk).keep hk0)) (SgA.new P (W.alloc ez) [[111,114]] (by simp) (by omega)) hz
 rw[s2,s1]at HC
 clear hb hk h hm hz s1 s2
 go_enter Tryz.func284,Tryz.ntmps284
 go_wp2_with fail
 refine HC.mono ?_
 rintro e w1 hpo
 cases z with
 |error x=>
  obtain⟨rfl,hk1⟩:=bad_panic hpo hk0
  exact⟨rfl,rfl,hk1⟩
 |ok r=>
  obtain⟨x,q⟩:=r
  obtain⟨v,rfl,⟨c,rfl,hx1⟩,hp1,hk1⟩:=hpo
  have hr1:=(hk1.blk _ (Array.getElem?_eq_some_iff.1 hr0).1 (by omega)).trans hr0
  obtain⟨t2,i2,o2,l2,j2⟩:=fin5 hr1 rfl hx1
  have HE:Hid (PoA P T (VE W.heap.size) W (.ok (x,q)) (.returned (.agg c.toArray)) (w1.setCells (W.heap.size) 0 c)):=poE_fin (by omega) (by omega) hx1 hp1 (hk0.trans hk1) hPl hTl
  have HF:Hid (w1.there (W.heap.size) 0 c.toArray.size∧(Tryz.prog.info? 162).map (·.size)=some c.toArray.size∧c.toArray.all (·.oneCell')=true∧(loadVar 162 ⟨W.heap.size,0,none⟩).run Tryz.prog (w1.setCells (W.heap.size) 0 c)= .ok (.agg c.toArray) (w1.setCells (W.heap.size) 0 c)):=⟨t2,i2,o2,l2⟩
  clear t2 i2 o2 l2 j2 hx1 hp1 hk1 hr1 hk0 hr0 HC hW
  go_wp2_with (first
   |(refine wpList_store_mid rfl 162 (Operand.tmp 1) (Operand.tmp 5) rfl (W.heap.size) 0 c.toArray rfl rfl HF.out.1 HF.out.2.1 HF.out.2.2.1 ?_)
   |fail)
  refine bodyPost_ret (v:= .agg c.toArray) (res_one Tryz.results284 _ _ rfl HF.out.2.2.2) rfl HE.out
theorem smB_any {P T:Nat}{m:Ps→Px Ex}{b:Nat}{w:World}(hb:BoxA P b w)(hm:∀ w',BoxA P b w'→PartC P T 314 #[pt b] w' m):PartC P T 313 #[pt b] w (jn m [[42],[47,47],[37]]):=by
 refine⟨enters_of Tryz.func313 (by kernel_rfl) rfl,fun W p z hk h hz=>?_⟩
 have hPl:=h.lt
 have hTl:=h.ltT
 have s1:(W.alloc ez).heap.size=W.heap.size+1:=World.size_alloc _ _
 have hW:=(h.up (alB W ez)).up (alB (W.alloc ez) (.cells #[.string ⟨#[42]⟩,.string ⟨#[47,47]⟩,.string ⟨#[37]⟩] 9))
 have s2:((W.alloc ez).alloc (.cells #[.string ⟨#[42]⟩,.string ⟨#[47,47]⟩,.string ⟨#[37]⟩] 9)).heap.size=W.heap.size+1+1:=by rw[World.size_alloc,s1]
 have hk0:=(KP.al P W ez).trans (KP.al P (W.alloc ez) (.cells #[.string ⟨#[42]⟩,.string ⟨#[47,47]⟩,.string ⟨#[37]⟩] 9))
 have cb:=((hb.keep hk).keep (KP.al P W ez)).2
 have hr0:((W.alloc ez).alloc (.cells #[.string ⟨#[42]⟩,.string ⟨#[47,47]⟩,.string ⟨#[37]⟩] 9)).heap[W.heap.size]? =some ez:=(heap_al _ _ _ (by omega)).trans (heap_alloc_new W ez)
 have HC:=joined_any hW (hm _ ((hb.keep hk).keep hk0)) (SgA.new P (W.alloc ez) [[42],[47,47],[37]] (by simp) (by omega)) hz
 rw[s2,s1]at HC
 clear hb hk h hm hz s1 s2
 go_enter Tryz.func313,Tryz.ntmps313
 go_wp2_with fail
 refine HC.mono ?_
 rintro e w1 hpo
 cases z with
 |error x=>
  obtain⟨rfl,hk1⟩:=bad_panic hpo hk0
  exact⟨rfl,rfl,hk1⟩
 |ok r=>
  obtain⟨x,q⟩:=r
  obtain⟨v,rfl,⟨c,rfl,hx1⟩,hp1,hk1⟩:=hpo
  have hr1:=(hk1.blk _ (Array.getElem?_eq_some_iff.1 hr0).1 (by omega)).trans hr0
  obtain⟨t2,i2,o2,l2,j2⟩:=fin5 hr1 rfl hx1
  have HE:Hid (PoA P T (VE W.heap.size) W (.ok (x,q)) (.returned (.agg c.toArray)) (w1.setCells (W.heap.size) 0 c)):=poE_fin (by omega) (by omega) hx1 hp1 (hk0.trans hk1) hPl hTl
  have HF:Hid (w1.there (W.heap.size) 0 c.toArray.size∧(Tryz.prog.info? 162).map (·.size)=some c.toArray.size∧c.toArray.all (·.oneCell')=true∧(loadVar 162 ⟨W.heap.size,0,none⟩).run Tryz.prog (w1.setCells (W.heap.size) 0 c)= .ok (.agg c.toArray) (w1.setCells (W.heap.size) 0 c)):=⟨t2,i2,o2,l2⟩
  clear t2 i2 o2 l2 j2 hx1 hp1 hk1 hr1 hk0 hr0 HC hW
  go_wp2_with (first
   |(refine wpList_store_mid rfl 162 (Operand.tmp 1) (Operand.tmp 5) rfl (W.heap.size) 0 c.toArray rfl rfl HF.out.1 HF.out.2.1 HF.out.2.2.1 ?_)
   |fail)
  refine bodyPost_ret (v:= .agg c.toArray) (res_one Tryz.results313 _ _ rfl HF.out.2.2.2) rfl HE.out
theorem sum_any {P T:Nat}{m:Ps→Px Ex}(hm:∀ b w',BoxA P b w'→PartC P T 313 #[pt b] w' m):MethC P T 309 (jn m [[43],[45]]):=by
 intro W p z h hz
 have hPl:=h.lt
 have hTl:=h.ltT
 have s0:(W.alloc (.cells #[pt P] 224)).heap.size=W.heap.size+1:=World.size_alloc _ _
 have s1:((W.alloc (.cells #[pt P] 224)).alloc ez).heap.size=W.heap.size+1+1:=by rw[World.size_alloc,s0]
 have hW:=((h.up (alB W (.cells #[pt P] 224))).up (alB _ ez)).up (alB ((W.alloc (.cells #[pt P] 224)).alloc ez) (.cells #[.string ⟨#[43]⟩,.string ⟨#[45]⟩] 9))
 have hk0:=((KP.al P W (.cells #[pt P] 224)).trans (KP.al P _ ez)).trans (KP.al P ((W.alloc (.cells #[pt P] 224)).alloc ez) (.cells #[.string ⟨#[43]⟩,.string ⟨#[45]⟩] 9))
 have s2:(((W.alloc (.cells #[pt P] 224)).alloc ez).alloc (.cells #[.string ⟨#[43]⟩,.string ⟨#[45]⟩] 9)).heap.size=W.heap.size+1+1+1:=by rw[World.size_alloc,s1]
 have hb:=(BoxA.new hPl).keep ((KP.al P _ ez).trans (KP.al P ((W.alloc (.cells #[pt P] 224)).alloc ez) (.cells #[.string ⟨#[43]⟩,.string ⟨#[45]⟩] 9)))
 have hr0:(((W.alloc (.cells #[pt P] 224)).alloc ez).alloc (.cells #[.string ⟨#[43]⟩,.string ⟨#[45]⟩] 9)).heap[W.heap.size+1]? =some ez:=by
  have:=heap_alloc_new (W.alloc (.cells #[pt P] 224)) ez
  rw[s0]at this
  exact(heap_al _ _ _ (by omega)).trans this
 have HC:=joined_any hW (hm _ _ hb) (SgA.new P ((W.alloc (.cells #[pt P] 224)).alloc ez) [[43],[45]] (by simp) (by omega)) hz
 rw[s2,s1]at HC
 clear hb h hm hz s1 s0 s2
 go_enter Tryz.func309,Tryz.ntmps309
 go_wp2_with fail
 refine HC.mono ?_
 rintro e w1 hpo
 cases z with
 |error x=>
  obtain⟨rfl,hk1⟩:=bad_panic hpo hk0
  exact⟨rfl,rfl,hk1⟩
 |ok r=>
  obtain⟨x,q⟩:=r
  obtain⟨v,rfl,⟨c,rfl,hx1⟩,hp1,hk1⟩:=hpo
  have hr1:=(hk1.blk _ (Array.getElem?_eq_some_iff.1 hr0).1 (by omega)).trans hr0
  obtain⟨t2,i2,o2,l2,j2⟩:=fin5 hr1 rfl hx1
  have HE:Hid (PoA P T (VE W.heap.size) W (.ok (x,q)) (.returned (.agg c.toArray)) (w1.setCells (W.heap.size+1) 0 c)):=poE_fin (by omega) (by omega) hx1 hp1 (hk0.trans hk1) hPl hTl
  have HF:Hid (w1.there (W.heap.size+1) 0 c.toArray.size∧(Tryz.prog.info? 162).map (·.size)=some c.toArray.size∧c.toArray.all (·.oneCell')=true∧(loadVar 162 ⟨W.heap.size+1,0,none⟩).run Tryz.prog (w1.setCells (W.heap.size+1) 0 c)= .ok (.agg c.toArray) (w1.setCells (W.heap.size+1) 0 c)):=⟨t2,i2,o2,l2⟩
  clear t2 i2 o2 l2 j2 hx1 hp1 hk1 hr1 hk0 hr0 HC hW
  go_wp2_with (first
   |(refine wpList_store_mid rfl 162 (Operand.tmp 2) (Operand.tmp 6) rfl (W.heap.size+1) 0 c.toArray rfl rfl HF.out.1 HF.out.2.1 HF.out.2.2.1 ?_)
   |fail)
  refine bodyPost_ret (v:= .agg c.toArray) (res_one Tryz.results309 _ _ rfl HF.out.2.2.2) rfl HE.out
end Go.Proofs.YthfgpkdbclogpaaGreatDoor
