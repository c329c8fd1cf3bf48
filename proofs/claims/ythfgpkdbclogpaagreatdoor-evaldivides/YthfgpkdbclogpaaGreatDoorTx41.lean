/- 41. -/
import Derived.Test.YthfgpkdbclogpaaGreatDoorTx40
import Derived.Test.YthfgpkdbclogpaaGreatDoorTx38
set_option maxHeartbeats 40000000
set_option maxRecDepth 100000
namespace Go.Proofs.YthfgpkdbclogpaaGreatDoor
open Go.RowKit Go.Shelf
attribute [local go_sem ↓] fld0 fld1 fld2 fld3
attribute [local go_sem] mk_func
abbrev clE (n:Nat):Obj:= .cells #[.int .i64 10,.int .i64 0,.string ⟨#[]⟩,.slice (some ⟨n,0,none⟩) 1 1,.slice none 0 0] 162
def clW (P:Nat)(W:World)(C:Array Value):World:=((((W.alloc (.cells #[pt P] 224)).alloc (.cells C 162)).alloc ez).alloc (.cells C 162)).alloc (clE (W.heap.size+1+1+1))
theorem cl_facts {P T:Nat}{W:World}{p:Ps}(h:PsA P T W p)(C:Array Value):PsA P T (clW P W C) p∧KP P W (clW P W C)∧(clW P W C).heap[W.heap.size]? =some (.cells #[pt P] 224 (0,0))∧(clW P W C).heap[W.heap.size+1+1]? =some ez∧(clW P W C).heap[W.heap.size+1+1+1]? =some (.cells C 162 (0,0))∧(clW P W C).heap[W.heap.size+1+1+1+1]? =some (clE (W.heap.size+1+1+1))∧(clW P W C).heap.size=W.heap.size+1+1+1+1+1∧Below W.heap.size W (clW P W C):=by
 unfold clW
 obtain⟨V1,h1⟩:∃ V,V=W.alloc (.cells #[pt P] 224):=⟨_,rfl⟩
 rw[←h1]
 obtain⟨V2,h2⟩:∃ V,V=V1.alloc (.cells C 162):=⟨_,rfl⟩
 rw[←h2]
 obtain⟨V3,h3⟩:∃ V,V=V2.alloc ez:=⟨_,rfl⟩
 rw[←h3]
 obtain⟨V4,h4⟩:∃ V,V=V3.alloc (.cells C 162):=⟨_,rfl⟩
 rw[←h4]
 have s1:V1.heap.size=W.heap.size+1:=by rw[h1,World.size_alloc]
 have s2:V2.heap.size=W.heap.size+1+1:=by rw[h2,World.size_alloc,s1]
 have s3:V3.heap.size=W.heap.size+1+1+1:=by rw[h3,World.size_alloc,s2]
 have s4:V4.heap.size=W.heap.size+1+1+1+1:=by rw[h4,World.size_alloc,s3]
 have hb:Below W.heap.size W (V4.alloc (clE (W.heap.size+1+1+1))):=by
  have b1:Below W.heap.size W V1:=by rw[h1];exact alB W _
  have b2:Below W.heap.size W V2:=by rw[h2];exact b1.alloc b1.size _
  have b3:Below W.heap.size W V3:=by rw[h3];exact b2.alloc b2.size _
  have b4:Below W.heap.size W V4:=by rw[h4];exact b3.alloc b3.size _
  exact b4.alloc b4.size _
 refine⟨h.up hb,KP.of_below hb,?_,?_,?_,?_,by rw[World.size_alloc,s4],hb⟩
 ·rw[heap_al _ _ _ (by omega),h4,heap_al _ _ _ (by omega),h3,heap_al _ _ _ (by omega),h2,heap_al _ _ _ (by omega),h1]
  exact heap_alloc_new W _
 ·rw[heap_al _ _ _ (by omega),h4,heap_al _ _ _ (by omega),h3,←s2]
  exact heap_alloc_new V2 _
 ·rw[heap_al _ _ _ (by omega),h4,←s3]
  exact heap_alloc_new V3 _
 ·rw[←s4]
  exact heap_alloc_new V4 _
theorem call_any {P T:Nat}{E:Ps→Px Ex}(hEx:MethC P T 247 E):CallC P T 321 (fun e=>lst [41] (caE E) ⟨10,0,[],[e],[]⟩):=by
 intro W S e c p z h hxe hSP hz
 have hPl:=h.lt
 have hTl:=h.ltT
 obtain⟨a1,c1,a2,c2,hc⟩:=hxe.form
 obtain⟨h0,hk0,hb0,hr0,hq0,he0,s0,hbl⟩:=cl_facts (T:=T) h c.toArray
 have hcb:(clW P W c.toArray).cell? ⟨W.heap.size,0,none⟩=some (pt P):=by rw[Lib.cell_of_heap hb0];rfl
 have ev1:EV (clW P W c.toArray) (W.heap.size+1+1+1+1) [.int .i64 10,.int .i64 0,.string ⟨#[]⟩,.slice (some ⟨W.heap.size+1+1+1,0,none⟩) 1 1,.slice none 0 0]:=⟨⟨_,he0,rfl⟩,fun j v hv=>by
  rw[Nat.zero_add,Lib.cell_of_heap he0,←hv]
  simp⟩
 have hx0:ExA (clW P W c.toArray) (fun g=>(((S g∧g<W.heap.size)∨W.heap.size+1+1+1≤g)∧g≠W.heap.size+1+1+1+1∧(Value.slice (some ⟨W.heap.size+1+1+1,0,none⟩) 1 1).ownBlock≠some g∧(Value.slice none 0 0).ownBlock≠some g)) e c:=hxe.keep (fun g _ hg2=>hbl.block g hg2) (fun g hg hg2=>⟨.inl ⟨hg,hg2⟩,by omega,fun e9=>by have:=ob_eq e9;omega,fun e9=>by cases e9⟩)
 have hkr:(clW P W c.toArray).ownsRow (W.heap.size+1+1+1) 162 5 (.slice (some ⟨W.heap.size+1+1+1,0,none⟩) 1 1) ([e]:List Ex).length ([c]:List (List Value)).flatten:=⟨by simpa using hxe.len,.inr ⟨W.heap.size+1+1+1,1,c.toArray,rfl,Nat.le_refl _,hq0,Nat.le_refl _,by decide,by simpa using hxe.len,by simpa using List.take_of_length_le (Nat.le_of_eq hxe.len)⟩⟩
 have hJ:LI (fun g=>S g∧g<W.heap.size) P T (W.heap.size+1+1+1) (W.heap.size+1+1+1+1) (clW P W c.toArray) (clW P W c.toArray) ⟨10,0,[],[e],[]⟩ p:=⟨h0,⟨rfl,rfl,rfl,by omega,fun _ _ _ _=>rfl⟩,.slice (some ⟨W.heap.size+1+1+1,0,none⟩) 1 1,.slice none 0 0,[c],ev1,hkr,World.ownsRow_nil _ _ _ _,(fun g _ e9=>by cases e9),(fun e9=>by have:=ob_eq e9;omega),(fun e9=>by cases e9),⟨hx0,trivial⟩⟩
 have HC:=listed_any (li_liv (by omega) (by omega) (fun g hg=>⟨by have:=hg.2;omega,hSP g hg.1,by have:=hg.2;omega⟩)) (callE_any (b:=W.heap.size) hEx (by omega) (by omega) (fun g hg=>⟨by have:=hg.2;omega,hSP g hg.1,by have:=hg.2;omega⟩) (by omega) (by omega) (by omega) (by omega) (by omega) hcb) [41] hJ hz
 have HQ:Hid (KP P W (clW P W c.toArray)∧(clW P W c.toArray).heap[W.heap.size+1+1]? =some ez∧(clW P W c.toArray).heap.size=W.heap.size+1+1+1+1+1):=⟨hk0,hr0,s0⟩
 clear h h0 hk0 hb0 hr0 hq0 he0 s0 hbl ev1 hx0 hkr hJ hEx hz hxe
 subst hc
 unfold clW at *
 go_enter Tryz.func321,Tryz.ntmps321
 go_wp2_with fail
 refine HC.mono ?_
 rintro e9 w1 hpo
 have hfr:∀ w',FrL P (W.heap.size+1+1+1) (W.heap.size+1+1+1+1) _ w'→KP P W w':=fun w' hf=>⟨hf.os.trans HQ.out.1.os,hf.tape.trans HQ.out.1.tape,hf.output.trans HQ.out.1.output,by have:=hf.size;omega,fun g hg hp=>(hf.blk g (by omega) hp (by omega)).trans (HQ.out.1.blk g hg hp)⟩
 cases z with
 |error x=>
  obtain⟨rfl,hn⟩:=bad_lpo hpo
  exact⟨rfl,rfl,hfr _ hn⟩
 |ok r=>
  obtain⟨x,q⟩:=r
  obtain⟨rfl,hli⟩:=hpo
  obtain⟨c,hev,hx⟩:=hli.done
  have hr2:w1.heap[W.heap.size+1+1]? =some ez:=(hli.fr.blk _ (by omega) (by omega) (by omega)).trans HQ.out.2.1
  obtain⟨t2,i2,o2,l2,j2⟩:=fin5 hr2 rfl hx
  have HZ:Hid (PoA P T (fun w' x v=>∃ c',v= .agg c'.toArray∧ExA w' (fun g=>S g∨W.heap.size≤g) x c') W (.ok (x,q)) (.returned (.agg c.toArray)) (w1.setCells (W.heap.size+1+1) 0 c)):=⟨_,rfl,⟨c,rfl,hx.keep (fun g hg _=>heap_sets (W.heap.size+1+1) c 0 w1 g (by rcases hg.1 with hg|hg;(· have:=hg.2;omega);(· omega))) (fun g hg _=>by rcases hg.1 with hg|hg;(· exact .inl hg.1);(· exact .inr (by omega)))⟩,hli.ps.sets (by omega) (by omega) _,(hfr _ hli.fr).sets (by omega) _⟩
  have HG:Hid (w1.rangeAt (W.heap.size+1+1+1+1) 0 c∧(Tryz.prog.info? 162).map (·.size)=some c.length∧w1.there (W.heap.size+1+1) 0 c.toArray.size∧(Tryz.prog.info? 162).map (·.size)=some c.toArray.size∧c.toArray.all (·.oneCell')=true∧(loadVar 162 ⟨W.heap.size+1+1,0,none⟩).run Tryz.prog (w1.setCells (W.heap.size+1+1) 0 c)= .ok (.agg c.toArray) (w1.setCells (W.heap.size+1+1) 0 c)):=⟨hev.2,j2,t2,i2,o2,l2⟩
  clear t2 i2 o2 l2 j2 hx hev hli hr2 hfr HQ HC
  go_wp2_with (first
   |(refine wpList_load_mid rfl 162 (Operand.tmp 5) rfl (W.heap.size+1+1+1+1) 0 rfl c _ HG.out.1 Tryz.underlying162 rfl HG.out.2.1 ?_)
   |(refine wpList_store_mid rfl 162 (Operand.tmp 4) (Operand.tmp 12) rfl (W.heap.size+1+1) 0 c.toArray rfl rfl HG.out.2.2.1 HG.out.2.2.2.1 HG.out.2.2.2.2.1 ?_)
   |fail)
  refine bodyPost_ret (v:= .agg c.toArray) (res_one Tryz.results321 _ _ rfl HG.out.2.2.2.2.2) rfl HZ.out
end Go.Proofs.YthfgpkdbclogpaaGreatDoor
namespace Go.Proofs.YthfgpkdbclogpaaGreatDoor
open Go.RowKit Go.Shelf
attribute [local go_sem ↓] fld0 fld1 fld2 fld3
attribute [local go_sem] mk_func
abbrev l7:Obj:= .cells #[.int .i64 7,.int .i64 0,.string ⟨#[]⟩,.slice none 0 0,.slice none 0 0] 162
abbrev l8:Obj:= .cells #[.int .i64 8,.int .i64 0,.string ⟨#[]⟩,.slice none 0 0,.slice none 0 0] 162
theorem list_any {P T:Nat}{E:Ps→Px Ex}(hEx:MethC P T 247 E):MethC P T 324 (lst [93] (liE E) ⟨7,0,[],[],[]⟩):=by
 intro W p z h hz
 have hPl:=h.lt
 have hTl:=h.ltT
 obtain⟨h0,hk0,hb0,hr0,s0⟩:=bg_facts h
 have s1:((bgW P W).alloc l7).heap.size=W.heap.size+1+1+1:=by rw[World.size_alloc,s0]
 have hk1:=hk0.trans (KP.al P (bgW P W) l7)
 have hb1:=hb0.keep (KP.al P (bgW P W) l7)
 have cb:=hb1.2
 have hr1:((bgW P W).alloc l7).heap[W.heap.size+1]? =some ez:=(heap_al _ _ _ (by omega)).trans hr0
 have he1:((bgW P W).alloc l7).heap[W.heap.size+1+1]? =some l7:=by
  have:=heap_alloc_new (bgW P W) l7
  rwa [s0]at this
 have ev1:EV ((bgW P W).alloc l7) (W.heap.size+1+1) [.int .i64 7,.int .i64 0,.string ⟨#[]⟩,.slice none 0 0,.slice none 0 0]:=⟨⟨_,he1,rfl⟩,fun j v hv=>by
  rw[Nat.zero_add,Lib.cell_of_heap he1,←hv]
  simp⟩
 have hJ:LI (fun _=>False) P T (W.heap.size+1+1+1) (W.heap.size+1+1) ((bgW P W).alloc l7) ((bgW P W).alloc l7) ⟨7,0,[],[],[]⟩ p:=⟨h0.up (alB _ _),⟨rfl,rfl,rfl,by omega,fun _ _ _ _=>rfl⟩,.slice none 0 0,.slice none 0 0,[],ev1,World.ownsRow_nil _ _ _ _,World.ownsRow_nil _ _ _ _,(fun g hg=>by cases hg),(fun e=>by cases e),(fun e=>by cases e),trivial⟩
 have HC:=listed_any (li_liv (by omega) (by omega) (fun _ h=>h.elim)) (listE_any (b:=W.heap.size) hEx (by omega) (by omega) (fun _ h=>h.elim) (by omega) (by omega) (by omega) (by omega) (by omega) hb1.2) [93] hJ hz
 have HQ:Hid (KP P W ((bgW P W).alloc l7)∧((bgW P W).alloc l7).heap[W.heap.size+1]? =some ez∧((bgW P W).alloc l7).heap.size=W.heap.size+1+1+1):=⟨hk1,hr1,s1⟩
 clear h h0 hk0 hb0 hr0 s0 s1 hk1 hb1 hr1 he1 ev1 hJ hEx hz
 unfold bgW at *
 go_enter Tryz.func324,Tryz.ntmps324
 go_wp2_with fail
 refine HC.mono ?_
 rintro e w1 hpo
 have hfr:∀ w',FrL P (W.heap.size+1+1+1) (W.heap.size+1+1) _ w'→KP P W w':=fun w' hf=>⟨hf.os.trans HQ.out.1.os,hf.tape.trans HQ.out.1.tape,hf.output.trans HQ.out.1.output,by have:=hf.size;omega,fun g hg hp=>(hf.blk g (by omega) hp (by omega)).trans (HQ.out.1.blk g hg hp)⟩
 cases z with
 |error x=>
  obtain⟨rfl,hn⟩:=bad_lpo hpo
  exact⟨rfl,rfl,hfr _ hn⟩
 |ok r=>
  obtain⟨x,q⟩:=r
  obtain⟨rfl,hli⟩:=hpo
  obtain⟨c,hev,hx⟩:=hli.done
  have hr2:w1.heap[W.heap.size+1]? =some ez:=(hli.fr.blk _ (by omega) (by omega) (by omega)).trans HQ.out.2.1
  obtain⟨t2,i2,o2,l2,j2⟩:=fin5 hr2 rfl hx
  have HZ:Hid (PoA P T (VE W.heap.size) W (.ok (x,q)) (.returned (.agg c.toArray)) (w1.setCells (W.heap.size+1) 0 c)):=poE_fin2 (by omega) hx (fun g hg=>by obtain⟨hg|hg,_⟩:=hg;(· exact hg.elim);(· exact⟨by omega,by omega⟩)) hli.ps (hfr _ hli.fr) hPl hTl
  have HG:Hid (w1.rangeAt (W.heap.size+1+1) 0 c∧(Tryz.prog.info? 162).map (·.size)=some c.length∧w1.there (W.heap.size+1) 0 c.toArray.size∧(Tryz.prog.info? 162).map (·.size)=some c.toArray.size∧c.toArray.all (·.oneCell')=true∧(loadVar 162 ⟨W.heap.size+1,0,none⟩).run Tryz.prog (w1.setCells (W.heap.size+1) 0 c)= .ok (.agg c.toArray) (w1.setCells (W.heap.size+1) 0 c)):=⟨hev.2,j2,t2,i2,o2,l2⟩
  clear t2 i2 o2 l2 j2 hx hev hli hr2 hfr HQ HC
  go_wp2_with (first
   |(refine wpList_load_mid rfl 162 (Operand.tmp 3) rfl (W.heap.size+1+1) 0 rfl c _ HG.out.1 Tryz.underlying162 rfl HG.out.2.1 ?_)
   |(refine wpList_store_mid rfl 162 (Operand.tmp 2) (Operand.tmp 8) rfl (W.heap.size+1) 0 c.toArray rfl rfl HG.out.2.2.1 HG.out.2.2.2.1 HG.out.2.2.2.2.1 ?_)
   |fail)
  refine bodyPost_ret (v:= .agg c.toArray) (res_one Tryz.results324 _ _ rfl HG.out.2.2.2.2.2) rfl HZ.out
theorem dictionary_any {P T:Nat}{E:Ps→Px Ex}(hEx:MethC P T 247 E):MethC P T 325 (lst [125] (diE E) ⟨8,0,[],[],[]⟩):=by
 intro W p z h hz
 have hPl:=h.lt
 have hTl:=h.ltT
 obtain⟨h0,hk0,hb0,hr0,s0⟩:=bg_facts h
 have s1:((bgW P W).alloc l8).heap.size=W.heap.size+1+1+1:=by rw[World.size_alloc,s0]
 have hk1:=hk0.trans (KP.al P (bgW P W) l8)
 have hb1:=hb0.keep (KP.al P (bgW P W) l8)
 have cb:=hb1.2
 have hr1:((bgW P W).alloc l8).heap[W.heap.size+1]? =some ez:=(heap_al _ _ _ (by omega)).trans hr0
 have he1:((bgW P W).alloc l8).heap[W.heap.size+1+1]? =some l8:=by
  have:=heap_alloc_new (bgW P W) l8
  rwa [s0]at this
 have ev1:EV ((bgW P W).alloc l8) (W.heap.size+1+1) [.int .i64 8,.int .i64 0,.string ⟨#[]⟩,.slice none 0 0,.slice none 0 0]:=⟨⟨_,he1,rfl⟩,fun j v hv=>by
  rw[Nat.zero_add,Lib.cell_of_heap he1,←hv]
  simp⟩
 have hJ:LI (fun _=>False) P T (W.heap.size+1+1+1) (W.heap.size+1+1) ((bgW P W).alloc l8) ((bgW P W).alloc l8) ⟨8,0,[],[],[]⟩ p:=⟨h0.up (alB _ _),⟨rfl,rfl,rfl,by omega,fun _ _ _ _=>rfl⟩,.slice none 0 0,.slice none 0 0,[],ev1,World.ownsRow_nil _ _ _ _,World.ownsRow_nil _ _ _ _,(fun g hg=>by cases hg),(fun e=>by cases e),(fun e=>by cases e),trivial⟩
 have HC:=listed_any (li_liv (by omega) (by omega) (fun _ h=>h.elim)) (dictE_any (b:=W.heap.size) hEx (by omega) (by omega) (fun _ h=>h.elim) (by omega) (by omega) (by omega) (by omega) (by omega) hb1.2) [125] hJ hz
 have HQ:Hid (KP P W ((bgW P W).alloc l8)∧((bgW P W).alloc l8).heap[W.heap.size+1]? =some ez∧((bgW P W).alloc l8).heap.size=W.heap.size+1+1+1):=⟨hk1,hr1,s1⟩
 clear h h0 hk0 hb0 hr0 s0 s1 hk1 hb1 hr1 he1 ev1 hJ hEx hz
 unfold bgW at *
 go_enter Tryz.func325,Tryz.ntmps325
 go_wp2_with fail
 refine HC.mono ?_
 rintro e w1 hpo
 have hfr:∀ w',FrL P (W.heap.size+1+1+1) (W.heap.size+1+1) _ w'→KP P W w':=fun w' hf=>⟨hf.os.trans HQ.out.1.os,hf.tape.trans HQ.out.1.tape,hf.output.trans HQ.out.1.output,by have:=hf.size;omega,fun g hg hp=>(hf.blk g (by omega) hp (by omega)).trans (HQ.out.1.blk g hg hp)⟩
 cases z with
 |error x=>
  obtain⟨rfl,hn⟩:=bad_lpo hpo
  exact⟨rfl,rfl,hfr _ hn⟩
 |ok r=>
  obtain⟨x,q⟩:=r
  obtain⟨rfl,hli⟩:=hpo
  obtain⟨c,hev,hx⟩:=hli.done
  have hr2:w1.heap[W.heap.size+1]? =some ez:=(hli.fr.blk _ (by omega) (by omega) (by omega)).trans HQ.out.2.1
  obtain⟨t2,i2,o2,l2,j2⟩:=fin5 hr2 rfl hx
  have HZ:Hid (PoA P T (VE W.heap.size) W (.ok (x,q)) (.returned (.agg c.toArray)) (w1.setCells (W.heap.size+1) 0 c)):=poE_fin2 (by omega) hx (fun g hg=>by obtain⟨hg|hg,_⟩:=hg;(· exact hg.elim);(· exact⟨by omega,by omega⟩)) hli.ps (hfr _ hli.fr) hPl hTl
  have HG:Hid (w1.rangeAt (W.heap.size+1+1) 0 c∧(Tryz.prog.info? 162).map (·.size)=some c.length∧w1.there (W.heap.size+1) 0 c.toArray.size∧(Tryz.prog.info? 162).map (·.size)=some c.toArray.size∧c.toArray.all (·.oneCell')=true∧(loadVar 162 ⟨W.heap.size+1,0,none⟩).run Tryz.prog (w1.setCells (W.heap.size+1) 0 c)= .ok (.agg c.toArray) (w1.setCells (W.heap.size+1) 0 c)):=⟨hev.2,j2,t2,i2,o2,l2⟩
  clear t2 i2 o2 l2 j2 hx hev hli hr2 hfr HQ HC
  go_wp2_with (first
   |(refine wpList_load_mid rfl 162 (Operand.tmp 3) rfl (W.heap.size+1+1) 0 rfl c _ HG.out.1 Tryz.underlying162 rfl HG.out.2.1 ?_)
   |(refine wpList_store_mid rfl 162 (Operand.tmp 2) (Operand.tmp 8) rfl (W.heap.size+1) 0 c.toArray rfl rfl HG.out.2.2.1 HG.out.2.2.2.1 HG.out.2.2.2.2.1 ?_)
   |fail)
  refine bodyPost_ret (v:= .agg c.toArray) (res_one Tryz.results325 _ _ rfl HG.out.2.2.2.2.2) rfl HZ.out
theorem exF_any {P T:Nat}:∀ n,MethC P T 247 (exF n)
 |0=>fun W p z _ hz=>by cases hz
 |n+1=>by
  have hE:=exF_any (P:=P) (T:=T) n
  have hP:=post_any hE (atom_any (signAtom_any hE (list_any hE) (dictionary_any hE))) (call_any hE)
  have hU:MethC P T 315 (una (exF n)):=fun W p z h hz=>unary_any hP _ W p z h hz
  have hS:MethC P T 309 (sum (exF n)):=fun W p z h hz=>sum_any (fun b w' hb=>smB_any hb (fun w2 hb2=>smC_any hU hb2)) W p z h hz
  have hN:MethC P T 288 (neg (exF n)):=fun W p z h hz=>negation_any (comparison_any hS) _ W p z h hz
  exact expression_any (m:=orE (exF n)) (fun b w' hb=>exA_any hb (fun w2 hb2=>exB_any hb2 (fun w3 hb3=>exC_any hN hb3)))
end Go.Proofs.YthfgpkdbclogpaaGreatDoor
