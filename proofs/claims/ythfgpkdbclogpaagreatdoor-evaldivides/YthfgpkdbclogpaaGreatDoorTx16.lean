/- 16. -/
import Derived.Deep.RegionHeld3
import Derived.Test.YthfgpkdbclogpaaGreatDoorTx15
set_option maxHeartbeats 40000000
set_option maxRecDepth 100000
namespace Go.Proofs.YthfgpkdbclogpaaGreatDoor
open Go.RowKit Go.Shelf
attribute [local go_sem ↓] fld0 fld1 fld2 fld3
theorem isS_self {t:Tk}{l:List (List UInt8)}(h:isS t l=true):isS t [t.text]=true:=by
 unfold isS at *
 simp at *
 exact h.1
theorem ExA.form {w:World}{S:Nat→Prop}{x:Ex}{c:List Value}(h:ExA w S x c):∃ a1 c1 a2 c2,c=[.int .i64 x.kind,.int .i64 x.num,.string (mkB x.text),.slice a1 x.kids.length c1,.slice a2 x.names.length c2]:=by
 obtain⟨kv,nv,vs,rfl,h1,h2,_⟩:=h.open
 obtain⟨a1,c1,rfl⟩:=row_shape h1
 obtain⟨a2,c2,rfl⟩:=row_shape h2
 exact⟨a1,c1,a2,c2,rfl⟩
theorem keepLR {P:Nat}{w W:World}{o1 o2:Obj}(hPl:P<w.heap.size)(hk:∀ g,g<((w.alloc o1).alloc o2).heap.size→g≠P→W.heap[g]? =((w.alloc o1).alloc o2).heap[g]?):W.heap[w.heap.size]? =some o1∧W.heap[w.heap.size+1]? =some o2:=by
 have s1:(w.alloc o1).heap.size=w.heap.size+1:=World.size_alloc _ _
 have s2:((w.alloc o1).alloc o2).heap.size=w.heap.size+1+1:=by rw[World.size_alloc,s1]
 refine⟨(hk _ (by omega) (by omega)).trans ((heap_al _ _ _ (by omega)).trans (heap_alloc_new w _)),(hk _ (by omega) (by omega)).trans ?_⟩
 rw[←s1]
 exact heap_alloc_new _ _
theorem ob_le {b g o n c k:Nat}(h:(Value.slice (some ⟨b,o,none⟩) n c).ownBlock=some g)(hk:k≤b):k≤g:=by
 have h7:b=g:=by simpa[Value.ownBlock]using h
 omega
theorem sets5 (w:World)(b:Nat)(v0 v1 v2 v3 v4:Value):w.setCells b 0 [v0,v1,v2,v3,v4]=((((w.setCell ⟨b,0,none⟩ v0).setCell ⟨b,1,none⟩ v1).setCell ⟨b,2,none⟩ v2).setCell ⟨b,3,none⟩ v3).setCell ⟨b,4,none⟩ v4:=rfl
theorem cells5 {w:World}{R:Nat}(h:w.heap[R]? =some ez):w.cell? ⟨R,0,none⟩=some (.int .i64 0)∧w.cell? ⟨R,1,none⟩=some (.int .i64 0)∧w.cell? ⟨R,2,none⟩=some (.string ⟨#[]⟩)∧w.cell? ⟨R,3,none⟩=some (.slice none 0 0)∧w.cell? ⟨R,4,none⟩=some (.slice none 0 0)∧w.frozen? ⟨R,0,none⟩=false∧w.frozen? ⟨R,1,none⟩=false∧w.frozen? ⟨R,2,none⟩=false∧w.frozen? ⟨R,3,none⟩=false∧w.frozen? ⟨R,4,none⟩=false:=by
 refine⟨?_,?_,?_,?_,?_,Lib.frozen_of_heap h 0,Lib.frozen_of_heap h 1,Lib.frozen_of_heap h 2,Lib.frozen_of_heap h 3,Lib.frozen_of_heap h 4⟩<;>(rw[Lib.cell_of_heap h];rfl)
set_option linter.unusedSimpArgs false in
theorem pair_any {P T F:Nat}{caps:Array Value}{w:World}{p:Ps}{m:Ps→Px Ex}(h:PsA P T w p)(hm:PartC P T F caps w m){l:List (List UInt8)}(hl:p.sees l=true){S:Nat→Prop}{x:Ex}{c:List Value}(hx:ExA w S x c)(hS:∀ g,S g→g≠P){z:Except Ft (Ex×Ps)}(hz:(bnd (m p.adv) fun y q=>ok ⟨14,0,p.nx.text,[x,y],[]⟩ q)=some z):
  Calls Tryz.prog 301 #[pt P,.agg c.toArray,.func (.func F) #[] caps] w (PoA P T (fun W y v=>∃ c',v= .agg c'.toArray∧ExA W (fun g=>S g∨w.heap.size≤g) y c') w z):=by
 obtain⟨a1,c1,a2,c2,hc⟩:=hx.form
 subst hc
 have hPl:=h.lt
 have hTl:=h.ltT
 have hent:=hm.1
 obtain⟨t,r,hp⟩:=sees_cons hl
 have hnx:=adv_of hp
 have hts:tkS t.text p=some (.ok ((),p.adv)):=by
  unfold tkS
  rw[show p.sees [t.text]=true from by unfold Ps.sees at *;rw[hnx]at hl;rw[hnx];exact isS_self hl]
  rfl
 have hW:PsA P T ((w.alloc (.cells #[.int .i64 x.kind,.int .i64 x.num,.string (mkB x.text),.slice a1 x.kids.length c1,.slice a2 x.names.length c2] 162)).alloc ez) p:=(h.up (alB _ _)).up (alB _ _)
 have hkW:KP P w ((w.alloc (.cells #[.int .i64 x.kind,.int .i64 x.num,.string (mkB x.text),.slice a1 x.kids.length c1,.slice a2 x.names.length c2] 162)).alloc ez):=(KP.of_below (alB _ _)).trans (KP.of_below (alB _ _))
 have HN:=next_any hW
 rw[hnx]at HN hz
 have HT:Hid (∀ V,PsA P T V p→Calls Tryz.prog 246 #[pt P,.string (mkB t.text)] V (PoA P T (fun _ _ v=>v= .tuple #[]) V (.ok ((),p.adv)))):=fun V hV=>takeSign_any hV t.text hts
 have HC:Hid (∀ V z',KP P w V→PsA P T V p.adv→m p.adv=some z'→Calls Tryz.prog F caps V (PoA P T (VE V.heap.size) V z')):=fun V z' hk hV hz'=>hm.2 V _ z' hk hV hz'
 rcases bnd_some hz with⟨y,hy,rfl⟩|⟨y,q,hy,hq⟩
 ·go_enter Tryz.func301,Tryz.ntmps301
  go_wp2_with fail
  refine HN.mono ?_
  rintro e w1 ⟨rfl,hb1⟩
  have h1:=hW.up hb1
  have HT1:=HT.out w1 h1
  go_wp2_with fail
  refine HT1.mono ?_
  rintro e w2 ⟨v,rfl,rfl,h2,hk2⟩
  have hkw2:KP P w w2:=(hkW.trans (KP.of_below hb1)).trans hk2
  obtain⟨hL2,hR2⟩:=keepLR hPl (fun g hg hne=>(hk2.blk g (Nat.lt_of_lt_of_le hg hb1.size) hne).trans (hb1.block g hg))
  have x0:w2.cell? ⟨w.heap.size,0,none⟩=some (.int .i64 x.kind):=by rw[Lib.cell_of_heap hL2];rfl
  have x1:w2.cell? ⟨w.heap.size,1,none⟩=some (.int .i64 x.num):=by rw[Lib.cell_of_heap hL2];rfl
  have x2:w2.cell? ⟨w.heap.size,2,none⟩=some (.string (mkB x.text)):=by rw[Lib.cell_of_heap hL2];rfl
  have x3:w2.cell? ⟨w.heap.size,3,none⟩=some (.slice a1 x.kids.length c1):=by rw[Lib.cell_of_heap hL2];rfl
  have x4:w2.cell? ⟨w.heap.size,4,none⟩=some (.slice a2 x.names.length c2):=by rw[Lib.cell_of_heap hL2];rfl
  have HQ:Hid (PsA P T w2 p.adv∧KP P w w2):=⟨h2,hkw2⟩
  clear h2 hkw2 hk2 h1 hb1 hL2 hR2 HT1
  have HS:Hid (w2.drew.cell? ⟨w.heap.size,0,none⟩=some (.int .i64 x.kind)∧w2.drew.cell? ⟨w.heap.size,1,none⟩=some (.int .i64 x.num)∧w2.drew.cell? ⟨w.heap.size,2,none⟩=some (.string (mkB x.text))∧w2.drew.cell? ⟨w.heap.size,3,none⟩=some (.slice a1 x.kids.length c1)∧w2.drew.cell? ⟨w.heap.size,4,none⟩=some (.slice a2 x.names.length c2)):=⟨x0,x1,x2,x3,x4⟩
  go_wp2_with fail
  refine wp_region_held_drew (S:=fun V=>V.cell? ⟨w.heap.size,0,none⟩=some (.int .i64 x.kind)∧V.cell? ⟨w.heap.size,1,none⟩=some (.int .i64 x.num)∧V.cell? ⟨w.heap.size,2,none⟩=some (.string (mkB x.text))∧V.cell? ⟨w.heap.size,3,none⟩=some (.slice a1 x.kids.length c1)∧V.cell? ⟨w.heap.size,4,none⟩=some (.slice a2 x.names.length c2)) (by kernel_rfl) HS.out (fun hHeld=>?_)
  refine wpAnyH_take (i:=0) (v:= .string (mkB t.text)) rfl (by kernel_rfl) (by kernel_rfl) (by kernel_rfl) (fun _ _ _ h=>h) (Or.inl ⟨by rfl,?_⟩) (by assumption) ?_
  ·intro V hSV
   try dsimp only at hSV
   go_simp
   try with_reducible rfl
  try simp only[Act.put,List.setIfInBounds_toArray,List.set_cons_zero,List.set_cons_succ]
  refine wpAnyH_take (i:=1) (v:= .agg #[.int .i64 x.kind,.int .i64 x.num,.string (mkB x.text),.slice a1 x.kids.length c1,.slice a2 x.names.length c2]) rfl (by kernel_rfl) (by kernel_rfl) (by kernel_rfl) (fun _ _ _ h=>h) (Or.inl ⟨by rfl,?_⟩) (by assumption) ?_
  ·intro V hSV
   try dsimp only at hSV
   go_simp
   try with_reducible rfl
  try simp only[Act.put,List.setIfInBounds_toArray,List.set_cons_zero,List.set_cons_succ]
  refine wpAnyH_take (i:=2) (v:= .func (.func F) #[] caps) rfl (by kernel_rfl) (by kernel_rfl) (by kernel_rfl) (fun _ _ _ h=>h) (Or.inl ⟨by rfl,?_⟩) (by assumption) ?_
  ·intro V hSV
   try dsimp only at hSV
   go_simp
   try with_reducible rfl
  try simp only[Act.put,List.setIfInBounds_toArray,List.set_cons_zero,List.set_cons_succ]
  refine wpAnyH_ready (rs:=[3]) (by kernel_rfl) (by simp) (AllReadyH.cons rfl (fun K hK=>?_) AllReadyH.nil)
  go_simp
  refine(HC.out w2.drew _ HQ.out.2.drew (HQ.out.1.drewN 1) hy).mono ?_
  rintro e w3 hpo
  obtain⟨rfl,hk3⟩:=bad_panic hpo HQ.out.2.drew
  exact⟨rfl,rfl,hk3⟩
 ·cases hq
  go_enter Tryz.func301,Tryz.ntmps301
  go_wp2_with fail
  refine HN.mono ?_
  rintro e w1 ⟨rfl,hb1⟩
  have h1:=hW.up hb1
  have HT1:=HT.out w1 h1
  go_wp2_with fail
  refine HT1.mono ?_
  rintro e w2 ⟨v,rfl,rfl,h2,hk2⟩
  have hkw2:KP P w w2:=(hkW.trans (KP.of_below hb1)).trans hk2
  obtain⟨hL2,hR2⟩:=keepLR hPl (fun g hg hne=>(hk2.blk g (Nat.lt_of_lt_of_le hg hb1.size) hne).trans (hb1.block g hg))
  have x0:w2.cell? ⟨w.heap.size,0,none⟩=some (.int .i64 x.kind):=by rw[Lib.cell_of_heap hL2];rfl
  have x1:w2.cell? ⟨w.heap.size,1,none⟩=some (.int .i64 x.num):=by rw[Lib.cell_of_heap hL2];rfl
  have x2:w2.cell? ⟨w.heap.size,2,none⟩=some (.string (mkB x.text)):=by rw[Lib.cell_of_heap hL2];rfl
  have x3:w2.cell? ⟨w.heap.size,3,none⟩=some (.slice a1 x.kids.length c1):=by rw[Lib.cell_of_heap hL2];rfl
  have x4:w2.cell? ⟨w.heap.size,4,none⟩=some (.slice a2 x.names.length c2):=by rw[Lib.cell_of_heap hL2];rfl
  have HQ:Hid (PsA P T w2 p.adv∧KP P w w2∧w2.heap[w.heap.size+1]? =some ez∧w2.heap[w.heap.size]? =some (.cells #[.int .i64 x.kind,.int .i64 x.num,.string (mkB x.text),.slice a1 x.kids.length c1,.slice a2 x.names.length c2] 162 (0,0))):=⟨h2,hkw2,hR2,hL2⟩
  have HX:Hid (ExA w S x [.int .i64 x.kind,.int .i64 x.num,.string (mkB x.text),.slice a1 x.kids.length c1,.slice a2 x.names.length c2]∧(∀ g,S g→g≠P)):=⟨hx,hS⟩
  clear h2 hkw2 hk2 h1 hb1 hL2 hR2 HT1 h hm hl hx hS hz HN hW hkW hp hnx hts
  have HS:Hid (w2.drew.cell? ⟨w.heap.size,0,none⟩=some (.int .i64 x.kind)∧w2.drew.cell? ⟨w.heap.size,1,none⟩=some (.int .i64 x.num)∧w2.drew.cell? ⟨w.heap.size,2,none⟩=some (.string (mkB x.text))∧w2.drew.cell? ⟨w.heap.size,3,none⟩=some (.slice a1 x.kids.length c1)∧w2.drew.cell? ⟨w.heap.size,4,none⟩=some (.slice a2 x.names.length c2)):=⟨x0,x1,x2,x3,x4⟩
  go_wp2_with fail
  refine wp_region_held_drew (S:=fun V=>V.cell? ⟨w.heap.size,0,none⟩=some (.int .i64 x.kind)∧V.cell? ⟨w.heap.size,1,none⟩=some (.int .i64 x.num)∧V.cell? ⟨w.heap.size,2,none⟩=some (.string (mkB x.text))∧V.cell? ⟨w.heap.size,3,none⟩=some (.slice a1 x.kids.length c1)∧V.cell? ⟨w.heap.size,4,none⟩=some (.slice a2 x.names.length c2)) (by kernel_rfl) HS.out (fun hHeld=>?_)
  refine wpAnyH_take (i:=0) (v:= .string (mkB t.text)) rfl (by kernel_rfl) (by kernel_rfl) (by kernel_rfl) (fun _ _ _ h=>h) (Or.inl ⟨by rfl,?_⟩) (by assumption) ?_
  ·intro V hSV
   try dsimp only at hSV
   go_simp
   try with_reducible rfl
  try simp only[Act.put,List.setIfInBounds_toArray,List.set_cons_zero,List.set_cons_succ]
  refine wpAnyH_take (i:=1) (v:= .agg #[.int .i64 x.kind,.int .i64 x.num,.string (mkB x.text),.slice a1 x.kids.length c1,.slice a2 x.names.length c2]) rfl (by kernel_rfl) (by kernel_rfl) (by kernel_rfl) (fun _ _ _ h=>h) (Or.inl ⟨by rfl,?_⟩) (by assumption) ?_
  ·intro V hSV
   try dsimp only at hSV
   go_simp
   try with_reducible rfl
  try simp only[Act.put,List.setIfInBounds_toArray,List.set_cons_zero,List.set_cons_succ]
  refine wpAnyH_take (i:=2) (v:= .func (.func F) #[] caps) rfl (by kernel_rfl) (by kernel_rfl) (by kernel_rfl) (fun _ _ _ h=>h) (Or.inl ⟨by rfl,?_⟩) (by assumption) ?_
  ·intro V hSV
   try dsimp only at hSV
   go_simp
   try with_reducible rfl
  try simp only[Act.put,List.setIfInBounds_toArray,List.set_cons_zero,List.set_cons_succ]
  refine wpAnyH_ready (rs:=[3]) (by kernel_rfl) (by simp) (AllReadyH.cons rfl (fun K hK=>?_) AllReadyH.nil)
  go_simp
  refine(HC.out w2.drew _ HQ.out.2.1.drew (HQ.out.1.drewN 1) hy).mono ?_
  rintro e w3 ⟨v,rfl,⟨c',rfl,hx3⟩,hp3,hk3⟩
  obtain⟨b1,d1,b2,d2,hc3⟩:=hx3.form
  subst hc3
  have hL3:w3.heap[w.heap.size]? =some (.cells #[.int .i64 x.kind,.int .i64 x.num,.string (mkB x.text),.slice a1 x.kids.length c1,.slice a2 x.names.length c2] 162 (0,0)):=(hk3.blk _ (Array.getElem?_eq_some_iff.1 HQ.out.2.2.2).1 (by omega)).trans HQ.out.2.2.2
  have hR3:w3.heap[w.heap.size+1]? =some ez:=(hk3.blk _ (Array.getElem?_eq_some_iff.1 HQ.out.2.2.1).1 (by omega)).trans HQ.out.2.2.1
  have hS3:w3.cell? ⟨w.heap.size,0,none⟩=some (.int .i64 x.kind)∧w3.cell? ⟨w.heap.size,1,none⟩=some (.int .i64 x.num)∧w3.cell? ⟨w.heap.size,2,none⟩=some (.string (mkB x.text))∧w3.cell? ⟨w.heap.size,3,none⟩=some (.slice a1 x.kids.length c1)∧w3.cell? ⟨w.heap.size,4,none⟩=some (.slice a2 x.names.length c2):=by refine⟨?_,?_,?_,?_,?_⟩<;>(rw[Lib.cell_of_heap hL3];rfl)
  have hL4:(w3.alloc (.cells #[.int .i64 x.kind,.int .i64 x.num,.string (mkB x.text),.slice a1 x.kids.length c1,.slice a2 x.names.length c2,.int .i64 y.kind,.int .i64 y.num,.string (mkB y.text),.slice b1 y.kids.length d1,.slice b2 y.names.length d2] 162)).heap[w.heap.size]? =some (.cells #[.int .i64 x.kind,.int .i64 x.num,.string (mkB x.text),.slice a1 x.kids.length c1,.slice a2 x.names.length c2] 162 (0,0)):=(heap_al w3 _ _ (Array.getElem?_eq_some_iff.1 hL3).1).trans hL3
  have hS4:(w3.alloc (.cells #[.int .i64 x.kind,.int .i64 x.num,.string (mkB x.text),.slice a1 x.kids.length c1,.slice a2 x.names.length c2,.int .i64 y.kind,.int .i64 y.num,.string (mkB y.text),.slice b1 y.kids.length d1,.slice b2 y.names.length d2] 162)).cell? ⟨w.heap.size,0,none⟩=some (.int .i64 x.kind)∧(w3.alloc (.cells #[.int .i64 x.kind,.int .i64 x.num,.string (mkB x.text),.slice a1 x.kids.length c1,.slice a2 x.names.length c2,.int .i64 y.kind,.int .i64 y.num,.string (mkB y.text),.slice b1 y.kids.length d1,.slice b2 y.names.length d2] 162)).cell? ⟨w.heap.size,1,none⟩=some (.int .i64 x.num)∧(w3.alloc (.cells #[.int .i64 x.kind,.int .i64 x.num,.string (mkB x.text),.slice a1 x.kids.length c1,.slice a2 x.names.length c2,.int .i64 y.kind,.int .i64 y.num,.string (mkB y.text),.slice b1 y.kids.length d1,.slice b2 y.names.length d2] 162)).cell? ⟨w.heap.size,2,none⟩=some (.string (mkB x.text))∧(w3.alloc (.cells #[.int .i64 x.kind,.int .i64 x.num,.string (mkB x.text),.slice a1 x.kids.length c1,.slice a2 x.names.length c2,.int .i64 y.kind,.int .i64 y.num,.string (mkB y.text),.slice b1 y.kids.length d1,.slice b2 y.names.length d2] 162)).cell? ⟨w.heap.size,3,none⟩=some (.slice a1 x.kids.length c1)∧(w3.alloc (.cells #[.int .i64 x.kind,.int .i64 x.num,.string (mkB x.text),.slice a1 x.kids.length c1,.slice a2 x.names.length c2,.int .i64 y.kind,.int .i64 y.num,.string (mkB y.text),.slice b1 y.kids.length d1,.slice b2 y.names.length d2] 162)).cell? ⟨w.heap.size,4,none⟩=some (.slice a2 x.names.length c2):=by refine⟨?_,?_,?_,?_,?_⟩<;>(rw[Lib.cell_of_heap hL4];rfl)
  obtain⟨y0,y1,y2,y3,y4,f0,f1,f2,f3,f4⟩:=cells5 ((heap_al w3 (.cells #[.int .i64 x.kind,.int .i64 x.num,.string (mkB x.text),.slice a1 x.kids.length c1,.slice a2 x.names.length c2,.int .i64 y.kind,.int .i64 y.num,.string (mkB y.text),.slice b1 y.kids.length d1,.slice b2 y.names.length d2] 162) _ (Array.getElem?_eq_some_iff.1 hR3).1).trans hR3)
  have HY:Hid (ExA w3 (fun g=>w2.drew.heap.size≤g) y [.int .i64 y.kind,.int .i64 y.num,.string (mkB y.text),.slice b1 y.kids.length d1,.slice b2 y.names.length d2]∧PsA P T w3 q∧KP P w2.drew w3∧w3.heap[w.heap.size+1]? =some ez):=⟨hx3,hp3,hk3,hR3⟩
  have hs3:w.heap.size+1<w3.heap.size:=(Array.getElem?_eq_some_iff.1 hR3).1
  have hs2:w.heap.size+1<w2.heap.size:=(Array.getElem?_eq_some_iff.1 HQ.out.2.2.1).1
  have hR4:(w3.alloc (.cells #[.int .i64 x.kind,.int .i64 x.num,.string (mkB x.text),.slice a1 x.kids.length c1,.slice a2 x.names.length c2,.int .i64 y.kind,.int .i64 y.num,.string (mkB y.text),.slice b1 y.kids.length d1,.slice b2 y.names.length d2] 162)).heap[w.heap.size+1]? =some ez:=(heap_al w3 _ _ hs3).trans hR3
  have gF:∀ g,g≠w.heap.size+1→g<w3.heap.size→((w3.alloc (.cells #[.int .i64 x.kind,.int .i64 x.num,.string (mkB x.text),.slice a1 x.kids.length c1,.slice a2 x.names.length c2,.int .i64 y.kind,.int .i64 y.num,.string (mkB y.text),.slice b1 y.kids.length d1,.slice b2 y.names.length d2] 162)).setCells (w.heap.size+1) 0 [.int .i64 14,.int .i64 0,.string (mkB t.text),.slice (some ⟨w3.heap.size,0,none⟩) 2 2,.slice none 0 0]).heap[g]? =w3.heap[g]? :=fun g hg hg2=>(heap_sets _ [.int .i64 14,.int .i64 0,.string (mkB t.text),.slice (some ⟨w3.heap.size,0,none⟩) 2 2,.slice none 0 0] 0 _ g hg).trans (heap_al w3 _ g hg2)
  have gT:((w3.alloc (.cells #[.int .i64 x.kind,.int .i64 x.num,.string (mkB x.text),.slice a1 x.kids.length c1,.slice a2 x.names.length c2,.int .i64 y.kind,.int .i64 y.num,.string (mkB y.text),.slice b1 y.kids.length d1,.slice b2 y.names.length d2] 162)).setCells (w.heap.size+1) 0 [.int .i64 14,.int .i64 0,.string (mkB t.text),.slice (some ⟨w3.heap.size,0,none⟩) 2 2,.slice none 0 0]).heap[w3.heap.size]? =some (.cells #[.int .i64 x.kind,.int .i64 x.num,.string (mkB x.text),.slice a1 x.kids.length c1,.slice a2 x.names.length c2,.int .i64 y.kind,.int .i64 y.num,.string (mkB y.text),.slice b1 y.kids.length d1,.slice b2 y.names.length d2] 162):=(heap_sets _ [.int .i64 14,.int .i64 0,.string (mkB t.text),.slice (some ⟨w3.heap.size,0,none⟩) 2 2,.slice none 0 0] 0 _ _ (by omega)).trans (heap_alloc_new w3 _)
  have hL5:((w3.alloc (.cells #[.int .i64 x.kind,.int .i64 x.num,.string (mkB x.text),.slice a1 x.kids.length c1,.slice a2 x.names.length c2,.int .i64 y.kind,.int .i64 y.num,.string (mkB y.text),.slice b1 y.kids.length d1,.slice b2 y.names.length d2] 162)).setCells (w.heap.size+1) 0 [.int .i64 14,.int .i64 0,.string (mkB t.text),.slice (some ⟨w3.heap.size,0,none⟩) 2 2,.slice none 0 0]).heap[w.heap.size]? =some (.cells #[.int .i64 x.kind,.int .i64 x.num,.string (mkB x.text),.slice a1 x.kids.length c1,.slice a2 x.names.length c2] 162 (0,0)):=(gF _ (by omega) (by omega)).trans hL3
  have hS5:((w3.alloc (.cells #[.int .i64 x.kind,.int .i64 x.num,.string (mkB x.text),.slice a1 x.kids.length c1,.slice a2 x.names.length c2,.int .i64 y.kind,.int .i64 y.num,.string (mkB y.text),.slice b1 y.kids.length d1,.slice b2 y.names.length d2] 162)).setCells (w.heap.size+1) 0 [.int .i64 14,.int .i64 0,.string (mkB t.text),.slice (some ⟨w3.heap.size,0,none⟩) 2 2,.slice none 0 0]).cell? ⟨w.heap.size,0,none⟩=some (.int .i64 x.kind)∧((w3.alloc (.cells #[.int .i64 x.kind,.int .i64 x.num,.string (mkB x.text),.slice a1 x.kids.length c1,.slice a2 x.names.length c2,.int .i64 y.kind,.int .i64 y.num,.string (mkB y.text),.slice b1 y.kids.length d1,.slice b2 y.names.length d2] 162)).setCells (w.heap.size+1) 0 [.int .i64 14,.int .i64 0,.string (mkB t.text),.slice (some ⟨w3.heap.size,0,none⟩) 2 2,.slice none 0 0]).cell? ⟨w.heap.size,1,none⟩=some (.int .i64 x.num)∧((w3.alloc (.cells #[.int .i64 x.kind,.int .i64 x.num,.string (mkB x.text),.slice a1 x.kids.length c1,.slice a2 x.names.length c2,.int .i64 y.kind,.int .i64 y.num,.string (mkB y.text),.slice b1 y.kids.length d1,.slice b2 y.names.length d2] 162)).setCells (w.heap.size+1) 0 [.int .i64 14,.int .i64 0,.string (mkB t.text),.slice (some ⟨w3.heap.size,0,none⟩) 2 2,.slice none 0 0]).cell? ⟨w.heap.size,2,none⟩=some (.string (mkB x.text))∧((w3.alloc (.cells #[.int .i64 x.kind,.int .i64 x.num,.string (mkB x.text),.slice a1 x.kids.length c1,.slice a2 x.names.length c2,.int .i64 y.kind,.int .i64 y.num,.string (mkB y.text),.slice b1 y.kids.length d1,.slice b2 y.names.length d2] 162)).setCells (w.heap.size+1) 0 [.int .i64 14,.int .i64 0,.string (mkB t.text),.slice (some ⟨w3.heap.size,0,none⟩) 2 2,.slice none 0 0]).cell? ⟨w.heap.size,3,none⟩=some (.slice a1 x.kids.length c1)∧((w3.alloc (.cells #[.int .i64 x.kind,.int .i64 x.num,.string (mkB x.text),.slice a1 x.kids.length c1,.slice a2 x.names.length c2,.int .i64 y.kind,.int .i64 y.num,.string (mkB y.text),.slice b1 y.kids.length d1,.slice b2 y.names.length d2] 162)).setCells (w.heap.size+1) 0 [.int .i64 14,.int .i64 0,.string (mkB t.text),.slice (some ⟨w3.heap.size,0,none⟩) 2 2,.slice none 0 0]).cell? ⟨w.heap.size,4,none⟩=some (.slice a2 x.names.length c2):=by refine⟨?_,?_,?_,?_,?_⟩<;>(rw[Lib.cell_of_heap hL5];rfl)
  have hl0:=(stN hR4 (c:=[.int .i64 14,.int .i64 0,.string (mkB t.text),.slice (some ⟨w3.heap.size,0,none⟩) 2 2,.slice none 0 0]) rfl szE (by simp[Value.oneCell']) Tryz.underlying162 rfl).2
  rw[sets5]at hl0
  have HL:Hid _:=hl0
  have hxF:ExA ((w3.alloc (.cells #[.int .i64 x.kind,.int .i64 x.num,.string (mkB x.text),.slice a1 x.kids.length c1,.slice a2 x.names.length c2,.int .i64 y.kind,.int .i64 y.num,.string (mkB y.text),.slice b1 y.kids.length d1,.slice b2 y.names.length d2] 162)).setCells (w.heap.size+1) 0 [.int .i64 14,.int .i64 0,.string (mkB t.text),.slice (some ⟨w3.heap.size,0,none⟩) 2 2,.slice none 0 0]) (fun g=>S g∨w.heap.size≤g) x [.int .i64 x.kind,.int .i64 x.num,.string (mkB x.text),.slice a1 x.kids.length c1,.slice a2 x.names.length c2]:=HX.out.1.keep (fun g hg hg2=>(gF g (by omega) (by omega)).trans ((hk3.blk g (by show g<w2.heap.size;omega) (HX.out.2 g hg)).trans (HQ.out.2.1.blk g hg2 (HX.out.2 g hg)))) (fun g hg _=>.inl hg)
  have hyF:ExA ((w3.alloc (.cells #[.int .i64 x.kind,.int .i64 x.num,.string (mkB x.text),.slice a1 x.kids.length c1,.slice a2 x.names.length c2,.int .i64 y.kind,.int .i64 y.num,.string (mkB y.text),.slice b1 y.kids.length d1,.slice b2 y.names.length d2] 162)).setCells (w.heap.size+1) 0 [.int .i64 14,.int .i64 0,.string (mkB t.text),.slice (some ⟨w3.heap.size,0,none⟩) 2 2,.slice none 0 0]) (fun g=>S g∨w.heap.size≤g) y [.int .i64 y.kind,.int .i64 y.num,.string (mkB y.text),.slice b1 y.kids.length d1,.slice b2 y.names.length d2]:=hx3.keep (fun g hg hg2=>gF g (by have:w2.heap.size≤g:=hg;omega) hg2) (fun g hg _=>.inr (by have:w2.heap.size≤g:=hg;omega))
  have hKF:KP P w ((w3.alloc (.cells #[.int .i64 x.kind,.int .i64 x.num,.string (mkB x.text),.slice a1 x.kids.length c1,.slice a2 x.names.length c2,.int .i64 y.kind,.int .i64 y.num,.string (mkB y.text),.slice b1 y.kids.length d1,.slice b2 y.names.length d2] 162)).setCells (w.heap.size+1) 0 [.int .i64 14,.int .i64 0,.string (mkB t.text),.slice (some ⟨w3.heap.size,0,none⟩) 2 2,.slice none 0 0]):=((HQ.out.2.1.drew.trans hk3).trans (KP.of_below (alB w3 _))).sets (Nat.le_succ _) _
  have hPF:PsA P T ((w3.alloc (.cells #[.int .i64 x.kind,.int .i64 x.num,.string (mkB x.text),.slice a1 x.kids.length c1,.slice a2 x.names.length c2,.int .i64 y.kind,.int .i64 y.num,.string (mkB y.text),.slice b1 y.kids.length d1,.slice b2 y.names.length d2] 162)).setCells (w.heap.size+1) 0 [.int .i64 14,.int .i64 0,.string (mkB t.text),.slice (some ⟨w3.heap.size,0,none⟩) 2 2,.slice none 0 0]) q:=hp3.keep (gF P (by omega) (by omega)) (gF T (by omega) (by omega))
  have he0:PoA P T (fun W y v=>∃ c',v= .agg c'.toArray∧ExA W (fun g=>S g∨w.heap.size≤g) y c') w (.ok ((⟨14,0,t.text,[x,y],[]⟩:Ex),q)) (.returned (.agg ([.int .i64 14,.int .i64 0,.string (mkB t.text),.slice (some ⟨w3.heap.size,0,none⟩) 2 2,.slice none 0 0]).toArray)) ((w3.alloc (.cells #[.int .i64 x.kind,.int .i64 x.num,.string (mkB x.text),.slice a1 x.kids.length c1,.slice a2 x.names.length c2,.int .i64 y.kind,.int .i64 y.num,.string (mkB y.text),.slice b1 y.kids.length d1,.slice b2 y.names.length d2] 162)).setCells (w.heap.size+1) 0 [.int .i64 14,.int .i64 0,.string (mkB t.text),.slice (some ⟨w3.heap.size,0,none⟩) 2 2,.slice none 0 0]):=⟨_,rfl,⟨_,rfl,ExA.make (x:=⟨14,0,t.text,[x,y],[]⟩) (vs:=[[.int .i64 x.kind,.int .i64 x.num,.string (mkB x.text),.slice a1 x.kids.length c1,.slice a2 x.names.length c2],[.int .i64 y.kind,.int .i64 y.num,.string (mkB y.text),.slice b1 y.kids.length d1,.slice b2 y.names.length d2]]) ⟨rfl,.inr ⟨w3.heap.size,2,_,rfl,Nat.zero_le _,gT,Nat.le_refl _,by decide,rfl,rfl⟩⟩ (World.ownsRow_nil _ _ _ _) (fun g hg=>.inr (ob_le hg (by omega))) (fun g hg=>by cases hg) ⟨hxF,hyF,trivial⟩⟩,hPF,hKF⟩
  rw[sets5]at he0
  have HE:Hid _:=he0
  clear hl0 he0
  clear hx3 hp3 hk3 hR3 hL3 hL4 hs3 hs2 hR4 gF gT hL5 hxF hyF hKF hPF
  refine hK.out _ _ hS3 (fun hHeld=>?_)
  clear hK K
  try simp only[Act.put,List.setIfInBounds_toArray,List.set_cons_zero,List.set_cons_succ]
  refine wpAnyH_ready (rs:=[4]) (by kernel_rfl) (by simp) (AllReadyH.cons rfl (fun K hK=>?_) AllReadyH.nil)
  go_simp
  refine hK.out _ _ hS4 (fun hHeld=>?_)
  clear hK K
  try simp only[Act.put,List.setIfInBounds_toArray,List.set_cons_zero,List.set_cons_succ]
  refine wpAnyH_take (i:=5) (v:= .agg #[.int .i64 14,.int .i64 0,.string (mkB t.text),.slice (some ⟨w3.heap.size,0,none⟩) 2 2,.slice none 0 0]) rfl (by kernel_rfl) (by kernel_rfl) (by kernel_rfl) (fun _ _ _ h=>h) (Or.inl ⟨by rfl,?_⟩) (by assumption) ?_
  ·intro V hSV
   try dsimp only at hSV
   go_simp
   try with_reducible rfl
  try simp only[Act.put,List.setIfInBounds_toArray,List.set_cons_zero,List.set_cons_succ]
  refine wpAnyH_ready (rs:=[6]) (by kernel_rfl) (by simp) (AllReadyH.cons rfl (fun K hK=>?_) AllReadyH.nil)
  go_simp
  refine hK.out _ _ hS5 (fun hHeld=>?_)
  clear hK K
  refine wpAnyH_done (by kernel_rfl) ?_ _
  try simp only[Act.put,List.setIfInBounds_toArray,List.set_cons_zero,List.set_cons_succ]
  go_wp2
  refine bodyPost_ret (v:=Value.agg #[Value.int IntKind.i64 14,Value.int IntKind.i64 0,Value.string (mkB t.text),Value.slice (some ⟨w3.heap.size,0,none⟩) 2 2,Value.slice none 0 0]) (res_one Tryz.results301 _ _ rfl HL.out) rfl HE.out
end Go.Proofs.YthfgpkdbclogpaaGreatDoor
