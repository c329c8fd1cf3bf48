/- 11. -/
import Derived.Deep.RegionHeld3
import Derived.Shelf.Strconv.Itoa3
import Derived.Test.YtcaeeackccgclaaGreatDoorChecked
import Derived.Test.YtcaeeackccgclaaGreatDoorTx10
set_option maxHeartbeats 40000000
set_option maxRecDepth 100000
namespace Go.Proofs.YtcaeeackccgclaaGreatDoor
open Go.RowKit Go.Shelf
attribute [local go_sem ↓] fld0 fld1 fld2 fld3
theorem isS_self {t:Tk}{l:List (List UInt8)}(h:isS t l=true):isS t [t.text]=true:=by
 unfold isS at *
 simp at *
 exact h.1
theorem ExA.form {w:World}{S:Nat→Prop}{x:Ex}{c:List Value}(h:ExA w S x c):∃ a1 c1 a2 c2,c=[.int .i64 x.kind,.int .i64 x.num,.string (mkB x.text),.slice a1 x.kids.length c1,.slice a2 x.names.length c2]:=by
 obtain⟨kv,nv,vs,rfl,h1,h2,_⟩:=h.open
 obtain⟨a1,c1,rfl⟩:=row_shape h1
 obtain⟨a2,c2,rfl⟩:=row_shape h2
 exact⟨a1,c1,a2,c2,rfl⟩
theorem keepLR {P:Nat}{w W:World}{o1 o2:Obj}(hPl:P<w.heap.size)(hk:∀ g,g<((w.alloc o1).alloc o2).heap.size→g≠P→W.heap[g]? =((w.alloc o1).alloc o2).heap[g]?):W.heap[w.heap.size]? =some o1∧W.heap[w.heap.size+1]? =some o2:=by
 have s1:(w.alloc o1).heap.size=w.heap.size+1:=World.size_alloc _ _
 have s2:((w.alloc o1).alloc o2).heap.size=w.heap.size+1+1:=by rw[World.size_alloc,s1]
 refine⟨(hk _ (by omega) (by omega)).trans ((heap_al _ _ _ (by omega)).trans (heap_alloc_new w _)),(hk _ (by omega) (by omega)).trans ?_⟩
 rw[←s1]
 exact heap_alloc_new _ _
theorem ob_le {b g o n c k:Nat}(h:(Value.slice (some ⟨b,o,none⟩) n c).ownBlock=some g)(hk:k≤b):k≤g:=by
 have h7:b=g:=by simpa[Value.ownBlock]using h
 omega
theorem sets5 (w:World)(b:Nat)(v0 v1 v2 v3 v4:Value):w.setCells b 0 [v0,v1,v2,v3,v4]=((((w.setCell ⟨b,0,none⟩ v0).setCell ⟨b,1,none⟩ v1).setCell ⟨b,2,none⟩ v2).setCell ⟨b,3,none⟩ v3).setCell ⟨b,4,none⟩ v4:=rfl
theorem cells5 {w:World}{R:Nat}(h:w.heap[R]? =some ez):w.cell? ⟨R,0,none⟩=some (.int .i64 0)∧w.cell? ⟨R,1,none⟩=some (.int .i64 0)∧w.cell? ⟨R,2,none⟩=some (.string ⟨#[]⟩)∧w.cell? ⟨R,3,none⟩=some (.slice none 0 0)∧w.cell? ⟨R,4,none⟩=some (.slice none 0 0)∧w.frozen? ⟨R,0,none⟩=false∧w.frozen? ⟨R,1,none⟩=false∧w.frozen? ⟨R,2,none⟩=false∧w.frozen? ⟨R,3,none⟩=false∧w.frozen? ⟨R,4,none⟩=false:=by
 refine⟨?_,?_,?_,?_,?_,Lib.frozen_of_heap h 0,Lib.frozen_of_heap h 1,Lib.frozen_of_heap h 2,Lib.frozen_of_heap h 3,Lib.frozen_of_heap h 4⟩<;>(rw[Lib.cell_of_heap h];rfl)
set_option linter.unusedSimpArgs false in
theorem pair_any {P T F:Nat}{caps:Array Value}{w:World}{p:Ps}{m:Ps→Px Ex}(h:PsA P T w p)(hm:PartC P T F caps w m){l:List (List UInt8)}(hl:p.sees l=true){S:Nat→Prop}{x:Ex}{c:List Value}(hx:ExA w S x c)(hS:∀ g,S g→g≠P){z:Except Ft (Ex×Ps)}(hz:(bnd (m p.adv) fun y q=>ok ⟨14,0,p.nx.text,[x,y],[]⟩ q)=some z):
  Calls Tryz.prog 126 #[pt P,.agg c.toArray,.func (.func F) #[] caps] w (PoA P T (fun W y v=>∃ c',v= .agg c'.toArray∧ExA W (fun g=>S g∨w.heap.size≤g) y c') w z):=by
 obtain⟨a1,c1,a2,c2,hc⟩:=hx.form
 subst hc
 have hPl:=h.lt
 have hTl:=h.ltT
 have hent:=hm.1
 obtain⟨t,r,hp⟩:=sees_cons hl
 have hnx:=adv_of hp
 have hts:tkS t.text p=some (.ok ((),p.adv)):=by
  unfold tkS
  rw[show p.sees [t.text]=true from by unfold Ps.sees at *;rw[hnx]at hl;rw[hnx];exact isS_self hl]
  rfl
 have hW:PsA P T ((w.alloc (.cells #[.int .i64 x.kind,.int .i64 x.num,.string (mkB x.text),.slice a1 x.kids.length c1,.slice a2 x.names.length c2] 38)).alloc ez) p:=(h.up (alB _ _)).up (alB _ _)
 have hkW:KP P w ((w.alloc (.cells #[.int .i64 x.kind,.int .i64 x.num,.string (mkB x.text),.slice a1 x.kids.length c1,.slice a2 x.names.length c2] 38)).alloc ez):=(KP.of_below (alB _ _)).trans (KP.of_below (alB _ _))
 have HN:=next_any hW
 rw[hnx]at HN hz
 have HT:Hid (∀ V,PsA P T V p→Calls Tryz.prog 69 #[pt P,.string (mkB t.text)] V (PoA P T (fun _ _ v=>v= .tuple #[]) V (.ok ((),p.adv)))):=fun V hV=>takeSign_any hV t.text hts
 have HC:Hid (∀ V z',KP P w V→PsA P T V p.adv→m p.adv=some z'→Calls Tryz.prog F caps V (PoA P T (VE V.heap.size) V z')):=fun V z' hk hV hz'=>hm.2 V _ z' hk hV hz'
 rcases bnd_some hz with⟨y,hy,rfl⟩|⟨y,q,hy,hq⟩
 ·go_enter Tryz.func126,Tryz.ntmps126
  go_wp2_with fail
  refine HN.mono ?_
  rintro e w1 ⟨rfl,hb1⟩
  have h1:=hW.up hb1
  have HT1:=HT.out w1 h1
  go_wp2_with fail
  refine HT1.mono ?_
  rintro e w2 ⟨v,rfl,rfl,h2,hk2⟩
  have hkw2:KP P w w2:=(hkW.trans (KP.of_below hb1)).trans hk2
  obtain⟨hL2,hR2⟩:=keepLR hPl (fun g hg hne=>(hk2.blk g (Nat.lt_of_lt_of_le hg hb1.size) hne).trans (hb1.block g hg))
  have x0:w2.cell? ⟨w.heap.size,0,none⟩=some (.int .i64 x.kind):=by rw[Lib.cell_of_heap hL2];rfl
  have x1:w2.cell? ⟨w.heap.size,1,none⟩=some (.int .i64 x.num):=by rw[Lib.cell_of_heap hL2];rfl
  have x2:w2.cell? ⟨w.heap.size,2,none⟩=some (.string (mkB x.text)):=by rw[Lib.cell_of_heap hL2];rfl
  have x3:w2.cell? ⟨w.heap.size,3,none⟩=some (.slice a1 x.kids.length c1):=by rw[Lib.cell_of_heap hL2];rfl
  have x4:w2.cell? ⟨w.heap.size,4,none⟩=some (.slice a2 x.names.length c2):=by rw[Lib.cell_of_heap hL2];rfl
  have HQ:Hid (PsA P T w2 p.adv∧KP P w w2):=⟨h2,hkw2⟩
  clear h2 hkw2 hk2 h1 hb1 hL2 hR2 HT1
  have HS:Hid (w2.drew.cell? ⟨w.heap.size,0,none⟩=some (.int .i64 x.kind)∧w2.drew.cell? ⟨w.heap.size,1,none⟩=some (.int .i64 x.num)∧w2.drew.cell? ⟨w.heap.size,2,none⟩=some (.string (mkB x.text))∧w2.drew.cell? ⟨w.heap.size,3,none⟩=some (.slice a1 x.kids.length c1)∧w2.drew.cell? ⟨w.heap.size,4,none⟩=some (.slice a2 x.names.length c2)):=⟨x0,x1,x2,x3,x4⟩
  go_wp2_with fail
  refine wp_region_held_drew (S:=fun V=>V.cell? ⟨w.heap.size,0,none⟩=some (.int .i64 x.kind)∧V.cell? ⟨w.heap.size,1,none⟩=some (.int .i64 x.num)∧V.cell? ⟨w.heap.size,2,none⟩=some (.string (mkB x.text))∧V.cell? ⟨w.heap.size,3,none⟩=some (.slice a1 x.kids.length c1)∧V.cell? ⟨w.heap.size,4,none⟩=some (.slice a2 x.names.length c2)) (by kernel_rfl) HS.out (fun hHeld=>?_)
  refine wpAnyH_take (i:=0) (v:= .string (mkB t.text)) rfl (by kernel_rfl) (by kernel_rfl) (by kernel_rfl) (fun _ _ _ h=>h) (Or.inl ⟨by rfl,?_⟩) (by assumption) ?_
  ·intro V hSV
   try dsimp only at hSV
   go_simp
   try with_reducible rfl
  try simp only[Act.put,List.setIfInBounds_toArray,List.set_cons_zero,List.set_cons_succ]
  refine wpAnyH_take (i:=1) (v:= .agg #[.int .i64 x.kind,.int .i64 x.num,.string (mkB x.text),.slice a1 x.kids.length c1,.slice a2 x.names.length c2]) rfl (by kernel_rfl) (by kernel_rfl) (by kernel_rfl) (fun _ _ _ h=>h) (Or.inl ⟨by rfl,?_⟩) (by assumption) ?_
  ·intro V hSV
   try dsimp only at hSV
   go_simp
   try with_reducible rfl
  try simp only[Act.put,List.setIfInBounds_toArray,List.set_cons_zero,List.set_cons_succ]
  refine wpAnyH_take (i:=2) (v:= .func (.func F) #[] caps) rfl (by kernel_rfl) (by kernel_rfl) (by kernel_rfl) (fun _ _ _ h=>h) (Or.inl ⟨by rfl,?_⟩) (by assumption) ?_
  ·intro V hSV
   try dsimp only at hSV
   go_simp
   try with_reducible rfl
  try simp only[Act.put,List.setIfInBounds_toArray,List.set_cons_zero,List.set_cons_succ]
  refine wpAnyH_ready (rs:=[3]) (by kernel_rfl) (by simp) (AllReadyH.cons rfl (fun K hK=>?_) AllReadyH.nil)
  go_simp
  refine(HC.out w2.drew _ HQ.out.2.drew (HQ.out.1.drewN 1) hy).mono ?_
  rintro e w3 hpo
  obtain⟨rfl,hk3⟩:=bad_panic hpo HQ.out.2.drew
  exact⟨rfl,rfl,hk3⟩
 ·cases hq
  go_enter Tryz.func126,Tryz.ntmps126
  go_wp2_with fail
  refine HN.mono ?_
  rintro e w1 ⟨rfl,hb1⟩
  have h1:=hW.up hb1
  have HT1:=HT.out w1 h1
  go_wp2_with fail
  refine HT1.mono ?_
  rintro e w2 ⟨v,rfl,rfl,h2,hk2⟩
  have hkw2:KP P w w2:=(hkW.trans (KP.of_below hb1)).trans hk2
  obtain⟨hL2,hR2⟩:=keepLR hPl (fun g hg hne=>(hk2.blk g (Nat.lt_of_lt_of_le hg hb1.size) hne).trans (hb1.block g hg))
  have x0:w2.cell? ⟨w.heap.size,0,none⟩=some (.int .i64 x.kind):=by rw[Lib.cell_of_heap hL2];rfl
  have x1:w2.cell? ⟨w.heap.size,1,none⟩=some (.int .i64 x.num):=by rw[Lib.cell_of_heap hL2];rfl
  have x2:w2.cell? ⟨w.heap.size,2,none⟩=some (.string (mkB x.text)):=by rw[Lib.cell_of_heap hL2];rfl
  have x3:w2.cell? ⟨w.heap.size,3,none⟩=some (.slice a1 x.kids.length c1):=by rw[Lib.cell_of_heap hL2];rfl
  have x4:w2.cell? ⟨w.heap.size,4,none⟩=some (.slice a2 x.names.length c2):=by rw[Lib.cell_of_heap hL2];rfl
  have HQ:Hid (PsA P T w2 p.adv∧KP P w w2∧w2.heap[w.heap.size+1]? =some ez∧w2.heap[w.heap.size]? =some (.cells #[.int .i64 x.kind,.int .i64 x.num,.string (mkB x.text),.slice a1 x.kids.length c1,.slice a2 x.names.length c2] 38 (0,0))):=⟨h2,hkw2,hR2,hL2⟩
  have HX:Hid (ExA w S x [.int .i64 x.kind,.int .i64 x.num,.string (mkB x.text),.slice a1 x.kids.length c1,.slice a2 x.names.length c2]∧(∀ g,S g→g≠P)):=⟨hx,hS⟩
  clear h2 hkw2 hk2 h1 hb1 hL2 hR2 HT1 h hm hl hx hS hz HN hW hkW hp hnx hts
  have HS:Hid (w2.drew.cell? ⟨w.heap.size,0,none⟩=some (.int .i64 x.kind)∧w2.drew.cell? ⟨w.heap.size,1,none⟩=some (.int .i64 x.num)∧w2.drew.cell? ⟨w.heap.size,2,none⟩=some (.string (mkB x.text))∧w2.drew.cell? ⟨w.heap.size,3,none⟩=some (.slice a1 x.kids.length c1)∧w2.drew.cell? ⟨w.heap.size,4,none⟩=some (.slice a2 x.names.length c2)):=⟨x0,x1,x2,x3,x4⟩
  go_wp2_with fail
  refine wp_region_held_drew (S:=fun V=>V.cell? ⟨w.heap.size,0,none⟩=some (.int .i64 x.kind)∧V.cell? ⟨w.heap.size,1,none⟩=some (.int .i64 x.num)∧V.cell? ⟨w.heap.size,2,none⟩=some (.string (mkB x.text))∧V.cell? ⟨w.heap.size,3,none⟩=some (.slice a1 x.kids.length c1)∧V.cell? ⟨w.heap.size,4,none⟩=some (.slice a2 x.names.length c2)) (by kernel_rfl) HS.out (fun hHeld=>?_)
  refine wpAnyH_take (i:=0) (v:= .string (mkB t.text)) rfl (by kernel_rfl) (by kernel_rfl) (by kernel_rfl) (fun _ _ _ h=>h) (Or.inl ⟨by rfl,?_⟩) (by assumption) ?_
  ·intro V hSV
   try dsimp only at hSV
   go_simp
   try with_reducible rfl
  try simp only[Act.put,List.setIfInBounds_toArray,List.set_cons_zero,List.set_cons_succ]
  refine wpAnyH_take (i:=1) (v:= .agg #[.int .i64 x.kind,.int .i64 x.num,.string (mkB x.text),.slice a1 x.kids.length c1,.slice a2 x.names.length c2]) rfl (by kernel_rfl) (by kernel_rfl) (by kernel_rfl) (fun _ _ _ h=>h) (Or.inl ⟨by rfl,?_⟩) (by assumption) ?_
  ·intro V hSV
   try dsimp only at hSV
   go_simp
   try with_reducible rfl
  try simp only[Act.put,List.setIfInBounds_toArray,List.set_cons_zero,List.set_cons_succ]
  refine wpAnyH_take (i:=2) (v:= .func (.func F) #[] caps) rfl (by kernel_rfl) (by kernel_rfl) (by kernel_rfl) (fun _ _ _ h=>h) (Or.inl ⟨by rfl,?_⟩) (by assumption) ?_
  ·intro V hSV
   try dsimp only at hSV
   go_simp
   try with_reducible rfl
  try simp only[Act.put,List.setIfInBounds_toArray,List.set_cons_zero,List.set_cons_succ]
  refine wpAnyH_ready (rs:=[3]) (by kernel_rfl) (by simp) (AllReadyH.cons rfl (fun K hK=>?_) AllReadyH.nil)
  go_simp
  refine(HC.out w2.drew _ HQ.out.2.1.drew (HQ.out.1.drewN 1) hy).mono ?_
  rintro e w3 ⟨v,rfl,⟨c',rfl,hx3⟩,hp3,hk3⟩
  obtain⟨b1,d1,b2,d2,hc3⟩:=hx3.form
  subst hc3
  have hL3:w3.heap[w.heap.size]? =some (.cells #[.int .i64 x.kind,.int .i64 x.num,.string (mkB x.text),.slice a1 x.kids.length c1,.slice a2 x.names.length c2] 38 (0,0)):=(hk3.blk _ (Array.getElem?_eq_some_iff.1 HQ.out.2.2.2).1 (by omega)).trans HQ.out.2.2.2
  have hR3:w3.heap[w.heap.size+1]? =some ez:=(hk3.blk _ (Array.getElem?_eq_some_iff.1 HQ.out.2.2.1).1 (by omega)).trans HQ.out.2.2.1
  have hS3:w3.cell? ⟨w.heap.size,0,none⟩=some (.int .i64 x.kind)∧w3.cell? ⟨w.heap.size,1,none⟩=some (.int .i64 x.num)∧w3.cell? ⟨w.heap.size,2,none⟩=some (.string (mkB x.text))∧w3.cell? ⟨w.heap.size,3,none⟩=some (.slice a1 x.kids.length c1)∧w3.cell? ⟨w.heap.size,4,none⟩=some (.slice a2 x.names.length c2):=by refine⟨?_,?_,?_,?_,?_⟩<;>(rw[Lib.cell_of_heap hL3];rfl)
  have hL4:(w3.alloc (.cells #[.int .i64 x.kind,.int .i64 x.num,.string (mkB x.text),.slice a1 x.kids.length c1,.slice a2 x.names.length c2,.int .i64 y.kind,.int .i64 y.num,.string (mkB y.text),.slice b1 y.kids.length d1,.slice b2 y.names.length d2] 38)).heap[w.heap.size]? =some (.cells #[.int .i64 x.kind,.int .i64 x.num,.string (mkB x.text),.slice a1 x.kids.length c1,.slice a2 x.names.length c2] 38 (0,0)):=(heap_al w3 _ _ (Array.getElem?_eq_some_iff.1 hL3).1).trans hL3
  have hS4:(w3.alloc (.cells #[.int .i64 x.kind,.int .i64 x.num,.string (mkB x.text),.slice a1 x.kids.length c1,.slice a2 x.names.length c2,.int .i64 y.kind,.int .i64 y.num,.string (mkB y.text),.slice b1 y.kids.length d1,.slice b2 y.names.length d2] 38)).cell? ⟨w.heap.size,0,none⟩=some (.int .i64 x.kind)∧(w3.alloc (.cells #[.int .i64 x.kind,.int .i64 x.num,.string (mkB x.text),.slice a1 x.kids.length c1,.slice a2 x.names.length c2,.int .i64 y.kind,.int .i64 y.num,.string (mkB y.text),.slice b1 y.kids.length d1,.slice b2 y.names.length d2] 38)).cell? ⟨w.heap.size,1,none⟩=some (.int .i64 x.num)∧(w3.alloc (.cells #[.int .i64 x.kind,.int .i64 x.num,.string (mkB x.text),.slice a1 x.kids.length c1,.slice a2 x.names.length c2,.int .i64 y.kind,.int .i64 y.num,.string (mkB y.text),.slice b1 y.kids.length d1,.slice b2 y.names.length d2] 38)).cell? ⟨w.heap.size,2,none⟩=some (.string (mkB x.text))∧(w3.alloc (.cells #[.int .i64 x.kind,.int .i64 x.num,.string (mkB x.text),.slice a1 x.kids.length c1,.slice a2 x.names.length c2,.int .i64 y.kind,.int .i64 y.num,.string (mkB y.text),.slice b1 y.kids.length d1,.slice b2 y.names.length d2] 38)).cell? ⟨w.heap.size,3,none⟩=some (.slice a1 x.kids.length c1)∧(w3.alloc (.cells #[.int .i64 x.kind,.int .i64 x.num,.string (mkB x.text),.slice a1 x.kids.length c1,.slice a2 x.names.length c2,.int .i64 y.kind,.int .i64 y.num,.string (mkB y.text),.slice b1 y.kids.length d1,.slice b2 y.names.length d2] 38)).cell? ⟨w.heap.size,4,none⟩=some (.slice a2 x.names.length c2):=by refine⟨?_,?_,?_,?_,?_⟩<;>(rw[Lib.cell_of_heap hL4];rfl)
  obtain⟨y0,y1,y2,y3,y4,f0,f1,f2,f3,f4⟩:=cells5 ((heap_al w3 (.cells #[.int .i64 x.kind,.int .i64 x.num,.string (mkB x.text),.slice a1 x.kids.length c1,.slice a2 x.names.length c2,.int .i64 y.kind,.int .i64 y.num,.string (mkB y.text),.slice b1 y.kids.length d1,.slice b2 y.names.length d2] 38) _ (Array.getElem?_eq_some_iff.1 hR3).1).trans hR3)
  have HY:Hid (ExA w3 (fun g=>w2.drew.heap.size≤g) y [.int .i64 y.kind,.int .i64 y.num,.string (mkB y.text),.slice b1 y.kids.length d1,.slice b2 y.names.length d2]∧PsA P T w3 q∧KP P w2.drew w3∧w3.heap[w.heap.size+1]? =some ez):=⟨hx3,hp3,hk3,hR3⟩
  have hs3:w.heap.size+1<w3.heap.size:=(Array.getElem?_eq_some_iff.1 hR3).1
  have hs2:w.heap.size+1<w2.heap.size:=(Array.getElem?_eq_some_iff.1 HQ.out.2.2.1).1
  have hR4:(w3.alloc (.cells #[.int .i64 x.kind,.int .i64 x.num,.string (mkB x.text),.slice a1 x.kids.length c1,.slice a2 x.names.length c2,.int .i64 y.kind,.int .i64 y.num,.string (mkB y.text),.slice b1 y.kids.length d1,.slice b2 y.names.length d2] 38)).heap[w.heap.size+1]? =some ez:=(heap_al w3 _ _ hs3).trans hR3
  have gF:∀ g,g≠w.heap.size+1→g<w3.heap.size→((w3.alloc (.cells #[.int .i64 x.kind,.int .i64 x.num,.string (mkB x.text),.slice a1 x.kids.length c1,.slice a2 x.names.length c2,.int .i64 y.kind,.int .i64 y.num,.string (mkB y.text),.slice b1 y.kids.length d1,.slice b2 y.names.length d2] 38)).setCells (w.heap.size+1) 0 [.int .i64 14,.int .i64 0,.string (mkB t.text),.slice (some ⟨w3.heap.size,0,none⟩) 2 2,.slice none 0 0]).heap[g]? =w3.heap[g]? :=fun g hg hg2=>(heap_sets _ [.int .i64 14,.int .i64 0,.string (mkB t.text),.slice (some ⟨w3.heap.size,0,none⟩) 2 2,.slice none 0 0] 0 _ g hg).trans (heap_al w3 _ g hg2)
  have gT:((w3.alloc (.cells #[.int .i64 x.kind,.int .i64 x.num,.string (mkB x.text),.slice a1 x.kids.length c1,.slice a2 x.names.length c2,.int .i64 y.kind,.int .i64 y.num,.string (mkB y.text),.slice b1 y.kids.length d1,.slice b2 y.names.length d2] 38)).setCells (w.heap.size+1) 0 [.int .i64 14,.int .i64 0,.string (mkB t.text),.slice (some ⟨w3.heap.size,0,none⟩) 2 2,.slice none 0 0]).heap[w3.heap.size]? =some (.cells #[.int .i64 x.kind,.int .i64 x.num,.string (mkB x.text),.slice a1 x.kids.length c1,.slice a2 x.names.length c2,.int .i64 y.kind,.int .i64 y.num,.string (mkB y.text),.slice b1 y.kids.length d1,.slice b2 y.names.length d2] 38):=(heap_sets _ [.int .i64 14,.int .i64 0,.string (mkB t.text),.slice (some ⟨w3.heap.size,0,none⟩) 2 2,.slice none 0 0] 0 _ _ (by omega)).trans (heap_alloc_new w3 _)
  have hL5:((w3.alloc (.cells #[.int .i64 x.kind,.int .i64 x.num,.string (mkB x.text),.slice a1 x.kids.length c1,.slice a2 x.names.length c2,.int .i64 y.kind,.int .i64 y.num,.string (mkB y.text),.slice b1 y.kids.length d1,.slice b2 y.names.length d2] 38)).setCells (w.heap.size+1) 0 [.int .i64 14,.int .i64 0,.string (mkB t.text),.slice (some ⟨w3.heap.size,0,none⟩) 2 2,.slice none 0 0]).heap[w.heap.size]? =some (.cells #[.int .i64 x.kind,.int .i64 x.num,.string (mkB x.text),.slice a1 x.kids.length c1,.slice a2 x.names.length c2] 38 (0,0)):=(gF _ (by omega) (by omega)).trans hL3
  have hS5:((w3.alloc (.cells #[.int .i64 x.kind,.int .i64 x.num,.string (mkB x.text),.slice a1 x.kids.length c1,.slice a2 x.names.length c2,.int .i64 y.kind,.int .i64 y.num,.string (mkB y.text),.slice b1 y.kids.length d1,.slice b2 y.names.length d2] 38)).setCells (w.heap.size+1) 0 [.int .i64 14,.int .i64 0,.string (mkB t.text),.slice (some ⟨w3.heap.size,0,none⟩) 2 2,.slice none 0 0]).cell? ⟨w.heap.size,0,none⟩=some (.int .i64 x.kind)∧((w3.alloc (.cells #[.int .i64 x.kind,.int .i64 x.num,.string (mkB x.text),.slice a1 x.kids.length c1,.slice a2 x.names.length c2,.int .i64 y.kind,.int .i64 y.num,.string (mkB y.text),.slice b1 y.kids.length d1,.slice b2 y.names.length d2] 38)).setCells (w.heap.size+1) 0 [.int .i64 14,.int .i64 0,.string (mkB t.text),.slice (some ⟨w3.heap.size,0,none⟩) 2 2,.slice none 0 0]).cell? ⟨w.heap.size,1,none⟩=some (.int .i64 x.num)∧((w3.alloc (.cells #[.int .i64 x.kind,.int .i64 x.num,.string (mkB x.text),.slice a1 x.kids.length c1,.slice a2 x.names.length c2,.int .i64 y.kind,.int .i64 y.num,.string (mkB y.text),.slice b1 y.kids.length d1,.slice b2 y.names.length d2] 38)).setCells (w.heap.size+1) 0 [.int .i64 14,.int .i64 0,.string (mkB t.text),.slice (some ⟨w3.heap.size,0,none⟩) 2 2,.slice none 0 0]).cell? ⟨w.heap.size,2,none⟩=some (.string (mkB x.text))∧((w3.alloc (.cells #[.int .i64 x.kind,.int .i64 x.num,.string (mkB x.text),.slice a1 x.kids.length c1,.slice a2 x.names.length c2,.int .i64 y.kind,.int .i64 y.num,.string (mkB y.text),.slice b1 y.kids.length d1,.slice b2 y.names.length d2] 38)).setCells (w.heap.size+1) 0 [.int .i64 14,.int .i64 0,.string (mkB t.text),.slice (some ⟨w3.heap.size,0,none⟩) 2 2,.slice none 0 0]).cell? ⟨w.heap.size,3,none⟩=some (.slice a1 x.kids.length c1)∧((w3.alloc (.cells #[.int .i64 x.kind,.int .i64 x.num,.string (mkB x.text),.slice a1 x.kids.length c1,.slice a2 x.names.length c2,.int .i64 y.kind,.int .i64 y.num,.string (mkB y.text),.slice b1 y.kids.length d1,.slice b2 y.names.length d2] 38)).setCells (w.heap.size+1) 0 [.int .i64 14,.int .i64 0,.string (mkB t.text),.slice (some ⟨w3.heap.size,0,none⟩) 2 2,.slice none 0 0]).cell? ⟨w.heap.size,4,none⟩=some (.slice a2 x.names.length c2):=by refine⟨?_,?_,?_,?_,?_⟩<;>(rw[Lib.cell_of_heap hL5];rfl)
  have hl0:=(stN hR4 (c:=[.int .i64 14,.int .i64 0,.string (mkB t.text),.slice (some ⟨w3.heap.size,0,none⟩) 2 2,.slice none 0 0]) rfl szE (by simp[Value.oneCell']) Tryz.underlying38 rfl).2
  rw[sets5]at hl0
  have HL:Hid _:=hl0
  have hxF:ExA ((w3.alloc (.cells #[.int .i64 x.kind,.int .i64 x.num,.string (mkB x.text),.slice a1 x.kids.length c1,.slice a2 x.names.length c2,.int .i64 y.kind,.int .i64 y.num,.string (mkB y.text),.slice b1 y.kids.length d1,.slice b2 y.names.length d2] 38)).setCells (w.heap.size+1) 0 [.int .i64 14,.int .i64 0,.string (mkB t.text),.slice (some ⟨w3.heap.size,0,none⟩) 2 2,.slice none 0 0]) (fun g=>S g∨w.heap.size≤g) x [.int .i64 x.kind,.int .i64 x.num,.string (mkB x.text),.slice a1 x.kids.length c1,.slice a2 x.names.length c2]:=HX.out.1.keep (fun g hg hg2=>(gF g (by omega) (by omega)).trans ((hk3.blk g (by show g<w2.heap.size;omega) (HX.out.2 g hg)).trans (HQ.out.2.1.blk g hg2 (HX.out.2 g hg)))) (fun g hg _=>.inl hg)
  have hyF:ExA ((w3.alloc (.cells #[.int .i64 x.kind,.int .i64 x.num,.string (mkB x.text),.slice a1 x.kids.length c1,.slice a2 x.names.length c2,.int .i64 y.kind,.int .i64 y.num,.string (mkB y.text),.slice b1 y.kids.length d1,.slice b2 y.names.length d2] 38)).setCells (w.heap.size+1) 0 [.int .i64 14,.int .i64 0,.string (mkB t.text),.slice (some ⟨w3.heap.size,0,none⟩) 2 2,.slice none 0 0]) (fun g=>S g∨w.heap.size≤g) y [.int .i64 y.kind,.int .i64 y.num,.string (mkB y.text),.slice b1 y.kids.length d1,.slice b2 y.names.length d2]:=hx3.keep (fun g hg hg2=>gF g (by have:w2.heap.size≤g:=hg;omega) hg2) (fun g hg _=>.inr (by have:w2.heap.size≤g:=hg;omega))
  have hKF:KP P w ((w3.alloc (.cells #[.int .i64 x.kind,.int .i64 x.num,.string (mkB x.text),.slice a1 x.kids.length c1,.slice a2 x.names.length c2,.int .i64 y.kind,.int .i64 y.num,.string (mkB y.text),.slice b1 y.kids.length d1,.slice b2 y.names.length d2] 38)).setCells (w.heap.size+1) 0 [.int .i64 14,.int .i64 0,.string (mkB t.text),.slice (some ⟨w3.heap.size,0,none⟩) 2 2,.slice none 0 0]):=((HQ.out.2.1.drew.trans hk3).trans (KP.of_below (alB w3 _))).sets (Nat.le_succ _) _
  have hPF:PsA P T ((w3.alloc (.cells #[.int .i64 x.kind,.int .i64 x.num,.string (mkB x.text),.slice a1 x.kids.length c1,.slice a2 x.names.length c2,.int .i64 y.kind,.int .i64 y.num,.string (mkB y.text),.slice b1 y.kids.length d1,.slice b2 y.names.length d2] 38)).setCells (w.heap.size+1) 0 [.int .i64 14,.int .i64 0,.string (mkB t.text),.slice (some ⟨w3.heap.size,0,none⟩) 2 2,.slice none 0 0]) q:=hp3.keep (gF P (by omega) (by omega)) (gF T (by omega) (by omega))
  have he0:PoA P T (fun W y v=>∃ c',v= .agg c'.toArray∧ExA W (fun g=>S g∨w.heap.size≤g) y c') w (.ok ((⟨14,0,t.text,[x,y],[]⟩:Ex),q)) (.returned (.agg ([.int .i64 14,.int .i64 0,.string (mkB t.text),.slice (some ⟨w3.heap.size,0,none⟩) 2 2,.slice none 0 0]).toArray)) ((w3.alloc (.cells #[.int .i64 x.kind,.int .i64 x.num,.string (mkB x.text),.slice a1 x.kids.length c1,.slice a2 x.names.length c2,.int .i64 y.kind,.int .i64 y.num,.string (mkB y.text),.slice b1 y.kids.length d1,.slice b2 y.names.length d2] 38)).setCells (w.heap.size+1) 0 [.int .i64 14,.int .i64 0,.string (mkB t.text),.slice (some ⟨w3.heap.size,0,none⟩) 2 2,.slice none 0 0]):=⟨_,rfl,⟨_,rfl,ExA.make (x:=⟨14,0,t.text,[x,y],[]⟩) (vs:=[[.int .i64 x.kind,.int .i64 x.num,.string (mkB x.text),.slice a1 x.kids.length c1,.slice a2 x.names.length c2],[.int .i64 y.kind,.int .i64 y.num,.string (mkB y.text),.slice b1 y.kids.length d1,.slice b2 y.names.length d2]]) ⟨rfl,.inr ⟨w3.heap.size,2,_,rfl,Nat.zero_le _,gT,Nat.le_refl _,by decide,rfl,rfl⟩⟩ (World.ownsRow_nil _ _ _ _) (fun g hg=>.inr (ob_le hg (by omega))) (fun g hg=>by cases hg) ⟨hxF,hyF,trivial⟩⟩,hPF,hKF⟩
  rw[sets5]at he0
  have HE:Hid _:=he0
  clear hl0 he0
  clear hx3 hp3 hk3 hR3 hL3 hL4 hs3 hs2 hR4 gF gT hL5 hxF hyF hKF hPF
  refine hK.out _ _ hS3 (fun hHeld=>?_)
  clear hK K
  try simp only[Act.put,List.setIfInBounds_toArray,List.set_cons_zero,List.set_cons_succ]
  refine wpAnyH_ready (rs:=[4]) (by kernel_rfl) (by simp) (AllReadyH.cons rfl (fun K hK=>?_) AllReadyH.nil)
  go_simp
  refine hK.out _ _ hS4 (fun hHeld=>?_)
  clear hK K
  try simp only[Act.put,List.setIfInBounds_toArray,List.set_cons_zero,List.set_cons_succ]
  refine wpAnyH_take (i:=5) (v:= .agg #[.int .i64 14,.int .i64 0,.string (mkB t.text),.slice (some ⟨w3.heap.size,0,none⟩) 2 2,.slice none 0 0]) rfl (by kernel_rfl) (by kernel_rfl) (by kernel_rfl) (fun _ _ _ h=>h) (Or.inl ⟨by rfl,?_⟩) (by assumption) ?_
  ·intro V hSV
   try dsimp only at hSV
   go_simp
   try with_reducible rfl
  try simp only[Act.put,List.setIfInBounds_toArray,List.set_cons_zero,List.set_cons_succ]
  refine wpAnyH_ready (rs:=[6]) (by kernel_rfl) (by simp) (AllReadyH.cons rfl (fun K hK=>?_) AllReadyH.nil)
  go_simp
  refine hK.out _ _ hS5 (fun hHeld=>?_)
  clear hK K
  refine wpAnyH_done (by kernel_rfl) ?_ _
  try simp only[Act.put,List.setIfInBounds_toArray,List.set_cons_zero,List.set_cons_succ]
  go_wp2
  refine bodyPost_ret (v:=Value.agg #[Value.int IntKind.i64 14,Value.int IntKind.i64 0,Value.string (mkB t.text),Value.slice (some ⟨w3.heap.size,0,none⟩) 2 2,Value.slice none 0 0]) (res_one Tryz.results126 _ _ rfl HL.out) rfl HE.out
end Go.Proofs.YtcaeeackccgclaaGreatDoor
namespace Go.Proofs.YtcaeeackccgclaaGreatDoor
open Go.RowKit Go.Shelf
def laysI_ren:Go.Shelf.Ren:=⟨fun|171=>55|243=>82|246=>114|283=>129|284=>130|285=>131|286=>132|129=>142|317=>141|318=>143|319=>144|320=>145|337=>152|338=>153|n=>n,fun|3=>3|9=>9|2=>2|4=>4|171=>123|0=>0|53=>91|37=>34|5=>5|173=>126|212=>136|51=>88|20=>20|213=>137|46=>75|232=>149|233=>150|n=>n,fun|17=>1|18=>4|19=>5|n=>n⟩
theorem laysI:Go.Proofs.LaysM.n171 Tryz.prog laysI_ren:={
 mixed:=by kernel_rfl
 f129:=Tryz.func142.trans (congrArg some (by kernel_rfl))
 f171:=Tryz.func55.trans (congrArg some (by kernel_rfl))
 f243:=Tryz.func82.trans (congrArg some (by kernel_rfl))
 f246:=Tryz.func114.trans (congrArg some (by kernel_rfl))
 f283:=Tryz.func129.trans (congrArg some (by kernel_rfl))
 f284:=Tryz.func130.trans (congrArg some (by kernel_rfl))
 f285:=Tryz.func131.trans (congrArg some (by kernel_rfl))
 f286:=Tryz.func132.trans (congrArg some (by kernel_rfl))
 f317:=Tryz.func141.trans (congrArg some (by kernel_rfl))
 f318:=Tryz.func143.trans (congrArg some (by kernel_rfl))
 f319:=Tryz.func144.trans (congrArg some (by kernel_rfl))
 f320:=Tryz.func145.trans (congrArg some (by kernel_rfl))
 f337:=Tryz.func152.trans (congrArg some (by kernel_rfl))
 f338:=Tryz.func153.trans (congrArg some (by kernel_rfl))
 t0:=Tryz.underlying0
 a0:=Tryz.isAgg0
 z0:=Tryz.sizeOf0
 v0:=Tryz.zeroValue0
 t2:=Tryz.underlying2
 a2:=Tryz.isAgg2
 z2:=Tryz.sizeOf2
 v2:=Tryz.zeroValue2
 t3:=Tryz.underlying3
 a3:=Tryz.isAgg3
 z3:=Tryz.sizeOf3
 v3:=Tryz.zeroValue3
 t4:=Tryz.underlying4
 a4:=Tryz.isAgg4
 z4:=Tryz.sizeOf4
 v4:=Tryz.zeroValue4
 t5:=Tryz.underlying5
 a5:=Tryz.isAgg5
 z5:=Tryz.sizeOf5
 v5:=Tryz.zeroValue5
 t9:=Tryz.underlying9
 a9:=Tryz.isAgg9
 z9:=Tryz.sizeOf9
 v9:=Tryz.zeroValue9
 t20:=Tryz.underlying20
 a20:=Tryz.isAgg20
 z20:=Tryz.sizeOf20
 v20:=Tryz.zeroValue20
 t37:=Tryz.underlying34
 a37:=Tryz.isAgg34
 z37:=Tryz.sizeOf34
 v37:=Tryz.zeroValue34
 t46:=Tryz.underlying75
 a46:=Tryz.isAgg75
 z46:=Tryz.sizeOf75
 v46:=Tryz.zeroValue75
 t51:=Tryz.underlying88
 a51:=Tryz.isAgg88
 z51:=Tryz.sizeOf88
 v51:=Tryz.zeroValue88
 t53:=Tryz.underlying91
 a53:=Tryz.isAgg91
 z53:=Tryz.sizeOf91
 v53:=Tryz.zeroValue91
 t171:=Tryz.underlying123
 a171:=Tryz.isAgg123
 z171:=Tryz.sizeOf123
 v171:=Tryz.zeroValue123
 t173:=Tryz.underlying126
 a173:=Tryz.isAgg126
 z173:=Tryz.sizeOf126
 v173:=Tryz.zeroValue126
 t212:=Tryz.underlying136
 a212:=Tryz.isAgg136
 z212:=Tryz.sizeOf136
 v212:=Tryz.zeroValue136
 t213:=Tryz.underlying137
 a213:=Tryz.isAgg137
 z213:=Tryz.sizeOf137
 t232:=Tryz.underlying149
 a232:=Tryz.isAgg149
 z232:=Tryz.sizeOf149
 v232:=Tryz.zeroValue149
 t233:=Tryz.underlying150
 a233:=Tryz.isAgg150
 z233:=Tryz.sizeOf150
 v233:=Tryz.zeroValue150
 g17:=by kernel_rfl
 g18:=by kernel_rfl
 g19:=by kernel_rfl
 i0:=by kernel_rfl
 i2:=by kernel_rfl
 i3:=by kernel_rfl
 i4:=by kernel_rfl
 i5:=by kernel_rfl
 i9:=by kernel_rfl
 i20:=by kernel_rfl
 i37:=by kernel_rfl
 i46:=by kernel_rfl
 i51:=by kernel_rfl
 i53:=by kernel_rfl
 i171:=by kernel_rfl
 i173:=by kernel_rfl
 i212:=by kernel_rfl
 i232:=by kernel_rfl
 i233:=by kernel_rfl
 m17:=by kernel_rfl
 m18:=by kernel_rfl
 m19:=by kernel_rfl}
def WpO (B b:Nat)(n:Int)(l:List UInt8)(w:World)(e:Ending)(w':World):Prop:=e= .returned (.tuple #[])∧WrIs B b n (Lib.byteCells l) w'∧Kp B b w w'∧B≤w'.heap.size
theorem Kp.al {B:Nat}(b:Nat){w:World}(hB:B≤w.heap.size)(o:Obj):Kp B b w (w.alloc o):=⟨(Below.refl B w).alloc hB o,(Lib.OthersKept.refl _ _ _).alloc o⟩
theorem WrAt.up {B b:Nat}{n:Int}{p:Value}{bs:List Value}{w w':World}(h:WrAt B b n p bs w)(hb:∀ g,g<w.heap.size→w'.heap[g]? =w.heap[g]?):WrAt B b n p bs w':=by
 obtain⟨hB,v,h1,h2,h3⟩:=h
 exact⟨hB,v,(hb b (Array.getElem?_eq_some_iff.1 h1).1).trans h1,rowKeep h2 (fun g hg=>hb g (h2.lt g hg).2),h3⟩
theorem WrIs.up {B b:Nat}{n:Int}{bs:List Value}{w w':World}(h:WrIs B b n bs w)(hb:∀ g,g<w.heap.size→w'.heap[g]? =w.heap[g]?):WrIs B b n bs w':=h.imp (·.up hb) (·.up hb)
theorem WrIs.al {B b:Nat}{n:Int}{bs:List Value}{w:World}(h:WrIs B b n bs w)(o:Obj):WrIs B b n bs (w.alloc o):=h.up fun g hg=>heap_al w o g hg
theorem WrIs.lt {B b:Nat}{n:Int}{bs:List Value}{w:World}(h:WrIs B b n bs w):b<w.heap.size:=by
 rcases h with⟨_,v,h1,_⟩|⟨_,v,h1,_⟩<;>exact(Array.getElem?_eq_some_iff.1 h1).1
theorem Kp.other {B b:Nat}{w w':World}(h:Kp B b w w'){g:Nat}{cur:Array Value}{e:TypeId}{fz:Nat×Nat}(hg:w.heap[g]? =some (.cells cur e fz))(hb:g≠b)(he:e≠5):w'.heap[g]? =some (.cells cur e fz):=h.2 g _ hg (fun h=>hb (by injection h)) (fun c fz h=>by injection h with _ h2;exact he h2)
theorem Kp.row {B b:Nat}{w w':World}(h:Kp B b w w'){base n sz:Nat}{e:TypeId}{v:Value}{xs:List Value}(hr:w.ownsRow base e sz v n xs)(hb:∀ g,v.ownBlock=some g→g≠b)(he:e≠5):w'.ownsRow base e sz v n xs:=by
 refine⟨hr.1,?_⟩
 rcases hr.2 with h2|⟨g,cap,cur,hv,h1,hg,r⟩
 ·exact .inl h2
 ·exact .inr ⟨g,cap,cur,hv,h1,h.other hg (hb g (by rw[hv];rfl)) he,r⟩
theorem ExV.kpw {B b:Nat}{w w':World}(hk:Kp B b w w'){S:Nat→Prop}(hS:∀ g,S g→g≠b):∀ {n:Nat} {x:Ex} {c:List Value},ExV w S n x c→ExV w' S n x c
 |_+1,_,_,⟨kv,nv,vs,e,h1,h2,h3,h4,h5⟩=>⟨kv,nv,vs,e,hk.row h1 (fun g hg=>hS g (h3 g hg)) (by decide),hk.row h2 (fun g hg=>hS g (h4 g hg)) (by decide),h3,h4,h5.mono fun _ _ f=>ExV.kpw hk hS f⟩
theorem ExA.kpw {B b:Nat}{w w':World}(hk:Kp B b w w'){S:Nat→Prop}(hS:∀ g,S g→g≠b){x:Ex}{c:List Value}(h:ExA w S x c):ExA w' S x c:=⟨h.choose,h.choose_spec.kpw hk hS⟩
theorem bc_app (a b:List UInt8):Lib.byteCells (a++b)=Lib.byteCells a++Lib.byteCells b:=by simp[Lib.byteCells]
theorem bc_str (l:List UInt8):Lib.strCells ⟨l.toArray⟩=Lib.byteCells l:=by simp[Lib.strCells,Lib.byteCells]
theorem bc_len (l:List UInt8):(Lib.byteCells l).length=l.length:=by simp[Lib.byteCells]
theorem ws_any {B b:Nat}{n:Int}{l:List UInt8}{w:World}(h:WrIs B b n (Lib.byteCells l) w)(hB:B≤w.heap.size)(s:List UInt8)(hlen:l.length+s.length≤1000000000):
  Calls Tryz.prog 23 #[pt b,.string ⟨s.toArray⟩] w fun e w'=>e= .returned (.tuple #[.int .i64 s.length,.nilIface])∧WrIs B b n (Lib.byteCells (l++s)) w'∧Kp B b w w'∧B≤w'.heap.size:=by
 have hsz:(⟨s.toArray⟩:ByteArray).size=s.length:=by show s.toArray.size=_;simp
 refine(wsW_any B b n _ ⟨s.toArray⟩ w h (by rw[bc_len,hsz];omega) hB).mono ?_
 rintro e w' ⟨rfl,h1,h2⟩
 refine⟨by rw[hsz],?_,h2,Nat.le_trans hB h2.size⟩
 rw[bc_app,←bc_str s]
 exact .inr h1
theorem wb_any {B b:Nat}{n:Int}{l:List UInt8}{w:World}(h:WrIs B b n (Lib.byteCells l) w)(hB:B≤w.heap.size)(c:UInt8)(hlen:l.length+1≤1000000000):
  Calls Tryz.prog 29 #[pt b,.int .u8 c.toNat] w fun e w'=>e= .returned .nilIface∧WrIs B b n (Lib.byteCells (l++[c])) w'∧Kp B b w w'∧B≤w'.heap.size:=by
 refine(wbW_any B b n _ c.toNat w h (by rw[bc_len];omega) hB).mono ?_
 rintro e w' ⟨rfl,h1,h2⟩
 refine⟨rfl,?_,h2,Nat.le_trans hB h2.size⟩
 rw[bc_app]
 exact .inr h1
theorem skp_fuel (o:Nat):∀ (f f':Nat) (r:List UInt8),r.length≤f→r.length≤f'→skp o f r=skp o f' r:=by
 intro f
 induction f with
 |zero=>
  intro f' r h h'
  have h0:r=[]:=List.length_eq_zero_iff.1 (by omega)
  subst h0
  cases f' with
  |zero=>rfl
  |succ f'=>rfl
 |succ f ih=>
  intro f' r h h'
  cases f' with
  |zero=>
   have h0:r=[]:=List.length_eq_zero_iff.1 (by omega)
   subst h0
   rfl
  |succ f'=>
   show(bif decide (((r.drop (rch (isBl o) r)).getD 0 0).toNat=35)then _ else _)=(bif decide (((r.drop (rch (isBl o) r)).getD 0 0).toNat=35)then _ else _)
   cases hc:decide (((r.drop (rch (isBl o) r)).getD 0 0).toNat=35)with
   |false=>rfl
   |true=>
    simp only[cond_true]
    have hc':((r.drop (rch (isBl o) r)).getD 0 0).toNat=35:=by simpa using hc
    have hlen:0<(r.drop (rch (isBl o) r)).length:=by
     rcases Nat.eq_zero_or_pos (r.drop (rch (isBl o) r)).length with e|e
     ·rw[List.length_eq_zero_iff.1 e]at hc';simp at hc'
     ·exact e
    have h1:0<rch isNl (r.drop (rch (isBl o) r)):=by
     refine rch_pos hlen ?_
     unfold isNl
     rw[hc'];decide
    rw[List.length_drop]at hlen
    rw[ih f' (r.drop (rch (isBl o) r+rch isNl (r.drop (rch (isBl o) r)))) (by rw[List.length_drop];omega) (by rw[List.length_drop];omega)]
end Go.Proofs.YtcaeeackccgclaaGreatDoor
