/- 50. -/
import Derived.Laws.OwnMore
import Derived.Test.YtcaeeackccgclaaGreatDoorTx49
set_option maxHeartbeats 40000000
set_option maxRecDepth 100000
namespace Go.Proofs.YtcaeeackccgclaaGreatDoor
open Go.RowKit Go.Shelf
theorem blk {w w':World}(hb:Below w.heap.size w w'):∀ g,g<w.heap.size→w'.heap[g]? =w.heap[g]? :=fun g hg=>hb.block g hg
theorem ex_one {w:World}{x:Ex}{kv mv:Value}{g:Nat}(hg:w.heap[g]? =some (.cells #[.int .i64 x.kind,.int .i64 x.num,sv x.text,kv,mv] 38 (0,0))):∀ k,k<1→
  w.cell? ⟨g,k*5,none⟩=some (.int .i64 x.kind)∧w.cell? ⟨g,k*5+1,none⟩=some (.int .i64 x.num)∧w.cell? ⟨g,k*5+2,none⟩=some (sv x.text)∧w.cell? ⟨g,k*5+3,none⟩=some kv∧w.cell? ⟨g,k*5+4,none⟩=some mv:=by
 intro k hk
 obtain rfl:k=0:=by omega
 refine⟨?_,?_,?_,?_,?_⟩<;>(rw[Lib.cell_of_heap hg];rfl)
theorem SExprs_new {n:Nat}{x:Ex}{kv mv kv' mv':Value}{w:World}(h1:ExR w n kv x.kids)(h2:RowAt w 1 mv x.names.length (x.names.map sv))(h1':ExR w n kv' x.kids)(h2':RowAt w 1 mv' x.names.length (x.names.map sv)){g g':Nat}
  (hg:w.heap[g]? =some (.cells #[.int .i64 x.kind,.int .i64 x.num,sv x.text,kv,mv] 38 (0,0))) (hg':w.heap[g']? =some (.cells #[.int .i64 x.kind,.int .i64 x.num,sv x.text,kv',mv'] 38 (0,0))):
  Calls Tryz.prog 16 #[.slice (some ⟨g,0,none⟩) 1 1,.slice (some ⟨g',0,none⟩) 1 1] w fun e w'=>e= .returned (.bool true)∧∃ m,w'=w.drewN m:=by
 refine SExprs_walk _ _ 1 1 1 w (by decide) fun k m hk=>?_
 obtain⟨a0,a1,a2,a3,a4⟩:=ex_one hg k hk
 obtain⟨b0,b1,b2,b3,b4⟩:=ex_one hg' k hk
 exact⟨g,g',_,_,_,kv,mv,kv',mv',rfl,rfl,⟨a0,a1,a2,a3,a4⟩,⟨b0,b1,b2,b3,b4⟩,fun M=>STexts_ok mv mv' x.names ((w.drewN m).drewN M) (h2.keep fun _ _=>rfl) (h2'.keep fun _ _=>rfl),fun M=>SExprs_ok n kv kv' x.kids ((w.drewN m).drewN M) ((h1.drewN m).drewN M) ((h1'.drewN m).drewN M)⟩
theorem below_drewN {B:Nat}{w w':World}(h:Below B w w')(n:Nat):Below B w (w'.drewN n):=⟨h.os,h.tape,h.output,h.size,h.block⟩
theorem ExR.le {w:World}{n m:Nat}{v:Value}{l:List Ex}(h:ExR w n v l)(hm:n≤m):ExR w m v l:=by
 obtain⟨vs,h1,h2⟩:=h
 exact⟨vs,h1,h2.mono fun _ _ f=>f.le _ hm⟩
theorem ExR.shape {w:World}{n:Nat}{v:Value}{l:List Ex}(h:ExR w n v l):∃ a c,v= .slice a l.length c:=by
 obtain⟨vs,⟨a,c,e,_⟩,_⟩:=h
 exact⟨a,c,e⟩
theorem SStmts_ok:∀ (n:Nat) (v u:Value) (l:List Sm) (w:World),StW w n v l→StW w n u l→
  Calls Tryz.prog 9 #[v,u] w fun e w'=>e= .returned (.bool true)∧Below w.heap.size w w':=by
 intro n
 induction n with
 |zero=>
  intro v u l w hx hy
  obtain⟨vs,⟨xa,xc,rfl,_,hn⟩,hf⟩:=hx
  obtain⟨us,⟨ya,yc,rfl,_,_⟩,_⟩:=hy
  refine SStmts_walk xa ya l.length xc yc w hn fun k V _ hk=>?_
  match l,vs,hf,hk with
  |a::l,b::vs,hf,_=>exact hf.1.elim
 |succ n ih=>
  intro v u l w hx hy
  have hx0:=hx
  have hy0:=hy
  obtain⟨_,⟨xa,xc,rfl,_,hn⟩,_⟩:=hx0
  obtain⟨_,⟨ya,yc,rfl,_,_⟩,_⟩:=hy0
  refine SStmts_walk xa ya l.length xc yc w hn fun k W hW hk=>?_
  have hxW:StW W (n+1) (.slice xa l.length xc) l:=hx.keep (blk hW)
  have hyW:StW W (n+1) (.slice ya l.length yc) l:=hy.keep (blk hW)
  obtain⟨g,nv,kv,mv,bv,ev,e1,hg,⟨a0,c1,c2,c3,c4,c5,c6,c7,c8,c9⟩,a2,⟨m1,a3,a4⟩,a5,a6⟩:=hxW.at_ rfl k hk
  obtain⟨g',nv',kv',mv',bv',ev',e2,hg',⟨b0,d1,d2,d3,d4,d5,d6,d7,d8,d9⟩,b2,⟨m2,b3,b4⟩,b5,b6⟩:=hyW.at_ rfl k hk
  obtain⟨ka,kc,rfl⟩:=a3.shape
  obtain⟨ka',kc',rfl⟩:=b3.shape
  obtain⟨ma,mc,rfl,_⟩:=id a4
  obtain⟨ma',mc',rfl,_⟩:=id b4
  have hA:=fun V (hV:Below W.heap.size W V) (j:Nat)=>(World.cell?_of_block (a:=⟨g,j,none⟩) (hV.block g hg))
  have hB:=fun V (hV:Below W.heap.size W V) (j:Nat)=>(World.cell?_of_block (a:=⟨g',j,none⟩) (hV.block g' hg'))
  refine⟨g,g',_,mkB l[k].text,_,_,mkB l[k].ex.text,_,_,nv,ka,kc,ma,mc,bv,ev,nv',ka',kc',ma',mc',bv',ev',e1,e2,
   fun V hV=>⟨⟨(hA V hV _).trans a0,(hA V hV _).trans c1,(hA V hV _).trans c2,(hA V hV _).trans c3,(hA V hV _).trans c4,(hA V hV _).trans c5,(hA V hV _).trans c6,(hA V hV _).trans c7,(hA V hV _).trans c8,(hA V hV _).trans c9⟩,
    (hB V hV _).trans b0,(hB V hV _).trans d1,(hB V hV _).trans d2,(hB V hV _).trans d3,(hB V hV _).trans d4,(hB V hV _).trans d5,(hB V hV _).trans d6,(hB V hV _).trans d7,(hB V hV _).trans d8,(hB V hV _).trans d9⟩,
   fun V hV=>(STexts_ok nv nv' _ V (a2.keep (blk hV)) (b2.keep (blk hV))).mono fun e w' ⟨h1,m,h2⟩=>⟨h1,by rw[h2];exact below_drewN hV m⟩,?_,?_,fun V hV=>?_,fun V hV=>?_⟩
  ·intro V hV
   have hV1:=hV.alloc hV.size (.cells #[.int .i64 l[k].ex.kind,.int .i64 l[k].ex.num,.string (mkB l[k].ex.text),.slice ka l[k].ex.kids.length kc,.slice ma l[k].ex.names.length mc] 38)
   have hV2:=hV1.alloc hV1.size (.cells #[.int .i64 l[k].ex.kind,.int .i64 l[k].ex.num,.string (mkB l[k].ex.text),.slice ka' l[k].ex.kids.length kc',.slice ma' l[k].ex.names.length mc'] 38)
   refine(SExprs_new (n:=max m1 m2) (x:=l[k].ex) ((a3.le (Nat.le_max_left _ _)).keep (blk hV2)) (a4.keep (blk hV2)) ((b3.le (Nat.le_max_right _ _)).keep (blk hV2)) (b4.keep (blk hV2)) ?_ ?_).mono fun e w' ⟨h1,m,h2⟩=>⟨h1,by rw[h2];exact below_drewN hV2 m⟩
   ·exact(heap_al _ _ _ (by rw[World.size_alloc];omega)).trans (heap_alloc_new V _)
   ·have:=heap_alloc_new (V.alloc (.cells #[.int .i64 l[k].ex.kind,.int .i64 l[k].ex.num,.string (mkB l[k].ex.text),.slice ka l[k].ex.kids.length kc,.slice ma l[k].ex.names.length mc] 38)) (.cells #[.int .i64 l[k].ex.kind,.int .i64 l[k].ex.num,.string (mkB l[k].ex.text),.slice ka' l[k].ex.kids.length kc',.slice ma' l[k].ex.names.length mc'] 38)
    rwa [World.size_alloc]at this
  ·intro V hV
   have hV1:=hV.alloc hV.size (.cells #[.int .i64 l[k].ex.kind,.int .i64 l[k].ex.num,.string (mkB l[k].ex.text),.slice ka' l[k].ex.kids.length kc',.slice ma' l[k].ex.names.length mc'] 38)
   have hV2:=hV1.alloc hV1.size (.cells #[.int .i64 l[k].ex.kind,.int .i64 l[k].ex.num,.string (mkB l[k].ex.text),.slice ka l[k].ex.kids.length kc,.slice ma l[k].ex.names.length mc] 38)
   refine(SExprs_new (n:=max m1 m2) (x:=l[k].ex) ((a3.le (Nat.le_max_left _ _)).keep (blk hV2)) (a4.keep (blk hV2)) ((b3.le (Nat.le_max_right _ _)).keep (blk hV2)) (b4.keep (blk hV2)) ?_ ?_).mono fun e w' ⟨h1,m,h2⟩=>⟨h1,by rw[h2];exact below_drewN hV2 m⟩
   ·have:=heap_alloc_new (V.alloc (.cells #[.int .i64 l[k].ex.kind,.int .i64 l[k].ex.num,.string (mkB l[k].ex.text),.slice ka' l[k].ex.kids.length kc',.slice ma' l[k].ex.names.length mc'] 38)) (.cells #[.int .i64 l[k].ex.kind,.int .i64 l[k].ex.num,.string (mkB l[k].ex.text),.slice ka l[k].ex.kids.length kc,.slice ma l[k].ex.names.length mc] 38)
    rwa [World.size_alloc]at this
   ·exact(heap_al _ _ _ (by rw[World.size_alloc];omega)).trans (heap_alloc_new V _)
  ·exact(ih bv bv' l[k].body V (a5.keep (blk hV)) (b5.keep (blk hV))).mono fun e w' ⟨h1,h2⟩=>⟨h1,hV.trans (h2.mono hV.size)⟩
  ·exact(ih ev ev' l[k].els V (a6.keep (blk hV)) (b6.keep (blk hV))).mono fun e w' ⟨h1,h2⟩=>⟨h1,hV.trans (h2.mono hV.size)⟩
theorem stw_of {w:World}{n:Nat}{l:List Sm}{v:Value}{vs:List (List Value)}(h:RwS n w l v vs):∃ m,StW w m v l:=by
 obtain⟨m,hm⟩:=fa_allS (h.fa.mono fun _ _ f=>f.mono (Q:=fun _=>True) fun _ _ _=>trivial)
 exact⟨m,vs,row_at h.row,hm⟩
theorem StW.le {w:World}{n m:Nat}{v:Value}{l:List Sm}(h:StW w n v l)(hm:n≤m):StW w m v l:=by
 obtain⟨vs,h1,h2⟩:=h
 exact⟨vs,h1,h2.mono fun _ _ f=>f.le _ hm⟩
def ParU (w:World)(r:Except Ft (List Sm))(e:Ending)(w':World):Prop:=∃ sa sn sc,∃ kk zz:Int,e= .returned (.tuple #[.slice sa sn sc,.agg #[.int .i64 kk,.int .i64 zz]])∧Hid (Below w.heap.size w w'∧((∃ k z,r= .error (k,z)∧kk≠0)∨∃ l vs,r= .ok l∧kk=0∧RwS w.heap.size w' l (.slice sa sn sc) vs))
theorem Parse_u (s:ByteArray)(w:World)(hr:ErrR w):Calls Tryz.prog 8 #[.string s] w (ParU w (parT s.data.toList)):=by
 have hs:mkB s.data.toList=s:=(mk_self s).symm
 have h:=Parse_told s.data.toList w hr
 rw[hs]at h
 refine h.mono ?_
 rintro e w' ⟨h1,h2,h3⟩
 match hp:parT s.data.toList with
 | .error (k,z)=>
  rw[hp]at h1
  refine⟨none,0,0,k,z,h1 k z rfl,h3,.inl ⟨k,z,rfl,?_⟩⟩
  have:=parT_bad hp
  omega
 | .ok l=>
  rw[hp]at h2
  obtain⟨v,vs,e1,hrw⟩:=h2 l rfl
  obtain⟨a,c,rfl⟩:=row_shape hrw.row
  exact⟨a,l.length,c,0,0,e1,h3,.inr ⟨l,vs,rfl,rfl,hrw⟩⟩
end Go.Proofs.YtcaeeackccgclaaGreatDoor
