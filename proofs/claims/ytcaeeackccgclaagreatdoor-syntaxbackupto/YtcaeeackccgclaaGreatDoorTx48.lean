/- 48. -/
import Derived.Laws.BytesString
import Derived.Laws.IdiomStrings
import Derived.Test.YtcaeeackccgclaaGreatDoorTie
import Derived.Test.YtcaeeackccgclaaGreatDoorCards
import Derived.ProofKit
import Derived.OpenShut
import Derived.ShutString
import Derived.ChangeOld
import Derived.Below
import Derived.Lay
import Derived.HandedShaped
import Derived.SevenTiedAt
import Derived.Stop.Joined
import Derived.Shelf.Vars
import Derived.Stop.LaidErr
import Derived.Deep.DeepHandedRow
import Derived.Lib.LaidTab
import Derived.Deep.QuietTactic
import Derived.Test.YtcaeeackccgclaaGreatDoorTx42
import Derived.Test.YtcaeeackccgclaaGreatDoorTx47
set_option maxHeartbeats 40000000
set_option maxRecDepth 100000
namespace Go.Proofs.YtcaeeackccgclaaGreatDoor
open Go.RowKit Go.Shelf
def StR (B b:Nat)(l:List UInt8)(w:World):Prop:=∃ g cap size,B≤g∧g<w.heap.size∧b<w.heap.size∧w.cell? ⟨b,1,none⟩=some (.slice (some ⟨g,0,none⟩) l.length cap)∧w.shape? g=some (5,size)∧(l.length≤size∧l.length≤cap)∧size≤maxLen∧g≠b∧∀ (j:Nat) (x:UInt8),l[j]? =some x→w.cell? ⟨g,j,none⟩=some (.int .u8 x.toNat)
theorem StR.up {B b:Nat}{l:List UInt8}{w w':World}(h:StR B b l w)(hb:Below w.heap.size w w'):StR B b l w':=by
 obtain⟨g,cap,size,h1,h2,h3,h4,h5,h6,h7,h8,h9⟩:=h
 refine⟨g,cap,size,h1,Nat.lt_of_lt_of_le h2 hb.size,Nat.lt_of_lt_of_le h3 hb.size,(World.cell?_of_block (hb.block b h3)).trans h4,?_,h6,h7,h8,fun j x hx=>(World.cell?_of_block (hb.block g h2)).trans (h9 j x hx)⟩
 rw[←h5]
 simp[World.shape?,hb.block g h2]
theorem StR.of {B b:Nat}{n:Int}{l:List UInt8}{w:World}(h:WrIs B b n (Lib.byteCells l) w)(h0:l≠[]):StR B b l w:=by
 have hbl:=h.lt
 obtain⟨p,hB,v,hbk,hown,hne⟩:∃ p,WrAt B b n p (Lib.byteCells l) w:=by
  rcases h with h|h
  ·exact⟨_,h⟩
  ·exact⟨_,h⟩
 have hl0:l.length≠0:=by simpa using h0
 rw[Lib.byteCells_length]at hown
 rcases hown.2 with⟨_,hz⟩|⟨g,cap,cur,rfl,hbg,hg,hnc,hcm,hcs,htake⟩
 ·exact absurd hz hl0
 ·refine⟨g,cap,cur.size,hbg,(Array.getElem?_eq_some_iff.1 hg).1,hbl,by rw[Lib.cell_of_heap hbk];rfl,by simp[World.shape?,hg],⟨by omega,hnc⟩,by omega,fun e=>hne (by rw[e];rfl),fun j x hx=>?_⟩
  have h9:=hown.cells (g:=g) rfl j (.int .u8 x.toNat) (by simp[Lib.byteCells,hx])
  rwa [add0]at h9
theorem freeze_shape (w:World)(g n:Nat):(w.drew.freeze ⟨g,0,none⟩ n).shape? g=w.shape? g:=by
 by_cases hn:n=0
 ·unfold World.freeze
  rw[if_pos hn]
  rfl
 ·unfold World.freeze World.shape?
  rw[if_neg hn]
  have:w.drew.heap[g]? =w.heap[g]? :=rfl
  simp only[Array.getElem?_modify,this]
  cases w.heap[g]? with
  |none=>simp
  |some o=>cases o<;>simp
theorem freeze_cell (w:World)(g n j:Nat):(w.drew.freeze ⟨g,0,none⟩ n).cell? ⟨g,j,none⟩=w.cell? ⟨g,j,none⟩:=by
 by_cases hn:n=0
 ·unfold World.freeze
  rw[if_pos hn]
  rfl
 ·unfold World.freeze World.cell?
  rw[if_neg hn]
  have:w.drew.heap[g]? =w.heap[g]? :=rfl
  simp only[Array.getElem?_modify,this]
  cases w.heap[g]? with
  |none=>simp
  |some o=>cases o<;>simp
theorem stR_any {B b:Nat}{l:List UInt8}{w:World}(h:StR B b l w)(h0:l≠[]):
  Calls Tryz.prog 12 #[pt b] w fun e w'=>e= .returned (.string ⟨l.toArray⟩)∧Below B w w'∧StR B b l w':=by
 have H:Hid (StR B b l w):=h
 obtain⟨g,cap,size,h1,h2,h3,c1,h5,h6,h7,h8,h9⟩:=h
 have hl0:l.length≠0:=by simpa using h0
 have hcp:=h6.2
 have hls:=h6.1
 have hSD:(Builtin.unsafeSliceData_ #[34] 56 #[.slice (some ⟨g,0,none⟩) l.length cap]).run Tryz.prog w.drew= .ok (.pointer (some ⟨g,0,none⟩)) w.drew:=
  Lib.run_unsafeSliceData_row _ _ _ _ _ _ (by omega)
 have hUS:(Builtin.unsafeString_ #[56,3] 9 #[.pointer (some ⟨g,0,none⟩),.int .i64 l.length]).run Tryz.prog w.drew= .ok (.string ⟨l.toArray⟩) (w.drew.freeze ⟨g,0,none⟩ l.length):=
  Lib.run_unsafeString_row w.drew 56 3 9 5 Tryz.underlying56 celB g size h5 l h0 (by omega) (by unfold maxLen at h7;omega) (fun j x hx=>by rw[add0];exact h9 j x hx)
 have HF:Hid (StR B b l (w.drew.freeze ⟨g,0,none⟩ l.length)):=by
  have hh:∀ k,k≠g→(w.drew.freeze ⟨g,0,none⟩ l.length).heap[k]? =w.heap[k]? :=fun k hk=>by
   unfold World.freeze
   rw[if_neg hl0]
   simp[Array.getElem?_modify,Ne.symm hk]
   all_goals rfl
  have hz:(w.drew.freeze ⟨g,0,none⟩ l.length).heap.size=w.heap.size:=by
   unfold World.freeze
   rw[if_neg hl0]
   simp
   all_goals rfl
  have hcg:∀ j,(w.drew.freeze ⟨g,0,none⟩ l.length).cell? ⟨g,j,none⟩=w.cell? ⟨g,j,none⟩:=fun j=>freeze_cell w g l.length j
  refine⟨g,cap,size,h1,by rw[hz];exact h2,by rw[hz];exact h3,(World.cell?_of_block (hh b (fun e=>h8 e.symm))).trans c1,?_,h6,h7,h8,fun j x hx=>(hcg j).trans (h9 j x hx)⟩
  rw[←h5]
  exact freeze_shape w g l.length
 have HBe:Hid (Below B w (w.drew.freeze ⟨g,0,none⟩ l.length)):=Lib.below_freeze (Below.drew (Below.refl B w)) (p:=⟨g,0,none⟩) h1 _
 clear h5 h9
 go_enter Tryz.func12,Tryz.ntmps12
 go_wp2
 go_region
 all_goals
  go_wp2
  go_ret
  exact⟨rfl,HBe.out,HF.out⟩
theorem str0_any {b:Nat}{w:World}(c1:w.cell? ⟨b,1,none⟩=some (.slice none 0 0)):
  Calls Tryz.prog 12 #[pt b] w fun e w'=>e= .returned (.string ⟨#[]⟩)∧w'=w.drew:=by
 have hSD:(Builtin.unsafeSliceData_ #[34] 56 #[.slice none 0 0]).run Tryz.prog w.drew= .ok (.pointer none) w.drew:=Lib.run_unsafeSliceData_nil _ _ _ _ _
 have hUS:(Builtin.unsafeString_ #[56,3] 9 #[.pointer none,.int .i64 0]).run Tryz.prog w.drew= .ok (.string .empty) w.drew:=Lib.run_unsafeString_none _ _ _ _ _
 go_enter Tryz.func12,Tryz.ntmps12
 go_wp2
 go_region
 all_goals
  go_wp2
  go_ret
  exact⟨rfl,rfl⟩
theorem sts0_any {b c:Nat}{a:Option Addr}{w:World}:Calls Tryz.prog 11 #[pt b,.slice a 0 c] w fun e w'=>e= .returned (.tuple #[])∧w'=w:=by
 go_enter Tryz.func11,Tryz.ntmps11
 go_wp2
 go_loopw [8] (fun u wr=>u= .int .i64 0∧wr=w) (fun _ _=>0)
 case atStart=>exact⟨rfl,rfl⟩
 case round=>
  obtain⟨rfl,rfl⟩:=hrel
  go_wp2
  go_end0
  exact⟨rfl,rfl⟩
def StE (b:Nat)(t:List UInt8)(w:World):Prop:=(t≠[]∧StR b b t w)∨(t=[]∧b<w.heap.size∧w.cell? ⟨b,1,none⟩=some (.slice none 0 0))
theorem StE.up {b:Nat}{t:List UInt8}{w w':World}(h:StE b t w)(hb:Below w.heap.size w w'):StE b t w':=by
 rcases h with⟨h1,h2⟩|⟨h1,h2,h3⟩
 ·exact .inl ⟨h1,h2.up hb⟩
 ·exact .inr ⟨h1,Nat.lt_of_lt_of_le h2 hb.size,(World.cell?_of_block (hb.block b h2)).trans h3⟩
theorem stE_any {b:Nat}{t:List UInt8}{w:World}(h:StE b t w):Calls Tryz.prog 12 #[pt b] w fun e w'=>e= .returned (.string ⟨t.toArray⟩)∧Below b w w'∧StE b t w':=by
 rcases h with⟨h1,h2⟩|⟨rfl,h2,h3⟩
 ·exact(stR_any h2 h1).mono fun e w' ⟨a,c,d⟩=>⟨a,c,.inl ⟨h1,d⟩⟩
 ·refine(str0_any h3).mono ?_
  rintro e w' ⟨rfl,rfl⟩
  exact⟨rfl,(Below.refl b w).drew,.inr ⟨rfl,h2,h3⟩⟩
abbrev fz:Obj:= .cells #[.int .i64 0,.int .i64 0] 25
abbrev wz:Obj:= .cells #[.pointer none,.slice none 0 0,.int .i64 0] 45
theorem RwS.rt {n:Nat}{w:World}{l:List Sm}{v:Value}{vs:List (List Value)}(h:RwS n w l v vs):RwT (fun g=>n≤g∧g<w.heap.size) w l v vs:=
 ⟨row_mono h.row (Nat.zero_le _),fun g hg=>h.row.lt g hg,h.fa.mono fun _ _ f=>f.mono fun _ hg hg2=>⟨hg.1,hg2⟩⟩
theorem RwT.up {S:Nat→Prop}{w w':World}{l:List Sm}{v:Value}{vs:List (List Value)}(h:RwT S w l v vs)(hb:∀ g,S g→w'.heap[g]? =w.heap[g]?):RwT S w' l v vs:=
 ⟨own_heap h.row fun g hg=>hb g (h.own g hg),h.own,h.fa.mono fun _ _ f=>f.keep (fun g hg _=>hb g hg) (fun _ hg _=>hg)⟩
theorem two_of {w:World}{R:Nat}(h:w.heap[R]? =some fz):w.cell? ⟨R,0,none⟩=some (.int .i64 0)∧w.cell? ⟨R,1,none⟩=some (.int .i64 0)∧w.frozen? ⟨R,0,none⟩=false∧w.frozen? ⟨R,1,none⟩=false:=by
 refine⟨?_,?_,Lib.frozen_of_heap h 0,Lib.frozen_of_heap h 1⟩<;>(rw[Lib.cell_of_heap h];rfl)
theorem ErrR.bel {w w':World}(h:ErrR w){B:Nat}(hb:Below B w w')(hB:w.heap.size≤B):ErrR w':=h.up (hb.mono hB)
theorem TabW.bel {w w':World}(h:TabW w){B:Nat}(hb:Below B w w')(hB:w.heap.size≤B):TabW w':=h.of_block (hb.block _ (Nat.lt_of_lt_of_le h.lt hB))
theorem wst_any {n:Nat}{l:List Sm}{b:Nat}{a:Option Addr}{c:Nat}{vs:List (List Value)}{S:Nat→Prop}{w:World}(hz:w.heap[b]? =some wz)(hp:1<b)(ht:TabW w)(hr:RwT S w l (.slice a l.length c) vs)(hS:∀ g,S g→g≠b)(hx:∀ s∈l,WfX n 40 false false s)(hlen:(wrL n 40 l).length≤1000000000):
  Calls Tryz.prog 11 #[pt b,.slice a l.length c] w fun e w'=>e= .returned (.tuple #[])∧StE b (wrL n 40 l) w'∧Below b w w':=by
 have hbl:=(Array.getElem?_eq_some_iff.1 hz).1
 cases l with
 |nil=>
  refine sts0_any.mono ?_
  rintro e w' ⟨rfl,rfl⟩
  exact⟨rfl,.inr ⟨rfl,hbl,by rw[Lib.cell_of_heap hz];rfl⟩,Below.refl _ _⟩
 |cons s l=>
  have h0:WrIs b b ((0:Nat):Int) (Lib.byteCells []) w:= .inl ⟨Nat.le_refl _,.slice none 0 0,hz,World.ownsRow_nil _ _ _ _,by simp[Value.ownBlock]⟩
  refine(all_w n 40 0 (by decide) b b [] S (s::l) a c vs w h0 (by omega) hp ht hr hS (fun x hx'=>⟨_,_,hx x hx'⟩) (by show 0+(wrL n 40 (s::l)).length≤_;omega)).mono ?_
  rintro e w' ⟨rfl,h1,hk,hB⟩
  have hne:wrL n 40 (s::l)≠[]:=fun e=>by
   have:=lns_ne (n:=n) (m:=40) (d:=0) (s::l) fun x hx'=>⟨_,_,hx x hx'⟩
   rw[show lnsB ((s::l).flatMap (lnS n 40 0))=[]from e]at this
   exact absurd this (by simp)
  exact⟨rfl,.inl ⟨hne,StR.of h1 hne⟩,hk.1⟩
theorem Canon_err (L:List UInt8)(w:World)(hr:ErrR w){k x:Nat}(h1:parT L= .error (k,x)):
  Calls Tryz.prog 7 #[.string (mkB L)] w fun e w'=>e= .returned (.tuple #[.string ⟨#[]⟩,.agg #[.int .i64 k,.int .i64 x]])∧Below w.heap.size w w':=by
 have hk:=parT_bad h1
 have s0:(w.alloc fz).heap.size=w.heap.size+1:=World.size_alloc _ _
 have hb0:Below w.heap.size w (w.alloc fz):=alB w fz
 have hf0:(w.alloc fz).heap[w.heap.size]? =some fz:=heap_alloc_new w fz
 have HP:=Parse_told L (w.alloc fz) (hr.bel hb0 (Nat.le_refl _))
 rw[h1]at HP
 have hki:¬(k:Int)=0:=by omega
 clear hr h1 hk
 go_enter Tryz.func7,Tryz.ntmps7
 go_wp2_with fail
 refine HP.mono ?_
 rintro e w1 ⟨hbad,_,hb1⟩
 obtain rfl:=hbad k x rfl
 have s1:w.heap.size+1≤w1.heap.size:=by have:=hb1.size;omega
 obtain⟨W,hW⟩:∃ W,W=w1.alloc (.cells #[.int .i64 k,.int .i64 x] 25):=⟨_,rfl⟩
 have hf1:W.heap[w.heap.size]? =some fz:=by rw[hW];exact(heap_al _ _ _ (by omega)).trans ((hb1.block _ (by omega)).trans hf0)
 have hf2:W.heap[w1.heap.size]? =some (.cells #[.int .i64 k,.int .i64 x] 25 (0,0)):=by rw[hW];exact heap_alloc_new w1 _
 obtain⟨g0,g1,k0,k1⟩:=two_of hf1
 have v0:W.cell? ⟨w1.heap.size,0,none⟩=some (.int .i64 k):=by rw[Lib.cell_of_heap hf2];rfl
 have v1:W.cell? ⟨w1.heap.size,1,none⟩=some (.int .i64 x):=by rw[Lib.cell_of_heap hf2];rfl
 have hbW:Below w.heap.size w W:=by rw[hW];exact(hb0.trans (hb1.mono (by omega))).trans ((alB w1 _).mono (by omega))
 have HZ:Hid (Below w.heap.size w ((W.drew.setCell ⟨w.heap.size,0,none⟩ (.int .i64 k)).setCell ⟨w.heap.size,1,none⟩ (.int .i64 x))):=(hbW.drew.setCell (p:=⟨w.heap.size,0,none⟩) (Nat.le_refl _) _).setCell (p:=⟨w.heap.size,1,none⟩) (Nat.le_refl _) _
 clear HP hbad hb1 hb0 hf0 s0 s1 hf1 hf2 hbW
 subst hW
 go_wp2_with fail
 go_region
 all_goals
  go_wp2
  refine bodyPost_ret (v:= .tuple #[.string ⟨#[]⟩,.agg #[.int .i64 k,.int .i64 x]]) (by simp[results,Tryz.results7,go_sem,g0,g1]) rfl ⟨rfl,HZ.out⟩
theorem Canon_told (L:List UInt8)(w:World)(hr:ErrR w)(ht:TabW w){n:Nat}{l:List Sm}(h1:parT L= .ok l)(hx:∀ s∈l,WfX n 40 false false s)(hlen:(wrL n 40 l).length≤1000000000):
  Calls Tryz.prog 7 #[.string (mkB L)] w fun e w'=>((∃ x,parT (wrL n 40 l)= .error x∧e= .returned (.tuple #[.string ⟨#[]⟩,.agg #[.int .i64 2,.int .i64 0]]))∨(∃ m,parT (wrL n 40 l)= .ok m∧e= .returned (.tuple #[.string ⟨(wrL n 40 l).toArray⟩,.agg #[.int .i64 0,.int .i64 0]])))∧Below w.heap.size w w':=by
 have s0:(w.alloc fz).heap.size=w.heap.size+1:=World.size_alloc _ _
 have hb0:Below w.heap.size w (w.alloc fz):=alB w fz
 have hf0:(w.alloc fz).heap[w.heap.size]? =some fz:=heap_alloc_new w fz
 have HP:=Parse_told L (w.alloc fz) (hr.bel hb0 (Nat.le_refl _))
 rw[h1]at HP
 have HR:Hid (ErrR w∧TabW w):=⟨hr,ht⟩
 obtain⟨out,hout⟩:∃ out,out=wrL n 40 l:=⟨_,rfl⟩
 have HX:Hid ((∀ s∈l,WfX n 40 false false s)∧(wrL n 40 l).length≤1000000000∧out=wrL n 40 l):=⟨hx,hlen,hout⟩
 have H3:Hid (∀ W,ErrR W→Calls Tryz.prog 8 #[.string ⟨out.toArray⟩] W (ParP W (parT out))):=fun W hW=>Parse_told out W hW
 rw[←hout]
 clear hr ht h1 hx hlen hout
 go_enter Tryz.func7,Tryz.ntmps7
 go_wp2_with fail
 refine HP.mono ?_
 rintro e w1 ⟨_,hok,hb1⟩
 obtain⟨v,vs,rfl,hrw⟩:=hok l rfl
 obtain⟨a1,c1,rfl⟩:=row_shape hrw.row
 have s1:w.heap.size+1≤w1.heap.size:=by have:=hb1.size;omega
 have s2:(w1.alloc fz).heap.size=w1.heap.size+1:=World.size_alloc _ _
 have s3:((w1.alloc fz).alloc wz).heap.size=w1.heap.size+1+1:=by rw[World.size_alloc,s2]
 have kX:∀ g,g<w1.heap.size→((w1.alloc fz).alloc wz).heap[g]? =w1.heap[g]? :=fun g hg=>(heap_al _ _ _ (by omega)).trans (heap_al _ _ _ hg)
 have hbX:Below w.heap.size w ((w1.alloc fz).alloc wz):=((hb0.trans (hb1.mono (by omega))).trans ((alB w1 fz).mono (by omega))).trans ((alB _ wz).mono (by omega))
 have hfX:((w1.alloc fz).alloc wz).heap[w.heap.size]? =some fz:=(kX _ (by omega)).trans ((hb1.block _ (by omega)).trans hf0)
 have hwX:((w1.alloc fz).alloc wz).heap[w1.heap.size+1]? =some wz:=by
  have:=heap_alloc_new (w1.alloc fz) wz
  rwa [s2]at this
 have hgp:1<w1.heap.size+1:=by have:=HR.out.2.lt;omega
 have HSt:=wst_any hwX hgp (HR.out.2.bel hbX (Nat.le_refl _)) (hrw.rt.up (fun g hg=>kX g hg.2)) (fun g hg=>by have:=hg.2;omega) HX.out.1 HX.out.2.1
 rw[←HX.out.2.2]at HSt
 have HQ:Hid (Below w.heap.size w ((w1.alloc fz).alloc wz)∧((w1.alloc fz).alloc wz).heap[w.heap.size]? =some fz∧w.heap.size+1≤w1.heap.size∧((w1.alloc fz).alloc wz).heap.size=w1.heap.size+1+1):=⟨hbX,hfX,s1,s3⟩
 clear HP hok hb1 hrw hb0 hf0 s0 s1 s2 s3 kX hbX hfX hwX hgp HX
 go_wp2_with fail
 refine HSt.mono ?_
 rintro e w3 ⟨rfl,h3,hk3⟩
 have HSg:=stE_any h3
 have hb3:Below w.heap.size w w3:=HQ.out.1.trans (hk3.mono (by have:=HQ.out.2.2.1;omega))
 have hf3:w3.heap[w.heap.size]? =some fz:=(hk3.block _ (by have:=HQ.out.2.2.1;omega)).trans HQ.out.2.1
 clear HSt h3 hk3
 go_wp2_with fail
 refine HSg.mono ?_
 rintro e w4 ⟨rfl,hb4,hst4⟩
 have hs13:=HQ.out.2.2.1
 have hb4':Below w.heap.size w w4:=hb3.trans (hb4.mono (by omega))
 have hf4:w4.heap[w.heap.size]? =some fz:=(hb4.block _ (by omega)).trans hf3
 have HP2:=H3.out w4 (HR.out.1.bel hb4' (Nat.le_refl _))
 have hf4l:=(Array.getElem?_eq_some_iff.1 hf4).1
 have hs4:=hb4'.size
 clear HSg hb4 hb3 hf3 H3 HQ
 go_wp2_with fail
 refine HP2.mono ?_
 rintro e w5 ⟨hbad,hok,hb5⟩
 match hp2:parT out with
 | .error (k,x)=>
  rw[hp2]at hbad
  have hk:=parT_bad hp2
  have hki:¬(k:Int)=0:=by omega
  obtain rfl:=hbad k x rfl
  have HE:Hid (parT out= .error (k,x)):=hp2
  obtain⟨g0,g1,k0,k1⟩:=two_of ((heap_al w5 (.cells #[.int .i64 k,.int .i64 x] 25) w.heap.size (by have:=hb5.size;omega)).trans ((hb5.block _ hf4l).trans hf4))
  have HZ:Hid (Below w.heap.size w (((w5.alloc (.cells #[.int .i64 k,.int .i64 x] 25)).setCell ⟨w.heap.size,0,none⟩ (.int .i64 2)).setCell ⟨w.heap.size,1,none⟩ (.int .i64 0))):=(((hb4'.trans (hb5.mono hs4)).trans ((alB w5 _).mono (by have:=hb5.size;omega))).setCell (p:=⟨w.heap.size,0,none⟩) (Nat.le_refl _) _).setCell (p:=⟨w.heap.size,1,none⟩) (Nat.le_refl _) _
  clear hbad hok hb5 hk HP2 hst4 hb4' hf4 hp2
  go_wp2
  refine bodyPost_ret (v:= .tuple #[.string ⟨#[]⟩,.agg #[.int .i64 2,.int .i64 0]]) (by simp[results,Tryz.results7,go_sem,g0,g1]) rfl ⟨.inl ⟨_,HE.out,rfl⟩,HZ.out⟩
 | .ok l2=>
  rw[hp2]at hok
  obtain⟨v5,vs5,rfl,hrw5⟩:=hok l2 rfl
  obtain⟨a5,c5,rfl⟩:=row_shape hrw5.row
  have HE:Hid (parT out= .ok l2):=hp2
  have hst5:=(hst4.up hb5).up (alB w5 fz)
  have HSg:=stE_any hst5
  have hs5:=hb5.size
  have hb5':Below w.heap.size w (w5.alloc fz):=(hb4'.trans (hb5.mono hs4)).trans ((alB w5 fz).mono (by omega))
  have hf5:(w5.alloc fz).heap[w.heap.size]? =some fz:=(heap_al _ _ _ (by omega)).trans ((hb5.block _ hf4l).trans hf4)
  clear HP2 hbad hok hrw5 hst4 hst5 hb5 hb4' hf4 hp2
  go_wp2_with fail
  refine HSg.mono ?_
  rintro e w6 ⟨rfl,hb6,_⟩
  obtain⟨g0,g1,k0,k1⟩:=two_of ((hb6.block w.heap.size (by omega)).trans hf5)
  have HZ:Hid (Below w.heap.size w ((w6.setCell ⟨w.heap.size,0,none⟩ (.int .i64 0)).setCell ⟨w.heap.size,1,none⟩ (.int .i64 0))):=((hb5'.trans (hb6.mono (by omega))).setCell (p:=⟨w.heap.size,0,none⟩) (Nat.le_refl _) _).setCell (p:=⟨w.heap.size,1,none⟩) (Nat.le_refl _) _
  clear HSg hb6 hb5' hf5
  go_wp2
  refine bodyPost_ret (v:= .tuple #[.string ⟨out.toArray⟩,.agg #[.int .i64 0,.int .i64 0]]) (by simp[results,Tryz.results7,go_sem,g0,g1]) rfl ⟨.inr ⟨_,HE.out,rfl⟩,HZ.out⟩
def stm1:Sm:=⟨3,[97],[],⟨14,0,[43],[⟨13,0,[],[⟨4,1,[],[],[]⟩],[]⟩,⟨4,2,[],[],[]⟩],[]⟩,[],[]⟩
def stm2:Sm:=⟨3,[97],[],⟨11,0,[],[⟨7,0,[],[⟨4,1,[],[],[]⟩,⟨4,2,[],[],[]⟩],[]⟩,⟨4,0,[],[],[]⟩],[]⟩,[],[]⟩
theorem par1:parT [97,32,61,32,45,49,32,43,32,50]= .ok [stm1]:=by kernel_rfl
theorem par2:parT [97,61,91,49,44,50,93,91,48,93]= .ok [stm2]:=by kernel_rfl
theorem par3:parT [97,32,61,32,91,49,44,32,50,93,91,48,93,10]= .ok [stm2]:=by kernel_rfl
theorem dd0:Lib.decDigits 0=[48]:=by rw[Lib.decDigits,dif_pos (by decide)];rfl
theorem dd1:Lib.decDigits 1=[49]:=by rw[Lib.decDigits,dif_pos (by decide)];rfl
theorem dd2:Lib.decDigits 2=[50]:=by rw[Lib.decDigits,dif_pos (by decide)];rfl
theorem wri2:wrL 5 40 [stm2]=[97,32,61,32,91,49,44,32,50,93,91,48,93,10]:=by
 have e:wrL 5 40 [stm2]=[97,32,61,32,91]++Lib.decDigits 1++[44,32]++Lib.decDigits 2++[93,91]++Lib.decDigits 0++[93,10]:=by
  show([97]++([32]++([61]++([32]++([91]++(Lib.decDigits 1++([44]++([32]++(Lib.decDigits 2++([93]++([91]++(Lib.decDigits 0++([93]++[])))))))))))))++[10]=_
  simp
 rw[e,dd0,dd1,dd2]
 rfl
theorem wfx2:∀ s∈[stm2],WfX 5 40 false false s:=fun s hs=>by
 rw[List.mem_singleton.1 hs]
 have i:∀ k n,k≤9007199254740991→WfE (n+1) ⟨4,k,[],[],[]⟩:=fun k n h=>⟨rfl,h⟩
 refine⟨rfl,⟨by decide,rfl,by decide⟩,rfl,rfl,fun k hk=>?_,rfl⟩
 rcases List.mem_cons.1 hk with rfl|hk
 ·refine⟨rfl,fun k hk=>?_⟩
  rcases List.mem_cons.1 hk with rfl|hk
  ·exact i 1 _ (by decide)
  ·rw[List.mem_singleton.1 hk]
   exact i 2 _ (by decide)
 ·rw[List.mem_singleton.1 hk]
  exact i 0 _ (by decide)
theorem sbegun_any (w:World)(hr:ErrR w)(ht:TabW w):
  Calls Tryz.prog 6 #[] w fun e w'=>e= .returned (.bool true)∧Below w.heap.size w w':=by
 have HP:Calls Tryz.prog 8 #[.string ⟨#[97,32,61,32,45,49,32,43,32,50]⟩] w (ParP w (.ok [stm1])):=by
  have h:=Parse_told [97,32,61,32,45,49,32,43,32,50] w hr
  rw[par1]at h
  exact h
 have HC:Hid (∀ W,ErrR W→TabW W→Calls Tryz.prog 7 #[.string ⟨#[97,61,91,49,44,50,93,91,48,93]⟩] W fun e w'=>e= .returned (.tuple #[.string ⟨#[97,32,61,32,91,49,44,32,50,93,91,48,93,10]⟩,.agg #[.int .i64 0,.int .i64 0]])∧Below W.heap.size W w'):=fun W h1 h2=>(Canon_told [97,61,91,49,44,50,93,91,48,93] W h1 h2 par2 wfx2 (by rw[wri2];decide)).mono fun e w' ⟨h,hb⟩=>by
  rw[wri2]at h
  rcases h with⟨x,h3,_⟩|⟨m,_,he⟩
  ·rw[par3]at h3
   cases h3
  ·exact⟨he,hb⟩
 have HR:Hid (ErrR w∧TabW w):=⟨hr,ht⟩
 clear hr ht
 go_enter Tryz.func6,Tryz.ntmps6
 go_wp2_with fail
 refine HP.mono ?_
 rintro e w1 ⟨_,hok,hb1⟩
 obtain⟨v,vs,rfl,hrw⟩:=hok [stm1] rfl
 obtain⟨a1,c1,rfl⟩:=row_shape hrw.row
 have hbX:Below w.heap.size w (w1.alloc fz):=hb1.trans ((alB w1 fz).mono hb1.size)
 have hfX:(w1.alloc fz).heap[w1.heap.size]? =some fz:=heap_alloc_new w1 fz
 have s1:(w1.alloc fz).heap.size=w1.heap.size+1:=World.size_alloc _ _
 have HCa:=HC.out (w1.alloc fz) (HR.out.1.bel hbX (Nat.le_refl _)) (HR.out.2.bel hbX (Nat.le_refl _))
 have hrt:RwT _ (w1.alloc fz) [stm1] _ vs:=hrw.rt.up (fun g hg=>heap_al w1 _ g hg.2)
 clear HP hok hrw
 go_wp2_with fail
 refine HCa.mono ?_
 rintro e w2 ⟨rfl,hb2⟩
 have hb2':Below w.heap.size w (w2.alloc fz):=(hbX.trans (hb2.mono hbX.size)).trans ((alB w2 fz).mono (by have:=hb2.size;have:=hbX.size;omega))
 have hs2:=hb2.size
 have hrt2:RwT _ (w2.alloc fz) [stm1] _ vs:=hrt.up (fun g hg=>(heap_al w2 _ g (by have:=hg.2;omega)).trans (hb2.block g (by have:=hg.2;omega)))
 obtain⟨g,qq,rfl,hsm,hten⟩:=hrt2.atT 0 (by simp)
 have v0:=hten.1
 have v0':(w2.alloc fz).cell? ⟨g,0,none⟩=some (.int .i64 3):=v0
 obtain⟨f0,f1,_,_⟩:=two_of ((heap_al w2 fz w1.heap.size (by omega)).trans ((hb2.block w1.heap.size (by omega)).trans hfX))
 have s2:(w2.alloc fz).heap.size=w2.heap.size+1:=World.size_alloc _ _
 have hcv:(convert 34 9 (.slice (some ⟨w2.heap.size+1,0,none⟩) 1 1)).run Tryz.prog ((w2.alloc fz).alloc (.cells #[.int .u8 10] 5))= .ok (.string ⟨#[10]⟩) ((w2.alloc fz).alloc (.cells #[.int .u8 10] 5)):=
  run_convert_bytes_back _ 34 9 5 ⟨w2.heap.size+1,0,none⟩ 1 [10] Tryz.underlying34 Tryz.underlying5 Tryz.underlying9 fun j hj=>by
   have hj0:j=0:=by simpa using hj
   subst hj0
   have:=heap_alloc_new (w2.alloc fz) (.cells #[.int .u8 10] 5)
   rw[s2]at this
   rw[add0,Lib.cell_of_heap this]
   rfl
 have HBz:Hid (Below w.heap.size w ((w2.alloc fz).alloc (.cells #[.int .u8 10] 5))):=hb2'.trans ((alB _ _).mono hb2'.size)
 have hcat:((⟨#[97,32,61,32,91,49,44,32,50,93,91,48,93]⟩:ByteArray)++⟨#[10]⟩).toList=[97,32,61,32,91,49,44,32,50,93,91,48,93,10]:=by rw[Lib.toList_data];simp
 clear HCa hb2 hrt hrt2 hsm hten v0 hbX hfX
 go_wp2
 go_ret
 exact⟨rfl,HBz.out⟩
end Go.Proofs.YtcaeeackccgclaaGreatDoor
namespace Go.Proofs.YtcaeeackccgclaaGreatDoor
open Go.ChangeShapes Go.WideShapes Go.ChangeAt Go.RowKit Go.Shelf
theorem witness_up {H:Type}{enc:TypeId×Value→H}{C:Checked}{os:Os}{f:FuncId}{fn:Func}{s:OpenSpec}{conds:List PathCond}{apart:Bool}{laid:List (String×DataW Unit)}(w0:World)(args:Array Value)(hos:w0.os=os)
  (hsh:(w0.forCall (fun _ _=>0) ⟨#[],args,[]⟩).Shaped C.prog)
  (hok:Input.okWideB C.prog (w0.forCall (fun _ _=>0) ⟨#[],args,[]⟩) f ⟨#[],args,[]⟩=true)
  (hrow:s.preRow enc C.prog fn conds apart laid (w0.forCall (fun _ _=>0) ⟨#[],args,[]⟩).memory args):
  ∃ (w:World) (tape:Tape) (i:Input),w.os=os∧(w.forCall tape i).Shaped C.prog∧i.vars=[]∧Input.okWide C.prog (w.forCall tape i) .any w.heap.size f i∧
   s.preRow enc C.prog fn conds apart laid (w.forCall tape i).memory i.args∧({}:Assume).holds C.prog (lone (Frame.enter C.prog f i.args .normal) [] (w.forCall tape i)):=
 ⟨w0,fun _ _=>0,⟨#[],args,[]⟩,hos,hsh,(Input.okWide_of_okWideB (base:=0) hok).1,(Input.okWide_of_okWideB hok).2,hrow,by
  simp only[Assume.holds]
  exact⟨by simp,by simp,fun _=>Modest.zero,by simp,by simp⟩⟩
theorem own:ownKnob Tryz.prog.godebug=none:=by kernel_rfl
theorem starE: "*" ++ "errors.errorString" = "*errors.errorString" :=by decide +kernel
theorem rowE (u:TypeId)(h:Tryz.prog.typeName? 3 u=some "*errors.errorString"):u=146:=
 typeName_ptr_named (nm:= "errors.errorString") (by rw[starE];kernel_rfl) (by kernel_rfl) (by decide) u (by rw[starE];exact h)
theorem tab_laid {W:World}{rest:List (String×DataW Unit)}{ps:List MemPlace}(h:DataW.LaidVars Tryz.prog W (("internal/strconv.uint64pow10",Rows.laid_internal_strconv_uint64pow10)::rest) ps):Lib.TabIs Tryz.prog W "internal/strconv.uint64pow10" .u64 Lib.pow10Tab:=by
 rw[show Rows.laid_internal_strconv_uint64pow10=Lib.tabData .u64 Lib.pow10Tab by kernel_rfl]at h
 obtain⟨g,t,cs,fuel,p,q,hg,ht,hvar,hd,_,_⟩:=h
 have hg0:Tryz.prog.globalNamed "internal/strconv.uint64pow10" =some 1:=by kernel_rfl
 obtain rfl:=Option.some.inj (hg0.symm.trans hg)
 have ht0:(Tryz.prog.globals[1]?).map (·.type)=some 136:=by kernel_rfl
 obtain rfl:=Option.some.inj (ht0.symm.trans ht)
 unfold Lib.TabIs
 rw[hvar,←Lib.cells_of_tab Tryz.underlying136 Tryz.underlying91 (by kernel_rfl) (by kernel_rfl) hd]
theorem err_syntaxBackUpto {W:World}(h:laidMetH Tryz.prog Rows.syntaxBackUptoRow.laid W):ErrR W:=by
 rw[MakeChecks.laidMetH_plain _ _ _ (by kernel_rfl)]at h
 have h3:laidMet Tryz.prog (Rows.syntaxBackUptoRow.laid.drop 3) W:=h.tail.tail.tail
 obtain⟨a,s,hv,_⟩:=laid_sentinel (P:=Tryz.prog) (n:= "strconv.ErrRange") (nm:= "*errors.errorString") (g:=3) (ti:=63) (tp:=146) (te:=148) (ts:=9) h3 (by kernel_rfl) (by kernel_rfl) Tryz.underlying63 rowE Tryz.underlying146 Tryz.underlying148 rfl rfl Tryz.underlying9 (by kernel_rfl) (by kernel_rfl)
 exact⟨_,World.var?_cell (by kernel_rfl) hv 0,.inr ⟨_,_,rfl⟩⟩
theorem tab_syntaxBackUpto {W:World}(h:laidMetH Tryz.prog Rows.syntaxBackUptoRow.laid W):TabW W:=by
 rw[MakeChecks.laidMetH_plain _ _ _ (by kernel_rfl)]at h
 have h3:laidMet Tryz.prog (Rows.syntaxBackUptoRow.laid.drop 2) W:=h.tail.tail
 obtain⟨ps,hv,_,_⟩:=h3
 exact tab_laid hv
end Go.Proofs.YtcaeeackccgclaaGreatDoor
namespace Go.Proofs.YtcaeeackccgclaaGreatDoor
open Go.RowKit Go.Shelf
def RowAt (w:World)(sz:Nat)(v:Value)(n:Nat)(xs:List Value):Prop:=∃ a c,v= .slice a n c∧(n=0∨∃ g,a=some ⟨g,0,none⟩∧g<w.heap.size∧∀ j,j<n*sz→w.cell? ⟨g,j,none⟩=xs[j]?)∧n≤maxLen
theorem wrap1 {k n:Nat}(h:k<n)(hn:n≤maxLen):IntKind.i64.wrap ((k:Int)+1)=(k:Int)+1:=by
 have h2:maxLen=9223372036854775807:=rfl
 rw[h2]at hn
 exact IntWalk.i64_in _ ⟨by omega,by omega⟩
theorem row_at {w:World}{B:Nat}{e:TypeId}{sz:Nat}{v:Value}{n:Nat}{xs:List Value}(h:w.ownsRow B e sz v n xs):RowAt w sz v n xs:=by
 rcases h.2 with⟨rfl,rfl⟩|⟨g,cap,cur,rfl,_,hg,h1,h2,_⟩
 ·exact⟨none,0,rfl,.inl rfl,Nat.zero_le _⟩
 ·refine⟨_,cap,rfl,.inr ⟨g,rfl,(Array.getElem?_eq_some_iff.1 hg).1,fun j hj=>h.cellAt j hj⟩,Nat.le_trans h1 h2⟩
theorem RowAt.keep {w w':World}{sz:Nat}{v:Value}{n:Nat}{xs:List Value}(h:RowAt w sz v n xs)(hk:∀ g,g<w.heap.size→w'.heap[g]? =w.heap[g]?):RowAt w' sz v n xs:=by
 obtain⟨a,c,e,h1,h2⟩:=h
 refine⟨a,c,e,?_,h2⟩
 rcases h1 with h1|⟨g,e1,h3,h4⟩
 ·exact .inl h1
 ·refine .inr ⟨g,e1,?_,fun j hj=>?_⟩
  ·have h5:=(hk g h3).trans (Array.getElem?_eq_getElem h3)
   exact(Array.getElem?_eq_some_iff.1 h5).1
  ·rw[←h4 j hj]
   simp[World.cell?,hk g h3]
theorem STexts_ok (v u:Value)(l:List (List UInt8))(w:World)(hx:RowAt w 1 v l.length (l.map sv))(hy:RowAt w 1 u l.length (l.map sv)):
  Calls Tryz.prog 15 #[v,u] w fun e w'=>e= .returned (.bool true)∧∃ m,w'=w.drewN m:=by
 obtain⟨xa,xc,rfl,hx,hn⟩:=hx
 obtain⟨ya,yc,rfl,hy,_⟩:=hy
 have HX:Hid (l.length=0∨∃ g,xa=some ⟨g,0,none⟩∧g<w.heap.size∧∀ j,j<l.length*1→w.cell? ⟨g,j,none⟩=(l.map sv)[j]?):=hx
 have HY:Hid (l.length=0∨∃ g,ya=some ⟨g,0,none⟩∧g<w.heap.size∧∀ j,j<l.length*1→w.cell? ⟨g,j,none⟩=(l.map sv)[j]?):=hy
 have HN:Hid (l.length≤maxLen):=hn
 clear hx hy hn
 go_enter Tryz.func15,Tryz.ntmps15
 go_wp2
 go_loopw [5] (fun i wr=>∃ k m:Nat,k≤l.length∧i= .int .i64 k∧wr=w.drewN m) (fun i _=>l.length-(intOf i).toNat)
 case atStart=>exact⟨0,0,Nat.zero_le _,rfl,rfl⟩
 case round=>
  obtain⟨k,m,hk,rfl,rfl⟩:=hrel
  by_cases hlt:k<l.length
  ·rcases HX.out with h|⟨g,rfl,_,ca⟩
   ·exfalso;omega
   rcases HY.out with h|⟨g',rfl,_,cb⟩
   ·exfalso;omega
   have a0:=ca k (by omega)
   have b0:=cb k (by omega)
   rw[List.getElem?_map,List.getElem?_eq_getElem hlt]at a0 b0
   replace a0:w.cell? ⟨g,k,none⟩=some (.string (mkB l[k])):=a0
   replace b0:w.cell? ⟨g',k,none⟩=some (.string (mkB l[k])):=b0
   have hki:(k:Int)<(l.length:Int):=by omega
   have hwr:=wrap1 hlt HN.out
   clear ca cb
   generalize mkB l[k]=x at a0 b0
   go_wp2
   go_region
   all_goals go_wp2
   all_goals exact⟨⟨k+1,m+1,by omega,by go_num,rfl⟩,by simp[intOf];omega⟩
  ·obtain rfl:k=l.length:=by omega
   have hki:¬(l.length:Int)<(l.length:Int):=by omega
   go_wp2
   go_ret
   exact⟨rfl,m,rfl⟩
def ExR (w:World)(n:Nat)(v:Value)(l:List Ex):Prop:=∃ vs,RowAt w 5 v l.length vs.flatten∧Fa (ExV w (fun _=>True) n) l vs
theorem ExR.drewN {w:World}{n:Nat}{v:Value}{l:List Ex}(h:ExR w n v l)(m:Nat):ExR (w.drewN m) n v l:=by
 obtain⟨vs,h1,h2⟩:=h
 exact⟨vs,h1,h2.mono fun _ _ f=>ExV.keep (w:=w) (w':=w.drewN m) (S:=fun _=>True) (Q:=fun _=>True) (fun _ _ _=>rfl) (fun _ _ _=>trivial) f⟩
theorem ExR.keep {w w':World}{n:Nat}{v:Value}{l:List Ex}(h:ExR w n v l)(hk:∀ g,g<w.heap.size→w'.heap[g]? =w.heap[g]?):ExR w' n v l:=by
 obtain⟨vs,h1,h2⟩:=h
 exact⟨vs,h1.keep hk,h2.mono fun _ _ f=>ExV.keep (w:=w) (w':=w') (S:=fun _=>True) (Q:=fun _=>True) (fun g _ hg=>hk g hg) (fun _ _ _=>trivial) f⟩
theorem fa_len5 {w:World}{S:Nat→Prop}{n:Nat}:∀ {l:List Ex} {vs:List (List Value)},Fa (ExV w S n) l vs→∀ c∈vs,c.length=5
 |[],[],_=>by simp
 |a::l,b::m,f=>fun c hc=>by
  rcases List.mem_cons.1 hc with e|e
  ·rw[e];exact f.1.len
  ·exact fa_len5 f.2 c e
theorem ExR.at_ {w:World}{n:Nat}{v:Value}{l:List Ex}(h:ExR w (n+1) v l){a:Option Addr}{cp:Nat}(hv:v= .slice a l.length cp)(k:Nat)(hk:k<l.length):∃ g kv nv,a=some ⟨g,0,none⟩∧
  w.cell? ⟨g,k*5,none⟩=some (.int .i64 l[k].kind)∧w.cell? ⟨g,k*5+1,none⟩=some (.int .i64 l[k].num)∧w.cell? ⟨g,k*5+2,none⟩=some (sv l[k].text)∧w.cell? ⟨g,k*5+3,none⟩=some kv∧w.cell? ⟨g,k*5+4,none⟩=some nv∧
  ExR w n kv l[k].kids∧RowAt w 1 nv l[k].names.length (l[k].names.map sv):=by
 obtain⟨vs,⟨a2,c2,e2,h2,_⟩,hfa⟩:=h
 have hl:=hfa.len
 have h5:=fa_len5 hfa
 have hx:=hfa.get k hk (by omega)
 obtain⟨kv,nv,vk,e,r1,r2,_,_,r5⟩:=hx
 rw[hv]at e2
 injection e2 with e3 _ _
 subst e3
 rcases h2 with h2|⟨g,rfl,hgl,hc⟩
 ·exfalso;omega
 have hat:∀ i,i<5→w.cell? ⟨g,k*5+i,none⟩=([.int .i64 l[k].kind,.int .i64 l[k].num,sv l[k].text,kv,nv]:List Value)[i]? :=fun i hi=>by
  rw[hc (k*5+i) (by omega),flat5 vs h5 k vs[k] (List.getElem?_eq_getElem _) i hi,e]
 exact⟨g,kv,nv,rfl,hat 0 (by decide),hat 1 (by decide),hat 2 (by decide),hat 3 (by decide),hat 4 (by decide),⟨vk,row_at r1,r5⟩,row_at r2⟩
def ExPair (w:World)(xa ya:Option Addr)(k:Nat):Prop:=∃ g g' kd nm tx kv nv kv' nv',xa=some ⟨g,0,none⟩∧ya=some ⟨g',0,none⟩∧
  (w.cell? ⟨g,k*5,none⟩=some (.int .i64 kd)∧w.cell? ⟨g,k*5+1,none⟩=some (.int .i64 nm)∧w.cell? ⟨g,k*5+2,none⟩=some (.string tx)∧w.cell? ⟨g,k*5+3,none⟩=some kv∧w.cell? ⟨g,k*5+4,none⟩=some nv)∧
  (w.cell? ⟨g',k*5,none⟩=some (.int .i64 kd)∧w.cell? ⟨g',k*5+1,none⟩=some (.int .i64 nm)∧w.cell? ⟨g',k*5+2,none⟩=some (.string tx)∧w.cell? ⟨g',k*5+3,none⟩=some kv'∧w.cell? ⟨g',k*5+4,none⟩=some nv')∧
  Hid (∀ M,Calls Tryz.prog 15 #[nv,nv'] (w.drewN M) fun e w'=>e= .returned (.bool true)∧∃ m,w'=(w.drewN M).drewN m)∧
  Hid (∀ M,Calls Tryz.prog 16 #[kv,kv'] (w.drewN M) fun e w'=>e= .returned (.bool true)∧∃ m,w'=(w.drewN M).drewN m)
theorem SExprs_walk (xa ya:Option Addr)(n xc yc:Nat)(w:World)(hn:n≤maxLen)(HA:Hid (∀ k m,k<n→ExPair (w.drewN m) xa ya k)):
  Calls Tryz.prog 16 #[.slice xa n xc,.slice ya n yc] w fun e w'=>e= .returned (.bool true)∧∃ m,w'=w.drewN m:=by
 have HN:Hid (n≤maxLen):=hn
 clear hn
 go_enter Tryz.func16,Tryz.ntmps16
 go_wp2
 go_loopw [5] (fun i wr=>∃ k m:Nat,k≤n∧i= .int .i64 k∧wr=w.drewN m) (fun i _=>n-(intOf i).toNat)
 case atStart=>exact⟨0,0,Nat.zero_le _,rfl,rfl⟩
 case round=>
  obtain⟨k,m,hk,rfl,rfl⟩:=hrel
  by_cases hlt:k<n
  ·have hki:(k:Int)<(n:Int):=by omega
   have hwr:=wrap1 hlt HN.out
   obtain⟨g,g',kd,nm,tx,kv,nv,kv',nv',rfl,rfl,⟨a0,a1,a2,a3,a4⟩,⟨b0,b1,b2,b3,b4⟩,HT,HE⟩:=HA.out k m hlt
   obtain⟨W,hW⟩:∃ W,W=w.drewN m:=⟨_,rfl⟩
   have HW:Hid (W=w.drewN m):=hW
   rw[←hW]at a0 a1 a2 a3 a4 b0 b1 b2 b3 b4 HT HE ⊢
   clear hW
   go_wp2
   go_quiet (first|(go_at_call 15;exact Calls.quiet_of (HT.out _))|(go_at_call 16;exact Calls.quiet_of (HE.out _)))
   go_wp2
   exact⟨⟨k+1,_,by omega,by go_num,by rw[HW.out,World.drewN_drewN]⟩,by simp[intOf];omega⟩
  ·obtain rfl:k=n:=by omega
   have hki:¬(k:Int)<(k:Int):=by omega
   go_wp2
   go_ret
   exact⟨rfl,m,rfl⟩
theorem SExprs_ok:∀ (n:Nat) (v u:Value) (l:List Ex) (w:World),ExR w n v l→ExR w n u l→
  Calls Tryz.prog 16 #[v,u] w fun e w'=>e= .returned (.bool true)∧∃ m,w'=w.drewN m:=by
 intro n
 induction n with
 |zero=>
  intro v u l w hx hy
  obtain⟨vs,⟨xa,xc,rfl,_,hn⟩,hf⟩:=hx
  obtain⟨us,⟨ya,yc,rfl,_,_⟩,_⟩:=hy
  refine SExprs_walk xa ya l.length xc yc w hn fun k m hk=>?_
  match l,vs,hf,hk with
  |a::l,b::vs,hf,_=>exact hf.1.elim
 |succ n ih=>
  intro v u l w hx hy
  have hx0:=hx
  have hy0:=hy
  obtain⟨_,⟨xa,xc,rfl,_,hn⟩,_⟩:=hx0
  obtain⟨_,⟨ya,yc,rfl,_,_⟩,_⟩:=hy0
  refine SExprs_walk xa ya l.length xc yc w hn fun k m hk=>?_
  obtain⟨g,kv,nv,rfl,a0,a1,a2,a3,a4,a5,a6⟩:=(hx.drewN m).at_ rfl k hk
  obtain⟨g',kv',nv',rfl,b0,b1,b2,b3,b4,b5,b6⟩:=(hy.drewN m).at_ rfl k hk
  exact⟨g,g',_,_,_,kv,nv,kv',nv',rfl,rfl,⟨a0,a1,a2,a3,a4⟩,⟨b0,b1,b2,b3,b4⟩,fun M=>STexts_ok nv nv' l[k].names ((w.drewN m).drewN M) a6 b6,fun M=>ih kv kv' l[k].kids ((w.drewN m).drewN M) (a5.drewN M) (b5.drewN M)⟩
theorem bs_wp {a:Act}{W:World}{K:Act→World→Prop}{Q:Exit→Act→World→Prop}{x0 x1:Int}{t:ByteArray}{a1:Option Addr}{n1 c1:Nat}{a2:Option Addr}{n2 c2:Nat}{n:Nat}{o:Oper}(ho:o.op= .buildSlice 36 1 #[(0,.tmp n)])(he:a.eval (.tmp n)= .agg #[.int .i64 x0,.int .i64 x1,.string t,.slice a1 n1 c1,.slice a2 n2 c2])
  (hK:K (a.put o.dst (.slice (some ⟨W.heap.size,0,none⟩) 1 1)) (W.alloc (.cells #[.int .i64 x0,.int .i64 x1,.string t,.slice a1 n1 c1,.slice a2 n2 c2] 38))):Oper.wp Tryz.prog o a W K Q:=by
 have h:(execOp a.eval o).run Tryz.prog W= .ok (.value (.slice (some ⟨W.heap.size,0,none⟩) 1 1)) (W.alloc (.cells #[.int .i64 x0,.int .i64 x1,.string t,.slice a1 n1 c1,.slice a2 n2 c2] 38)):=by
  generalize hz:a.eval=ev at *
  unfold execOp
  rw[ho]
  have e3:((#[(0,Operand.tmp n)]:Array (Nat×Operand)).map fun x=>(x.1,ev x.2))=#[(0,ev (Operand.tmp n))]:=by simp
  simp only[e3]
  simp[he,Instr.buildSlice,go_sem]
 unfold Oper.wp
 rw[h]
 exact hK
end Go.Proofs.YtcaeeackccgclaaGreatDoor
