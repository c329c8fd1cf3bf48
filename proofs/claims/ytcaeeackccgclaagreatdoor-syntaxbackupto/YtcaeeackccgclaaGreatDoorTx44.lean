/- 44. -/
import Derived.Test.YtcaeeackccgclaaGreatDoorTx43
import Derived.Test.YtcaeeackccgclaaGreatDoorTx41
set_option maxHeartbeats 40000000
set_option maxRecDepth 100000
namespace Go.Proofs.YtcaeeackccgclaaGreatDoor
open Go.RowKit Go.Shelf
def parR (L:List UInt8):Option (Except Ft (List Sm)):=match splitA L with
 | .error (k,z)=>bif k==0 then none else some (.error (k,z))
 | .ok toks=>match srcF (exF 40) ⟨toks,L.length,0,false,0⟩with
  |none=>none
  |some (.error x)=>some (.error x)
  |some (.ok (l,_))=>some (.ok l)
theorem parR_some {L:List UInt8}{r:Except Ft (List Sm)}(h:parR L=some r):(∃ k z,splitA L= .error (k,z)∧k≠0∧r= .error (k,z))∨∃ toks,splitA L= .ok toks∧((∃ x,srcF (exF 40) ⟨toks,L.length,0,false,0⟩=some (.error x)∧r= .error x)∨∃ l q,srcF (exF 40) ⟨toks,L.length,0,false,0⟩=some (.ok (l,q))∧r= .ok l):=by
 unfold parR at h
 match hs:splitA L,h with
 | .error (k,z),h=>
  simp only at h
  cases hk:k==0 with
  |true=>rw[hk]at h;cases h
  |false=>
   rw[hk]at h
   cases h
   exact .inl ⟨k,z,rfl,by simpa using hk,rfl⟩
 | .ok toks,h=>
  simp only at h
  match hr:srcF (exF 40) ⟨toks,L.length,0,false,0⟩,h with
  |some (.error x),h=>cases h;exact .inr ⟨toks,rfl,.inl ⟨x,hr,rfl⟩⟩
  |some (.ok (l,q)),h=>cases h;exact .inr ⟨toks,rfl,.inr ⟨l,q,hr,rfl⟩⟩
theorem Parse_fault (L:List UInt8)(w:World)(hr:ErrR w){k z:Nat}(hk:k≠0)(h1:splitA L= .error (k,z)):
  Calls Tryz.prog 8 #[.string (mkB L)] w (ParP w (.error (k,z))):=by
 have hrW:ErrR (w.alloc (.cells #[.int .i64 0,.int .i64 0] 25)):=hr.up (alB w _)
 have HS:=Split_any L (w.alloc (.cells #[.int .i64 0,.int .i64 0] 25)) hrW
 rw[h1]at HS
 have HB:Hid (Below w.heap.size w (w.alloc (.cells #[.int .i64 0,.int .i64 0] 25))):=alB w _
 have hs0:(w.alloc (.cells #[.int .i64 0,.int .i64 0] 25)).heap.size=w.heap.size+1:=World.size_alloc _ _
 have hf0:=heap_alloc_new w (.cells #[.int .i64 0,.int .i64 0] 25)
 have hki:¬(k:Int)=0:=by omega
 have hkb:((k:Int)==0)=false:=beq_eq_false_iff_ne.2 hki
 clear h1 hrW hr hk
 go_enter Tryz.func8,Tryz.ntmps8
 go_wp2_with fail
 refine HS.mono ?_
 rintro e w1 ⟨hbad,_,hb1⟩
 obtain rfl:=hbad k z rfl
 have hf1:=(hb1.block w.heap.size (by omega)).trans hf0
 have hs1:w.heap.size<w1.heap.size:=(Array.getElem?_eq_some_iff.1 hf1).1
 have g0:w1.cell? ⟨w.heap.size,0,none⟩=some (.int .i64 0):=by rw[Lib.cell_of_heap hf1];rfl
 have g1:w1.cell? ⟨w.heap.size,1,none⟩=some (.int .i64 0):=by rw[Lib.cell_of_heap hf1];rfl
 have k0:w1.frozen? ⟨w.heap.size,0,none⟩=false:=Lib.frozen_of_heap hf1 0
 have k1:w1.frozen? ⟨w.heap.size,1,none⟩=false:=Lib.frozen_of_heap hf1 1
 have hbs:=((HB.out.trans (hb1.mono (by omega))).setCell (p:=⟨w.heap.size,0,none⟩) (Nat.le_refl _) (.int .i64 (k:Int))).setCell (p:=⟨w.heap.size,1,none⟩) (Nat.le_refl _) (.int .i64 (z:Int))
 have HZ:Hid (Below w.heap.size w ((((w1.setCell ⟨w.heap.size,0,none⟩ (.int .i64 (k:Int))).setCell ⟨w.heap.size,1,none⟩ (.int .i64 (z:Int))).alloc (.cells #[.int .i64 k,.int .i64 z] 25)).drew)):=(hbs.alloc (by have:=hbs.size;omega) _).drew
 clear hbad hb1 hf1 hf0 HS hbs
 go_wp2
 go_region
 all_goals
  go_wp2
  refine bodyPost_ret (v:= .tuple #[.slice none 0 0,.agg #[.int .i64 k,.int .i64 z]]) (by simp[results,Tryz.results8,go_sem,g0,g1,hs1]) rfl ⟨fun k' z' hz=>?_,(fun l' hl'=>by cases hl'),HZ.out⟩
  cases hz
  rfl
theorem Parse_err (L:List UInt8)(w:World)(hr:ErrR w){toks:List Tk}{k z:Nat}(h1:splitA L= .ok toks)(h3:srcF (exF 40) ⟨toks,L.length,0,false,0⟩=some (.error (k,z))):
  Calls Tryz.prog 8 #[.string (mkB L)] w (ParP w (.error (k,z))):=by
 have hrW:ErrR (w.alloc (.cells #[.int .i64 0,.int .i64 0] 25)):=hr.up (alB w _)
 have HS:=Split_any L (w.alloc (.cells #[.int .i64 0,.int .i64 0] 25)) hrW
 rw[h1]at HS
 have HP:Hid (∀ (V:World) (B:Nat) (tv:Value),ErrR V→V.ownsRow B 84 4 tv toks.length (tcs toks)→Calls Tryz.prog 14 #[tv,.int .i64 L.length] V (ParP V (.error (k,z)))):=fun V B tv he hV=>parse_err he L.length hV (fun P T=>exF_any 40) h3
 have HB:Hid (Below w.heap.size w (w.alloc (.cells #[.int .i64 0,.int .i64 0] 25))):=alB w _
 have hs0:(w.alloc (.cells #[.int .i64 0,.int .i64 0] 25)).heap.size=w.heap.size+1:=World.size_alloc _ _
 have hf0:=heap_alloc_new w (.cells #[.int .i64 0,.int .i64 0] 25)
 have hsz:=mk_size L
 have HErr:Hid (∀ W',Below w.heap.size w W'→ErrR W'):=fun W' hb=>hr.up hb
 clear h1 h3 hrW hr
 go_enter Tryz.func8,Tryz.ntmps8
 go_wp2_with fail
 refine HS.mono ?_
 rintro e w1 ⟨_,hok,hb1⟩
 obtain⟨tv,rfl,hown⟩:=hok toks rfl
 obtain⟨ao,cp,rfl⟩:=row_shape hown
 have hf1:=(hb1.block w.heap.size (by omega)).trans hf0
 have hs1:w.heap.size<w1.heap.size:=(Array.getElem?_eq_some_iff.1 hf1).1
 have hownX:(w1.alloc (.cells #[.int .i64 0,.int .i64 0] 25)).ownsRow _ 84 4 (.slice ao toks.length cp) toks.length (tcs toks):=own_heap hown (fun g hg=>heap_al w1 _ g (hown.lt g hg).2)
 have HPa:=HP.out _ _ _ (HErr.out _ (HB.out.trans ((hb1.trans ((alB w1 _).mono hb1.size)).mono (by omega)))) hownX
 have hf2:(w1.alloc (.cells #[.int .i64 0,.int .i64 0] 25)).heap[w.heap.size]? =some (.cells #[.int .i64 0,.int .i64 0] 25 (0,0)):=(heap_al _ _ _ hs1).trans hf1
 have HQ:Hid (Below w.heap.size w (w1.alloc (.cells #[.int .i64 0,.int .i64 0] 25))∧(w1.alloc (.cells #[.int .i64 0,.int .i64 0] 25)).heap[w.heap.size]? =some (.cells #[.int .i64 0,.int .i64 0] 25 (0,0))):=⟨(HB.out.trans (hb1.mono (by omega))).trans ((alB w1 _).mono (by omega)),hf2⟩
 clear hok hb1 hown hownX hf1 hf2 HP HS hf0
 go_wp2_with fail
 refine HPa.mono ?_
 rintro e w2 ⟨hbad,_,hb2⟩
 obtain rfl:=hbad k z rfl
 have hf3:=(hb2.block w.heap.size (Array.getElem?_eq_some_iff.1 HQ.out.2).1).trans HQ.out.2
 have g0:w2.cell? ⟨w.heap.size,0,none⟩=some (.int .i64 0):=by rw[Lib.cell_of_heap hf3];rfl
 have g1:w2.cell? ⟨w.heap.size,1,none⟩=some (.int .i64 0):=by rw[Lib.cell_of_heap hf3];rfl
 have k0:w2.frozen? ⟨w.heap.size,0,none⟩=false:=Lib.frozen_of_heap hf3 0
 have k1:w2.frozen? ⟨w.heap.size,1,none⟩=false:=Lib.frozen_of_heap hf3 1
 have HZ:Hid (Below w.heap.size w ((w2.setCell ⟨w.heap.size,0,none⟩ (.int .i64 (k:Int))).setCell ⟨w.heap.size,1,none⟩ (.int .i64 (z:Int)))):=((HQ.out.1.trans (hb2.mono HQ.out.1.size)).setCell (p:=⟨w.heap.size,0,none⟩) (Nat.le_refl _) _).setCell (p:=⟨w.heap.size,1,none⟩) (Nat.le_refl _) _
 clear hbad hb2 hf3 HPa HQ
 go_wp2
 refine bodyPost_ret (v:= .tuple #[.slice none 0 0,.agg #[.int .i64 k,.int .i64 z]]) (by simp[results,Tryz.results8,go_sem,g0,g1]) rfl ⟨fun k' z' hz=>?_,(fun l' hl'=>by cases hl'),HZ.out⟩
 cases hz
 rfl
theorem Parse_fine (L:List UInt8)(w:World)(hr:ErrR w){toks:List Tk}{l:List Sm}{q:Ps}(h1:splitA L= .ok toks)(h3:srcF (exF 40) ⟨toks,L.length,0,false,0⟩=some (.ok (l,q))):
  Calls Tryz.prog 8 #[.string (mkB L)] w (ParP w (.ok l)):=by
 have hrW:ErrR (w.alloc (.cells #[.int .i64 0,.int .i64 0] 25)):=hr.up (alB w _)
 have HS:=Split_any L (w.alloc (.cells #[.int .i64 0,.int .i64 0] 25)) hrW
 rw[h1]at HS
 have HP:Hid (∀ (V:World) (B:Nat) (tv:Value),ErrR V→V.ownsRow B 84 4 tv toks.length (tcs toks)→Calls Tryz.prog 14 #[tv,.int .i64 L.length] V (ParP V (.ok l))):=fun V B tv he hV=>parse_any he L.length hV (fun P T=>exF_any 40) h3
 have HB:Hid (Below w.heap.size w (w.alloc (.cells #[.int .i64 0,.int .i64 0] 25))):=alB w _
 have hs0:(w.alloc (.cells #[.int .i64 0,.int .i64 0] 25)).heap.size=w.heap.size+1:=World.size_alloc _ _
 have hf0:=heap_alloc_new w (.cells #[.int .i64 0,.int .i64 0] 25)
 have hsz:=mk_size L
 have HErr:Hid (∀ W',Below w.heap.size w W'→ErrR W'):=fun W' hb=>hr.up hb
 clear h1 h3 hrW hr
 go_enter Tryz.func8,Tryz.ntmps8
 go_wp2_with fail
 refine HS.mono ?_
 rintro e w1 ⟨_,hok,hb1⟩
 obtain⟨tv,rfl,hown⟩:=hok toks rfl
 obtain⟨ao,cp,rfl⟩:=row_shape hown
 have hf1:=(hb1.block w.heap.size (by omega)).trans hf0
 have hs1:w.heap.size<w1.heap.size:=(Array.getElem?_eq_some_iff.1 hf1).1
 have hownX:(w1.alloc (.cells #[.int .i64 0,.int .i64 0] 25)).ownsRow _ 84 4 (.slice ao toks.length cp) toks.length (tcs toks):=own_heap hown (fun g hg=>heap_al w1 _ g (hown.lt g hg).2)
 have HPa:=HP.out _ _ _ (HErr.out _ (HB.out.trans ((hb1.trans ((alB w1 _).mono hb1.size)).mono (by omega)))) hownX
 have hf2:(w1.alloc (.cells #[.int .i64 0,.int .i64 0] 25)).heap[w.heap.size]? =some (.cells #[.int .i64 0,.int .i64 0] 25 (0,0)):=(heap_al _ _ _ hs1).trans hf1
 have HQ:Hid (Below w.heap.size w (w1.alloc (.cells #[.int .i64 0,.int .i64 0] 25))∧(w1.alloc (.cells #[.int .i64 0,.int .i64 0] 25)).heap[w.heap.size]? =some (.cells #[.int .i64 0,.int .i64 0] 25 (0,0))):=⟨(HB.out.trans (hb1.mono (by omega))).trans ((alB w1 _).mono (by omega)),hf2⟩
 clear hok hb1 hown hownX hf1 hf2 HP HS hf0
 go_wp2_with fail
 refine HPa.mono ?_
 rintro e w2 ⟨_,hok,hb2⟩
 obtain⟨v,vs,rfl,hrw⟩:=hok l rfl
 obtain⟨a3,c3,rfl⟩:=row_shape hrw.row
 have hf3:=(hb2.block w.heap.size (Array.getElem?_eq_some_iff.1 HQ.out.2).1).trans HQ.out.2
 have g0:w2.cell? ⟨w.heap.size,0,none⟩=some (.int .i64 0):=by rw[Lib.cell_of_heap hf3];rfl
 have g1:w2.cell? ⟨w.heap.size,1,none⟩=some (.int .i64 0):=by rw[Lib.cell_of_heap hf3];rfl
 have k0:w2.frozen? ⟨w.heap.size,0,none⟩=false:=Lib.frozen_of_heap hf3 0
 have k1:w2.frozen? ⟨w.heap.size,1,none⟩=false:=Lib.frozen_of_heap hf3 1
 have HZ:Hid (Below w.heap.size w ((w2.setCell ⟨w.heap.size,0,none⟩ (.int .i64 0)).setCell ⟨w.heap.size,1,none⟩ (.int .i64 0))∧RwS w.heap.size ((w2.setCell ⟨w.heap.size,0,none⟩ (.int .i64 0)).setCell ⟨w.heap.size,1,none⟩ (.int .i64 0)) l (.slice a3 l.length c3) vs):=by
  refine⟨((HQ.out.1.trans (hb2.mono HQ.out.1.size)).setCell (p:=⟨w.heap.size,0,none⟩) (Nat.le_refl _) _).setCell (p:=⟨w.heap.size,1,none⟩) (Nat.le_refl _) _,?_⟩
  have hsX:=(Array.getElem?_eq_some_iff.1 HQ.out.2).1
  exact(hrw.keep (fun g hg _=>(Below.heap_setCell _ ⟨w.heap.size,1,none⟩ _ g (by show ¬g=w.heap.size;omega)).trans (Below.heap_setCell _ ⟨w.heap.size,0,none⟩ _ g (by show ¬g=w.heap.size;omega)))).mono (by omega)
 clear hok hb2 hrw hf3 HPa HQ
 go_wp2
 refine bodyPost_ret (v:= .tuple #[.slice a3 l.length c3,.agg #[.int .i64 0,.int .i64 0]]) (by simp[results,Tryz.results8,go_sem,g0,g1]) rfl ⟨(fun k z hz=>by cases hz),fun l' hl'=>?_,HZ.out.1⟩
 cases hl'
 exact⟨_,vs,rfl,HZ.out.2⟩
theorem Parse_any (L:List UInt8)(w:World)(hr:ErrR w){r:Except Ft (List Sm)}(h:parR L=some r):
  Calls Tryz.prog 8 #[.string (mkB L)] w (ParP w r):=by
 rcases parR_some h with⟨k,z,h1,hk,rfl⟩|⟨toks,h1,⟨⟨k,z⟩,h3,rfl⟩|⟨l,q,h3,rfl⟩⟩
 ·exact Parse_fault L w hr hk h1
 ·exact Parse_err L w hr h1 h3
 ·exact Parse_fine L w hr h1 h3
theorem tok1_bad {L:List UInt8}{p:Sp}{k z:Nat}(h:tok1 L p= .error (k,z)):k≠0:=by
 unfold tok1 at h
 simp only at h
 split at h
 ·split at h
  ·cases h;decide
  ·cases h
 split at h
 ·cases h
 split at h
 ·cases h
 ·cases h
theorem toksF_bad (L:List UInt8):∀ (f i:Nat) (p:Sp) (k z:Nat),SpOk L p 1→L.length<f+p.pos→toksF L f i p= .error (k,z)→k≠0:=by
 intro f
 induction f with
 |zero=>intro i p k z hk hf _;have:=hk.pos;omega
 |succ f ih=>
  intro i p k z hk hf h
  unfold toksF at h
  split at h
  ·cases h
  rename_i he
  split at h
  ·rename_i hr
   cases h
   exact hr
  rename_i hr
  have hr0:refu L p i=0:=by
   by_cases hz:refu L p i=0
   ·exact hz
   ·exact absurd hz hr
  have hp:p.pos<L.length:=by
   unfold endL at he
   simp only[Bool.or_eq_true,decide_eq_true_eq,not_or]at he
   have:=hk.pos
   omega
  split at h
  ·rename_i x hx
   cases h
   exact tok1_bad hx
  rename_i t ht
  obtain⟨a,b⟩:=turn_ok hk hp hr0 ht
  exact ih _ _ _ _ a (by omega) h
theorem lineF_bad {L:List UInt8}{p:Sp}{k z:Nat}(hk:SpOk L p 1)(h:lineF L p= .error (k,z)):k≠0:=by
 have hsk:=skip_ok (L:=L) hk.pos
 have hk1:SpOk L (p.skip L) 1:=⟨hsk.2,hk.ins.of rfl,hk.i31,hk.o30,by show p.toks.length+p.ins.length≤4*(p.skip L).pos+1;have:=hk.cnt;omega⟩
 unfold lineF at h
 split at h
 ·rename_i x hx
  cases h
  exact toksF_bad L _ _ _ _ _ hk1 (by omega) hx
 split at h
 ·cases h;decide
 split at h
 ·cases h
 ·cases h
theorem linesF_bad (L:List UInt8):∀ (f:Nat) (p:Sp) (k z:Nat),SpOk L p 1→L.length<f+p.pos→linesF L f p= .error (k,z)→k≠0:=by
 intro f
 induction f with
 |zero=>intro p k z hk hf _;have:=hk.pos;omega
 |succ f ih=>
  intro p k z hk hf h
  unfold linesF at h
  split at h
  ·cases h
  split at h
  ·rename_i x hx
   cases h
   exact lineF_bad hk hx
  rename_i r hr
  obtain⟨b,c⟩:=lineF_ok hk hr
  split at h
  ·cases h
  ·rename_i hne
   have:=b.pos
   exact ih {r with pos:=r.pos+1} k z ⟨by show r.pos+1≤_;omega,b.ins.of rfl,b.i31,b.o30,by show r.toks.length+r.ins.length≤4*(r.pos+1)+1;have:=b.cnt;omega⟩ (by show L.length<f+(r.pos+1);omega) h
theorem splitL_bad {L:List UInt8}{k z:Nat}(h:splitL L= .error (k,z)):k≠0:=by
 unfold splitL at h
 split at h
 ·rename_i x hx
  cases h
  exact linesF_bad L _ _ _ _ ⟨Nat.zero_le _,⟨by simp,rfl⟩,by decide,by decide,by decide⟩ (by show L.length<L.length+1+0;omega) hx
 ·cases h
theorem linesF_few (L:List UInt8):∀ (f:Nat) (p q:Sp),SpOk L p 1→linesF L f p= .ok q→q.toks.length≤4*L.length+4:=by
 intro f
 induction f with
 |zero=>intro p q _ h;cases h
 |succ f ih=>
  intro p q hk h
  have hend:∀ r:Sp,SpOk L r 2→(r.come 0).toks.length≤4*L.length+4:=fun r hr=>by
   obtain⟨_,_,_,_,c5⟩:=come_ok hr.ins 0
   have h1:=hr.cnt
   have h2:=hr.pos
   omega
  unfold linesF at h
  split at h
  ·cases h
   exact hend p ⟨hk.pos,hk.ins,hk.i31,hk.o30,Nat.le_succ_of_le hk.cnt⟩
  split at h
  ·cases h
  rename_i r hr
  obtain⟨b,c⟩:=lineF_ok hk hr
  split at h
  ·cases h
   exact hend r b
  ·rename_i hne
   have:=b.pos
   exact ih {r with pos:=r.pos+1} q ⟨by show r.pos+1≤_;omega,b.ins.of rfl,b.i31,b.o30,by show r.toks.length+r.ins.length≤4*(r.pos+1)+1;have:=b.cnt;omega⟩ h
theorem splitL_few {L:List UInt8}{l:List Tk}(h:splitL L= .ok l):l.length≤4*L.length+4:=by
 unfold splitL at h
 split at h
 ·cases h
 rename_i q hq
 cases h
 exact linesF_few L _ _ _ ⟨Nat.zero_le _,⟨by simp,rfl⟩,by decide,by decide,by decide⟩ hq
theorem lvT_of {n:Nat}(l:List Tk)(h:Lw.AllNxt n l):∀ (r u:List Tk) (d:Nat),l=u++r→Lw.dep u=(d:Int)→lvT d r
 |[],_,_,_,_=>trivial
 |t::r,u,d,e,hd=>by
  have hl:u.length<l.length:=by rw[e];simp
  have hx:=h u.length hl
  have e1:l.take u.length=u:=by rw[e];simp
  have e2:l[u.length]=t:=by simp[e]
  rw[e1,e2]at hx
  have h0:=hx.d0
  have h30:=hx.d30
  have hs:=Lw.dep_snoc u t
  rw[hd]at h0 h30 hs
  unfold Lw.lvl at h0 h30 hs
  unfold lvT
  by_cases h7:t.kind=7
  ·rw[if_pos h7]at h0 h30 hs
   rw[if_pos h7]
   exact⟨by omega,lvT_of l h r (u++[t]) (d+1) (by rw[e];simp) (by rw[hs];omega)⟩
  ·rw[if_neg h7]at h0 h30 hs
   rw[if_neg h7]
   by_cases h8:t.kind=8
   ·rw[if_pos h8]at h0 h30 hs
    rw[if_pos h8]
    exact⟨by omega,lvT_of l h r (u++[t]) (d-1) (by rw[e];simp) (by rw[hs];omega)⟩
   ·rw[if_neg h8]at h0 h30 hs
    rw[if_neg h8]
    exact lvT_of l h r (u++[t]) d (by rw[e];simp) (by rw[hs];omega)
theorem split_si {L:List UInt8}{l:List Tk}(h:splitA L= .ok l):SI ⟨l,L.length,0,false,0⟩:=by
 unfold splitA at h
 by_cases hL:L.length≤6000
 ·rw[if_pos hL]at h
  have hf:=splitL_few h
  exact⟨rfl,by show l.length≤50000;omega,lvT_of l ((Lw.splitL_lv L).1 l h).1 l [] 0 rfl rfl,Nat.zero_le _⟩
 ·rw[if_neg hL]at h
  cases h
theorem splitA_bad {L:List UInt8}{k z:Nat}(h:splitA L= .error (k,z)):k≠0:=by
 unfold splitA at h
 by_cases hL:L.length≤6000
 ·rw[if_pos hL]at h;exact splitL_bad h
 ·rw[if_neg hL]at h;cases h;decide
def parT (L:List UInt8):Except Ft (List Sm):=match splitA L with
 | .error x=>.error x
 | .ok toks=>match srcF (exF 40) ⟨toks,L.length,0,false,0⟩with
  |none=>.error (0,0)
  |some (.error x)=>.error x
  |some (.ok (l,_))=>.ok l
theorem parR_told (L:List UInt8):parR L=some (parT L):=by
 unfold parR parT
 match hs:splitA L with
 | .error (k,z)=>
  have hk:=splitA_bad hs
  show(bif k==0 then none else some (Except.error (k,z)))=some (Except.error (k,z))
  rw[show(k==0)=false by simpa using hk]
  rfl
 | .ok toks=>
  obtain⟨z,e,_⟩:=srcF_ts (split_si hs)
  simp only[e]
  match z with
  | .error x=>rfl
  | .ok (l,q)=>rfl
theorem Parse_told (L:List UInt8)(w:World)(hr:ErrR w):Calls Tryz.prog 8 #[.string (mkB L)] w (ParP w (parT L)):=Parse_any L w hr (parR_told L)
def bgT:List (List UInt8):=[[84,114,117,101],[70,97,108,115,101],[78,111,110,101],[40],[91],[123],[110,111,116],[45]]
theorem bg_kind {k:Ky}(h:bgK k=true):(k.1=1∨k.1=2∨k.1=3)∨((k.1=4∨k.1=5)∧k.2.1∈bgT):=by
 obtain⟨a,t,z⟩:=k
 have hm:∀ l:List (List UInt8),(∀ x∈l,x∈bgT)→seesK (a,t,z) l=true→(a=4∨a=5)∧t∈bgT:=by
  intro l hl hs
  obtain⟨h1,h2⟩:=Bool.and_eq_true_iff.1 hs
  refine⟨?_,hl _ (List.contains_iff_mem.1 h2)⟩
  rcases Bool.or_eq_true_iff.1 h1 with h1|h1
  ·exact .inl (beq_iff_eq.1 h1)
  ·exact .inr (beq_iff_eq.1 h1)
 unfold bgK at h
 simp only[Bool.or_eq_true,beq_iff_eq]at h
 rcases h with(((h|h)|h)|h)|h
 ·exact .inl (.inl h)
 ·exact .inl (.inr (.inl h))
 ·exact .inl (.inr (.inr h))
 ·exact .inr (hm _ (by decide) h)
 ·exact .inr (hm _ (by decide) h)
theorem bg_no {k:Ky}(h:bgK k=true)(l:List (List UInt8))(hl:∀ x∈l,x∉bgT):seesK k l=false:=by
 rcases bg_kind h with h|h
 ·unfold seesK
  rcases h with h|h|h<;>(rw[h];rfl)
 ·unfold seesK
  cases hc:l.contains k.2.1
  ·rw[Bool.and_false]
  ·exact absurd h.2 (hl _ (List.contains_iff_mem.1 hc))
theorem wf_bg {n:Nat}{e:Ex}(h:WfE n e):∃ k r,kys (lE n e)=k::r∧bgK k=true:=by
 obtain⟨k,r,e1,_,g⟩:=fst_lE n e h
 exact⟨k,r,e1,g⟩
structure Bx (p:Ps):Prop where
 deep:p.deep=0
 few:p.toks.length<1000000
theorem Bx.fwd {p:Ps}(h:Bx p)(k:Nat):Bx (p.fwd k):=⟨h.deep,by show(p.toks.drop k).length<_;rw[List.length_drop];have:=h.few;omega⟩
theorem Bx.adv {p:Ps}(h:Bx p):Bx p.adv:=h.fwd 1
theorem pn_E {n:Nat}{e:Ex}{p:Ps}{k:Ky}{rest:List Ky}(h:WfE n e)(hb:Bx p)(hp:p.ks=kys (lE n e)++k::rest)(hk:seesK k allG=false):PN (exF 40 p) e (p.fwd (kys (lE n e)).length):=
 (pe_lE h (by rw[hb.deep];decide) (by rw[hb.deep];decide) hp hk hb.few).pn
theorem pn_ldL:∀ (names:List (List UInt8)) (f:Nat) (l:List (List UInt8)) (p:Ps) (rest:List Ky),(∀ t∈names,isNmL t=true)→(l≠[]∨names≠[])→p.ks=jk false (names.map fun t=>[(3,t,0)])++(4,[41],0)::rest→PN (ldL f l p) (l++names) (p.fwd (jk false (names.map fun t=>[(3,t,0)])).length)
 |_,0,_,_,_,_,_,_=>.inl rfl
 |[],f+1,l,p,rest,_,h,hp=>by
  have hl:0<l.length:=by
   rcases h with h|h
   ·exact List.length_pos_iff.2 h
   ·exact absurd rfl h
  have hp1:p.ks=(4,[41],0)::rest:=hp
  unfold ldL
  rw[decide_eq_true hl,show p.sees [[41]]=true from sees_key hp1 _,List.append_nil]
  exact pn_ok _ _
 |t::names,f+1,l,p,rest,hn,h,hp=>by
  have hp1:p.ks=(4,[44],0)::(3,t,0)::(jk false (names.map fun t=>[(3,t,0)])++(4,[41],0)::rest):=hp
  have hp2:=adv_ks hp1
  obtain⟨tk,t1,t2⟩:=pn_tkK hp2
  unfold ldL
  rw[show p.sees [[41]]=false from sees_key hp1 _,Bool.and_false]
  refine pn_iff (pn_bnd (pn_tkS hp1 (by decide)) (pn_bnd (a:=()) (q:=p.adv) ?_ (pn_bnd t2 (pn_iff ?_))))
  ·unfold guIf
   rw[(nx_key hp2).2.1,hn t List.mem_cons_self]
   exact pn_ok _ _
  ·rw[t1]
   have:=pn_ldL names f (l++[t]) p.adv.adv rest (fun x hx=>hn x (List.mem_cons_of_mem _ hx)) (.inl (by simp)) (adv_ks hp2)
   rw[List.append_assoc]at this
   have e:p.fwd (jk false ((t::names).map fun t=>[(3,t,0)])).length=p.adv.adv.fwd (jk false (names.map fun t=>[(3,t,0)])).length:=by
    rw[adv_fwd,adv_fwd,fwd_fwd,fwd_fwd]
    congr 1
    show(jk false (names.map fun t=>[(3,t,0)])).length+1+1=_
    omega
   rw[e]
   exact this
theorem guIf_no {b:Bool}{k:Nat}{p:Ps}(h:b=false):PN (guIf b k p) () p:=by
 subst h
 exact pn_ok _ _
theorem pn_sml {n m:Nat}{b d:Bool}{s:Sm}{p:Ps}{rest:List Ky}(h5:s.kind≤5)(h:WfX n (m+1) b d s)(hx:Bx p)(hb:b=false→p.blk=0)(hd:p.inD=d)(hp:p.ks=kys (lSm n s)++LNk::rest):PN (smlF (exF 40) p) s (p.fwd (kys (lSm n s)).length):=by
 obtain⟨k,text,names,ex,body,els⟩:=s
 match k,h,h5 with
 |0,h,_=>exact h.elim
 |1,h,_=>
  have hp1:p.ks=(5,[112,97,115,115],0)::LNk::rest:=hp
  have e0:(⟨1,text,names,ex,body,els⟩:Sm)=⟨1,[],[],⟨0,0,[],[],[]⟩,[],[]⟩:=h
  unfold smlF
  rw[show p.sees [[112,97,115,115]]=true from sees_key hp1 _,e0]
  exact pn_ok _ _
 |2,h,_=>
  obtain⟨e0,hw,rfl⟩:=h
  have hp1:p.ks=(5,[114,101,116,117,114,110],0)::(kys (lE n ex)++LNk::rest):=hp
  have hp2:=adv_ks hp1
  have S:=fun l=>sees_key hp1 l
  rw[e0]
  unfold smlF
  rw[show p.sees [[112,97,115,115]]=false from S _,show p.sees [[114,101,116,117,114,110]]=true from S _]
  show PN (givS (exF 40) p) _ _
  unfold givS
  refine pn_bnd (guIf_no (by rw[hd];rfl)) (pn_bnd (pn_tkS hp1 (by decide)) ?_)
  obtain⟨k,r,e1,g⟩:=wf_bg hw
  have hp3:p.adv.ks=k::(r++LNk::rest):=by rw[hp2,e1];rfl
  have h6:(p.adv.nx.kind==6)=false:=by
   rw[(nx_key hp3).1,beq_eq_false_iff_ne]
   rcases bg_kind g with h|h<;>omega
  rw[h6]
  refine pn_bnd (pn_E hw hx.adv hp2 (by decide)) ?_
  have e:p.fwd (kys (lSm n ⟨2,[],[],ex,[],[]⟩)).length=p.adv.fwd (kys (lE n ex)).length:=by
   rw[adv_fwd,fwd_fwd]
   congr 1
   show(kys (lE n ex)).length+1=_
   omega
  rw[e]
  exact pn_ok _ _
 |3,h,_=>
  obtain⟨e0,hn,hw,he⟩:=h
  have hp1:p.ks=(1,text,0)::(4,[61],0)::(kys (lE n ex)++LNk::rest):=by
   rw[hp]
   show(kW text).k::(4,[61],0)::_=_
   rw[key_nm hw]
   rfl
  have hp2:=adv_ks hp1
  have hp3:=adv_ks hp2
  have S:=fun l=>sees_key hp1 l
  rw[e0]
  unfold smlF
  rw[show p.sees [[112,97,115,115]]=false from S _,show p.sees [[114,101,116,117,114,110]]=false from S _,show p.sees [[108,111,97,100]]=false from S _,set_two hp1]
  show PN (setS (exF 40) p) _ _
  unfold setS
  obtain⟨tk,t1,t2⟩:=pn_tkK hp1
  refine pn_bnd t2 (pn_bnd (pn_tkS hp2 (by decide)) (pn_bnd (pn_E he hx.adv.adv hp3 (by decide)) ?_))
  rw[t1]
  have e:p.fwd (kys (lSm n ⟨3,text,[],ex,[],[]⟩)).length=p.adv.adv.fwd (kys (lE n ex)).length:=by
   rw[adv_fwd,adv_fwd,fwd_fwd,fwd_fwd]
   congr 1
   show(kys (lE n ex)).length+1+1=_
   omega
  show PN _ _ (p.fwd (kys (lSm n ⟨3,text,[],ex,[],[]⟩)).length)
  rw[e]
  exact pn_ok _ _
 |4,h,_=>
  obtain⟨e0,hb0,hne,ht,hns⟩:=h
  have ek:kys (lSm n ⟨4,text,names,ex,body,els⟩)=(5,[108,111,97,100],0)::(4,[40],0)::((3,text,0)::jk false (names.map fun t=>[(3,t,0)])++[(4,[41],0)]):=by
   show kys ([kW [108,111,97,100]]++kS [40]::(joinC ((text::names).map fun t=>[kT t])++[kS [41]]))=_
   rw[kys_app,kys_br,jk_join,List.map_map]
   rfl
  have hp1:p.ks=(5,[108,111,97,100],0)::(4,[40],0)::(3,text,0)::(jk false (names.map fun t=>[(3,t,0)])++(4,[41],0)::LNk::rest):=by
   rw[hp,ek]
   simp
  have hp2:=adv_ks hp1
  have hp3:=adv_ks hp2
  have hp4:=adv_ks hp3
  have hp5:=ks_fwd hp4
  have S:=fun l=>sees_key hp1 l
  rw[ek,e0]
  unfold smlF
  rw[show p.sees [[112,97,115,115]]=false from S _,show p.sees [[114,101,116,117,114,110]]=false from S _,show p.sees [[108,111,97,100]]=true from S _]
  show PN (loadS p) _ _
  unfold loadS
  obtain⟨tk,t1,t2⟩:=pn_tkK hp3
  refine pn_bnd (guIf_no (by rw[hb hb0];rfl)) (pn_bnd (pn_tkS hp1 (by decide)) (pn_bnd (pn_tkS hp2 (by decide)) (pn_bnd t2 (pn_bnd (pn_ldL names _ [] p.adv.adv.adv _ (fun x hx=>(hns x hx).1) (.inr hne) hp4) (pn_bnd (pn_tkS hp5 (by decide)) ?_)))))
  rw[t1]
  have e:p.fwd ((5,[108,111,97,100],0)::(4,[40],0)::((3,text,0)::jk false (names.map fun t=>[(3,t,0)])++[(4,[41],0)]):List Ky).length=(p.adv.adv.adv.fwd (jk false (names.map fun t=>[(3,t,0)])).length).adv:=by
   simp only[adv_fwd,fwd_fwd]
   congr 1
   simp only[List.length_cons,List.length_append,List.length_nil]
   omega
  rw[e]
  exact pn_ok _ _
 |5,h,_=>
  obtain⟨e0,hw⟩:=h
  have hp1:p.ks=kys (lE n ex)++LNk::rest:=hp
  obtain⟨k,r,e1,g⟩:=wf_bg hw
  have hp3:p.ks=k::(r++LNk::rest):=by rw[hp1,e1];rfl
  have S:=fun l (hl:∀ x∈l,x∉bgT)=>(sees_key hp3 l).trans (bg_no g l hl)
  rw[e0]
  unfold smlF
  rw[S [[112,97,115,115]] (by decide),S [[114,101,116,117,114,110]] (by decide),S [[108,111,97,100]] (by decide),sec_set hp1 (sec_lE n ex hw) (wf_lE hw) (by decide)]
  exact pn_bnd (pn_E hw hx hp1 (by decide)) (pn_ok _ _)
 |k+6,_,h5=>exact absurd (show k+6≤5 from h5) (by omega)
def NoEl (ks:List Ky):Prop:=∀ k r,ks=k::r→seesK k [[101,108,115,101]]=false
theorem noel_sees {p:Ps}(h:NoEl p.ks):p.sees [[101,108,115,101]]=false:=by
 cases hk:p.ks with
 |cons k r=>exact(sees_key hk _).trans (h k r hk)
 |nil=>
  have:p.toks=[]:=List.map_eq_nil_iff.1 hk
  unfold Ps.sees Ps.nx
  rw[this]
  rfl
theorem fst_st {n m:Nat}{b d:Bool}{s:Sm}(h:WfX n m b d s):∃ k r,stK n m s=k::r∧k.1≠8∧seesK k [[101,108,115,101]]=false:=by
 cases m with
 |zero=>exact h.elim
 |succ m=>
  obtain⟨k,text,names,ex,body,els⟩:=s
  match k,h with
  |1,_=>exact⟨_,_,rfl,by decide,rfl⟩
  |2,_=>exact⟨_,_,rfl,by show 5≠8;decide,rfl⟩
  |3,h=>
   obtain⟨_,_,hw,_⟩:=h
   refine⟨(1,text,0),(4,[61],0)::kys (lE n ex)++[LNk],?_,by show 1≠8;decide,rfl⟩
   show(kW text).k::_=_
   rw[key_nm hw]
   rfl
  |4,_=>exact⟨_,_,rfl,by show 5≠8;decide,rfl⟩
  |5,h=>
   obtain⟨k,r,e1,g⟩:=wf_bg h.2
   refine⟨k,r++[LNk],?_,?_,bg_no g _ (by decide)⟩
   ·show kys (lE n ex)++[LNk]=_
    rw[e1]
    rfl
   ·rcases bg_kind g with h|h<;>omega
  |6,_=>exact⟨_,_,rfl,by show 5≠8;decide,rfl⟩
  |7,_=>exact⟨_,_,rfl,by show 5≠8;decide,rfl⟩
  |8,_=>exact⟨_,_,rfl,by show 5≠8;decide,rfl⟩
theorem noel_flat {n m:Nat}{b d:Bool}{l:List Sm}(h:∀ s∈l,WfX n m b d s){rest:List Ky}(hr:NoEl rest):NoEl (l.flatMap (stK n m)++rest):=by
 cases l with
 |nil=>exact hr
 |cons s l=>
  obtain⟨k,r,e,_,g⟩:=fst_st (h s List.mem_cons_self)
  intro k2 r2 e2
  rw[List.flatMap_cons,e]at e2
  cases e2
  exact g
def StN (n m:Nat)(St:Ps→Px Sm):Prop:=∀ (s:Sm) (b d:Bool) (p:Ps) (rest:List Ky),WfX n m b d s→Bx p→(b=false→p.blk=0∧d=false)→p.inD=d→NoEl rest→p.ks=stK n m s++rest→PN (St p) s (p.fwd (stK n m s).length)
theorem pn_blL {n m:Nat}{St:Ps→Px Sm}(hS:StN n m St){d:Bool}:∀ (l:List Sm) (f:Nat) (acc:List Sm) (p:Ps) (rest:List Ky),(∀ s∈l,WfX n m true d s)→Bx p→p.inD=d→p.ks=l.flatMap (stK n m)++OUk::rest→PN (blL St f acc p) (acc++l) (p.fwd (l.flatMap (stK n m)).length)
 |_,0,_,_,_,_,_,_,_=>.inl rfl
 |[],f+1,acc,p,rest,_,_,_,hp=>by
  have hp1:p.ks=OUk::rest:=hp
  unfold blL
  rw[(nx_key hp1).1,List.append_nil]
  exact pn_ok _ _
 |s::l,f+1,acc,p,rest,h,hx,hd,hp=>by
  rw[List.flatMap_cons,List.append_assoc]at hp
  obtain⟨k,r,e,h8,_⟩:=fst_st (h s List.mem_cons_self)
  have h8':(p.nx.kind==8)=false:=by
   have hp1:p.ks=k::(r++(l.flatMap (stK n m)++OUk::rest)):=by rw[hp,e];rfl
   rw[(nx_key hp1).1,beq_eq_false_iff_ne]
   exact h8
  have hl:=fun x hx=>h x (List.mem_cons_of_mem _ hx)
  unfold blL
  rw[h8']
  refine pn_iff (pn_bnd (hS s true d p _ (h s List.mem_cons_self) hx (fun e=>by cases e) hd (noel_flat hl (fun k r e=>by cases e;rfl)) hp) (pn_iff ?_))
  have:=pn_blL hS l f (acc++[s]) (p.fwd (stK n m s).length) rest hl (hx.fwd _) hd (ks_fwd hp)
  rw[List.append_assoc,fwd_fwd]at this
  rw[List.flatMap_cons,List.length_append]
  exact this
theorem pn_srcL {n m:Nat}{St:Ps→Px Sm}(hS:StN n m St):∀ (l:List Sm) (f:Nat) (acc:List Sm) (p:Ps),(∀ s∈l,WfX n m false false s)→Bx p→p.blk=0→p.inD=false→p.ks=l.flatMap (stK n m)→PN (srcL St f acc p) (acc++l) (p.fwd (l.flatMap (stK n m)).length)
 |_,0,_,_,_,_,_,_,_=>.inl rfl
 |[],f+1,acc,p,_,_,_,_,hp=>by
  have:p.toks=[]:=List.map_eq_nil_iff.1 hp
  unfold srcL
  rw[this,List.append_nil]
  exact pn_ok _ _
 |s::l,f+1,acc,p,h,hx,hb,hd,hp=>by
  rw[List.flatMap_cons]at hp
  obtain⟨k,r,e,_,_⟩:=fst_st (h s List.mem_cons_self)
  have h0:decide (p.toks.length=0)=false:=by
   rw[←ks_len,hp,e]
   rfl
  have hl:=fun x hx=>h x (List.mem_cons_of_mem _ hx)
  unfold srcL
  rw[h0]
  refine pn_iff (pn_bnd (hS s false false p _ (h s List.mem_cons_self) hx (fun _=>⟨hb,rfl⟩) hd ?_ hp) (pn_iff ?_))
  ·have:=noel_flat hl (rest:=[]) (fun k r e=>by cases e)
   rwa [List.append_nil]at this
  have:=pn_srcL hS l f (acc++[s]) (p.fwd (stK n m s).length) hl (hx.fwd _) hb hd (ks_fwd hp)
  rw[List.append_assoc,fwd_fwd]at this
  rw[List.flatMap_cons,List.length_append]
  exact this
def bkK (n m:Nat)(l:List Sm):List Ky:=(4,[58],0)::LNk::INk::(l.flatMap (stK n m)++[OUk])
theorem pn_blF {n m:Nat}{St:Ps→Px Sm}(hS:StN n m St){d:Bool}{l:List Sm}{p:Ps}{rest:List Ky}(h:∀ s∈l,WfX n m true d s)(hx:Bx p)(hd:p.inD=d)(hp:p.ks=bkK n m l++rest):PN (blF St p) l (p.fwd (bkK n m l).length):=by
 have hp1:p.ks=(4,[58],0)::LNk::INk::(l.flatMap (stK n m)++OUk::rest):=by rw[hp];unfold bkK;simp
 have hp2:=adv_ks hp1
 have hp3:=adv_ks hp2
 have hp4:=adv_ks hp3
 have hp5:=ks_fwd hp4
 obtain⟨_,_,t2⟩:=pn_tkK hp2
 obtain⟨_,_,t3⟩:=pn_tkK hp3
 obtain⟨_,_,t5⟩:=pn_tkK hp5
 unfold blF
 refine pn_bnd (pn_tkS hp1 (by decide)) (pn_bnd t2 (pn_bnd t3 (pn_iff (pn_bnd (pn_blL hS l _ [] p.adv.adv.adv.bin rest h ⟨hx.deep,hx.adv.adv.adv.few⟩ hd hp4) (pn_iff (pn_bnd t5 ?_))))))
 have e:p.fwd (bkK n m l).length=(p.adv.adv.adv.fwd (l.flatMap (stK n m)).length).adv:=by
  simp only[adv_fwd,fwd_fwd]
  congr 1
  unfold bkK
  simp only[List.length_cons,List.length_append,List.length_nil]
  omega
 rw[e]
 exact pn_ok _ _
theorem stk_bk {n m:Nat}{s:Sm}(hk:6≤s.kind){xs:List Lx}(hx:lHd n s=xs++[kS [58]]):stK n (m+1) s=kys xs++(bkK n m s.body++(bif s.els.isEmpty then[]else(5,[101,108,115,101],0)::bkK n m s.els)):=by
 unfold stK
 rw[decide_eq_false (by omega),hx,kys_app]
 cases s.els.isEmpty
 ·show(kys xs++[(4,[58],0)])++LNk::INk::(_++OUk::((5,[101,108,115,101],0)::[(4,[58],0)]++LNk::INk::_))=_
  unfold bkK
  simp
 ·show(kys xs++[(4,[58],0)])++LNk::INk::(_++OUk::[])=_
  unfold bkK
  simp
theorem pn_names:∀ (ms:List (List UInt8)) (f:Nat) (first:Bool) (M:List (List UInt8)) (p:Ps) (rest:List Ky),(∀ t∈ms,isWd t=false)→(M++ms).Nodup→p.ks=jk first (ms.map fun t=>kys [kW t])++(4,[41],0)::rest→PN (lsL [41] nmE f first M p) (M++ms) (p.fwd ((jk first (ms.map fun t=>kys [kW t])).length+1))
 |_,0,_,_,_,_,_,_,_=>.inl rfl
 |[],f+1,first,M,p,rest,_,_,hp=>by
  have hp1:p.ks=(4,[41],0)::rest:=hp
  unfold lsL
  rw[show p.sees [[41]]=true from sees_key hp1 _,List.append_nil]
  exact pn_ok _ _
 |m::ms,f+1,first,M,p,rest,hw,hd,hp=>by
  have ek:kys [kW m]=[(1,m,0)]:=by show[(kW m).k]=_;rw[key_nm (hw m List.mem_cons_self)]
  obtain⟨J,hJ⟩:∃ J,J=jk false (ms.map fun t=>kys [kW t]):=⟨_,rfl⟩
  have hj:jk first ((m::ms).map fun t=>kys [kW t])=(bif first then[]else[(4,[44],0)])++([(1,m,0)]++J):=by
   rw[hJ,←ek]
   rfl
  rw[hj]at hp ⊢
  have hmn:m∉M:=by
   rw[List.nodup_append]at hd
   intro hc
   exact hd.2.2 m hc m List.mem_cons_self rfl
  have hno:p.sees [[41]]=false:=by
   cases first
   ·exact sees_key (show p.ks=(4,[44],0)::_ from hp) _
   ·exact sees_key (show p.ks=(1,m,0)::_ from hp) _
  have hp1:(p.fwd (bif first then[]else[(4,[44],0)]:List Ky).length).ks=(1,m,0)::(J++(4,[41],0)::rest):=ks_fwd (by rw[hp];simp)
  unfold lsL
  rw[hno]
  refine pn_bnd (a:=()) (q:=p.fwd (bif first then[]else[(4,[44],0)]:List Ky).length) ?_ (pn_bnd (a:=M++[m]) (q:=(p.fwd (bif first then[]else[(4,[44],0)]:List Ky).length).adv) ?_ (pn_iff ?_))
  ·cases first
   ·exact pn_tkS (show p.ks=(4,[44],0)::_ from hp) (by decide)
   ·exact pn_ok _ _
  ·unfold nmE
   exact pn_iff (pn_bnd (pe_tkN hp1 hmn).pn (pn_ok _ _))
  ·have:=pn_names ms f false (M++[m]) (p.fwd (bif first then[]else[(4,[44],0)]:List Ky).length).adv rest (fun t ht=>hw t (List.mem_cons_of_mem _ ht)) (by rw[List.append_assoc];exact hd) (by rw[←hJ];exact adv_ks hp1)
   rw[List.append_assoc,←hJ]at this
   have e:(bif first then[]else[(4,[44],0)]:List Ky).length+1+(J.length+1)=((bif first then[]else[(4,[44],0)])++([(1,m,0)]++J):List Ky).length+1:=by
    rw[List.length_append,List.length_append]
    show _+1+_=_+(1+_)+1
    omega
   have e2:(p.fwd (bif first then[]else[(4,[44],0)]:List Ky).length).adv.fwd (J.length+1)=p.fwd (((bif first then[]else[(4,[44],0)])++([(1,m,0)]++J):List Ky).length+1):=by rw[adv_fwd,fwd_fwd,fwd_fwd,←Nat.add_assoc,e]
   rw[←e2]
   exact this
end Go.Proofs.YtcaeeackccgclaaGreatDoor
