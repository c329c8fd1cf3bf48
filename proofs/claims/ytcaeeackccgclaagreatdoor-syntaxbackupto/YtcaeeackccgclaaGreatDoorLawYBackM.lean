/- SyntaxBack holds in its second form, its listed variables tied to the program's text: what is written of a source of no more bulk than the form says is parsed as the source was, and written so again; where nothing is written there is a fault. -/
import Derived.Test.YtcaeeackccgclaaGreatDoorTx50
set_option maxHeartbeats 40000000
set_option maxRecDepth 100000
namespace Go.Proofs.YtcaeeackccgclaaGreatDoor
open Go.ChangeMaps (open_string shut_string)
open Go.ChangeShapes Go.WideShapes Go.ChangeAt Go.RowKit Go.Shelf
abbrev fC (k z:Int):Obj:= .cells #[.int .i64 k,.int .i64 z] 25
theorem fC_of {w:World}{R:Nat}{k z:Int}(h:w.heap[R]? =some (fC k z)):w.cell? ⟨R,0,none⟩=some (.int .i64 k)∧w.cell? ⟨R,1,none⟩=some (.int .i64 z)∧w.frozen? ⟨R,0,none⟩=false∧w.frozen? ⟨R,1,none⟩=false:=by
 refine⟨?_,?_,Lib.frozen_of_heap h 0,Lib.frozen_of_heap h 1⟩<;>(rw[Lib.cell_of_heap h];rfl)
theorem back_err {s:ByteArray}{w:World}(hr:ErrR w)(ht:TabW w){k:Int}(hk:k≠0){z:Int}(HC:∀ W,Below w.heap.size w W→Calls Tryz.prog 7 #[.string s] W fun e w'=>e= .returned (.tuple #[.string ⟨#[]⟩,.agg #[.int .i64 k,.int .i64 z]])∧Below W.heap.size W w'):
  Calls Tryz.prog 3 #[.string s] w fun e w'=>e= .returned (.bool true)∧Below w.heap.size w w':=by
 have HB:=sbegun_any w hr ht
 have HD:Hid _:=HC
 clear hr ht HC
 go_enter Tryz.func3,Tryz.ntmps3
 go_wp2_with fail
 refine HB.mono ?_
 rintro e w1 ⟨rfl,hb1⟩
 have HCs:=HD.out w1 hb1
 clear HB HD
 go_wp2_with fail
 refine HCs.mono ?_
 rintro e w2 ⟨rfl,hb2⟩
 have HB2:Hid (Below w.heap.size w (w2.alloc (fC k z))):=(hb1.trans (hb2.mono hb1.size)).trans ((alB w2 _).mono (hb1.trans (hb2.mono hb1.size)).size)
 obtain⟨l0,l1,_,_⟩:=fC_of (heap_alloc_new w2 (fC k z))
 clear HCs hb1 hb2
 unfold fC at *
 go_wp2
 go_ret
 exact⟨rfl,HB2.out⟩
theorem back_ok {s t:ByteArray}{w:World}(hr:ErrR w)(ht:TabW w){l:List Sm}(h1:parT s.data.toList= .ok l)(h2:parT t.data.toList= .ok l)(HC:∀ u,u=s∨u=t→∀ W,Below w.heap.size w W→Calls Tryz.prog 7 #[.string u] W fun e w'=>e= .returned (.tuple #[.string t,.agg #[.int .i64 0,.int .i64 0]])∧Below W.heap.size W w'):
  Calls Tryz.prog 3 #[.string s] w fun e w'=>e= .returned (.bool true)∧Below w.heap.size w w':=by
 have HB:=sbegun_any w hr ht
 have HP:Hid (∀ u,u=s∨u=t→∀ W,Below w.heap.size w W→Calls Tryz.prog 8 #[.string u] W (ParU W (.ok l))):=fun u hu W hW=>by
  have:=Parse_u u W (hr.up hW)
  rcases hu with rfl|rfl
  ·rwa [h1]at this
  ·rwa [h2]at this
 have HD:Hid _:=HC
 clear hr ht h1 h2 HC
 go_enter Tryz.func3,Tryz.ntmps3
 go_wp2_with fail
 refine HB.mono ?_
 rintro e w1 ⟨rfl,hb1⟩
 have HCs:=HD.out s (.inl rfl) w1 hb1
 clear HB
 go_wp2_with fail
 refine HCs.mono ?_
 rintro e w2 ⟨rfl,hb2⟩
 have hB2:Below w.heap.size w (w2.alloc (fC 0 0)):=(hb1.trans (hb2.mono hb1.size)).trans ((alB w2 _).mono (hb1.trans (hb2.mono hb1.size)).size)
 have hf2:(w2.alloc (fC 0 0)).heap[w2.heap.size]? =some (fC 0 0):=heap_alloc_new w2 _
 obtain⟨l0,l1,_,_⟩:=fC_of hf2
 have s2:(w2.alloc (fC 0 0)).heap.size=w2.heap.size+1:=World.size_alloc _ _
 have HQ2:Hid (Below w.heap.size w (w2.alloc (fC 0 0))∧(w2.alloc (fC 0 0)).heap[w2.heap.size]? =some (fC 0 0)∧(w2.alloc (fC 0 0)).heap.size=w2.heap.size+1∧w.heap.size≤w2.heap.size):=⟨hB2,hf2,s2,(hb1.trans (hb2.mono hb1.size)).size⟩
 have HPs:=HP.out s (.inl rfl) _ hB2
 clear HCs hb1 hb2 hB2 hf2 s2
 unfold fC at *
 go_wp2_with fail
 refine HPs.mono ?_
 rintro e w3 ⟨sa,sn,sc,kk,zz,rfl,HS⟩
 obtain⟨m1,vs,e1,rfl,rs⟩:=HS.out.2.resolve_left (fun h=>by obtain⟨_,_,e,_⟩:=h;cases e)
 cases e1
 have hb3:=HS.out.1
 obtain⟨hB2,hf2,s2,hs2⟩:=HQ2.out
 have hs3:=hb3.size
 have hf3:w3.heap[w2.heap.size]? =some (fC 0 0):=(hb3.block _ (by omega)).trans hf2
 obtain⟨i0,i1,j0,j1⟩:=fC_of hf3
 obtain⟨W4,hW4⟩:∃ W4,W4=(w3.setCell ⟨w2.heap.size,0,none⟩ (.int .i64 0)).setCell ⟨w2.heap.size,1,none⟩ (.int .i64 zz):=⟨_,rfl⟩
 have hB4:Below w.heap.size w W4:=by rw[hW4];exact((hB2.trans (hb3.mono hB2.size)).setCell (p:=⟨w2.heap.size,0,none⟩) hs2 _).setCell (p:=⟨w2.heap.size,1,none⟩) hs2 _
 have o4:∀ g,g≠w2.heap.size→W4.heap[g]? =w3.heap[g]? :=fun g hg=>by rw[hW4];exact(Below.heap_setCell _ ⟨w2.heap.size,1,none⟩ _ g hg).trans (Below.heap_setCell _ ⟨w2.heap.size,0,none⟩ _ g hg)
 have s4:W4.heap.size=w3.heap.size:=by rw[hW4,size_set,size_set]
 have hf4:W4.heap[w2.heap.size]? =some (fC 0 zz):=by
  rw[hW4]
  exact Go.Joins.block_setCell (Go.Joins.block_setCell hf3 _) _
 have rs4:RwS (w2.alloc (.cells #[.int .i64 0,.int .i64 0] 25)).heap.size W4 l (.slice sa sn sc) vs:=rs.keep fun g h1 _=>o4 g (by omega)
 have HPt:=HP.out t (.inr rfl) W4 hB4
 have HQ4:Hid (Below w.heap.size w W4∧W4.heap[w2.heap.size]? =some (fC 0 zz)∧w2.heap.size<W4.heap.size∧RwS (w2.alloc (.cells #[.int .i64 0,.int .i64 0] 25)).heap.size W4 l (.slice sa sn sc) vs):=⟨hB4,hf4,by omega,rs4⟩
 clear HPs HS rs hb3 hB2 hf2 s2 hs3 hf3 hB4 o4 s4 hf4 rs4 HQ2 HP
 subst hW4
 go_wp2_with fail
 refine HPt.mono ?_
 rintro e w5 ⟨ta,tn,tc',kt,zt,rfl,HT⟩
 obtain⟨m2,us,e1,rfl,rt⟩:=HT.out.2.resolve_left (fun h=>by obtain⟨_,_,e,_⟩:=h;cases e)
 cases e1
 obtain⟨hB4,hf4,h24,rs4⟩:=HQ4.out
 have hb5:=HT.out.1
 have hs5:=hb5.size
 have hB5:Below w.heap.size w w5:=hB4.trans (hb5.mono hB4.size)
 have hB6:Below w.heap.size w (w5.alloc (fC 0 zt)):=hB5.trans ((alB w5 _).mono hB5.size)
 have k6:∀ g,g<w5.heap.size→(w5.alloc (fC 0 zt)).heap[g]? =w5.heap[g]? :=fun g hg=>heap_al _ _ _ hg
 have s6:(w5.alloc (fC 0 zt)).heap.size=w5.heap.size+1:=World.size_alloc _ _
 have HCt:=HD.out t (.inr rfl) _ hB6
 have HQ6:Hid (Below w.heap.size w (w5.alloc (fC 0 zt))∧(w5.alloc (fC 0 zt)).heap[w2.heap.size]? =some (fC 0 zz)∧(w5.alloc (fC 0 zt)).heap[w5.heap.size]? =some (fC 0 zt)∧w2.heap.size<w5.heap.size∧(w5.alloc (fC 0 zt)).heap.size=w5.heap.size+1∧(∃ n,RwS n (w5.alloc (fC 0 zt)) l (.slice sa sn sc) vs)∧∃ n,RwS n (w5.alloc (fC 0 zt)) l (.slice ta tn tc') us):=
  ⟨hB6,(k6 _ (by omega)).trans ((hb5.block _ h24).trans hf4),heap_alloc_new w5 _,by omega,s6,⟨_,rs4.keep fun g _ hg=>(k6 g (by omega)).trans (hb5.block g hg)⟩,⟨_,rt.keep fun g _ hg=>k6 g hg⟩⟩
 clear HPt HT HQ4 hB4 hf4 h24 rs4 hb5 hs5 hB5 hB6 k6 s6 rt HD
 unfold fC at *
 go_wp2_with fail
 refine HCt.mono ?_
 rintro e w7 ⟨rfl,hb7⟩
 obtain⟨hB6,hf6,hg6,h26,s6,⟨n1,rs6⟩,⟨n2,rt6⟩⟩:=HQ6.out
 have hs7:=hb7.size
 obtain⟨W8,hW8⟩:∃ W8,W8=w7.alloc (.cells #[.int .i64 0,.int .i64 0] 25):=⟨_,rfl⟩
 have k8:∀ g,g<w5.heap.size+1→W8.heap[g]? =(w5.alloc (.cells #[.int .i64 0,.int .i64 zt] 25)).heap[g]? :=fun g hg=>by rw[hW8];exact(heap_al _ _ _ (by omega)).trans (hb7.block g (by omega))
 have hB8:Below w.heap.size w W8:=by rw[hW8];exact(hB6.trans (hb7.mono hB6.size)).trans ((alB w7 _).mono (hB6.trans (hb7.mono hB6.size)).size)
 obtain⟨a0,_,_,_⟩:=fC_of ((k8 _ (by omega)).trans hf6)
 obtain⟨b0,_,_,_⟩:=fC_of ((k8 _ (by omega)).trans hg6)
 obtain⟨c0,_,_,_⟩:=fC_of (show W8.heap[w7.heap.size]? =some (fC 0 0) by rw[hW8];exact heap_alloc_new w7 _)
 obtain⟨x1,hx1⟩:=stw_of (rs6.keep (w':=W8) fun g _ hg=>k8 g (by omega))
 obtain⟨x2,hx2⟩:=stw_of (rt6.keep (w':=W8) fun g _ hg=>k8 g (by omega))
 have HSm:=SStmts_ok (max x1 x2) _ _ l W8 (hx1.le (Nat.le_max_left _ _)) (hx2.le (Nat.le_max_right _ _))
 have HB8:Hid (Below w.heap.size w W8):=hB8
 clear HCt hb7 HQ6 hB6 hf6 hg6 h26 s6 rs6 rt6 hs7 k8 hB8 hx1 hx2
 subst hW8
 go_wp2_with fail
 refine HSm.mono ?_
 rintro e w9 ⟨rfl,hb9⟩
 have HB9:Hid (Below w.heap.size w w9):=HB8.out.trans (hb9.mono HB8.out.size)
 clear hb9 HSm
 go_wp2
 go_ret
 exact⟨rfl,HB9.out⟩
theorem back_walk (s:ByteArray)(w:World)(hr:ErrR w)(ht:TabW w):
  Calls Tryz.prog 3 #[.string s] w fun e w'=>e= .returned (.bool true)∧Below w.heap.size w w':=by
 have hs:mkB s.data.toList=s:=(mk_self s).symm
 match hp:parT s.data.toList with
 | .error (k,x)=>
  have hk:=parT_bad hp
  refine back_err hr ht (k:=k) (z:=x) (by omega) fun W hW=>?_
  have:=Canon_err s.data.toList W (hr.up hW) hp
  rwa [hs]at this
 | .ok l=>
  obtain⟨n,hx,hlen⟩:=par_wf hp
  have hC:∀ u:ByteArray,parT u.data.toList= .ok l→∀ W,Below w.heap.size w W→Calls Tryz.prog 7 #[.string u] W fun e w'=>((∃ x,parT (wrL n 40 l)= .error x∧e= .returned (.tuple #[.string ⟨#[]⟩,.agg #[.int .i64 2,.int .i64 0]]))∨(∃ m,parT (wrL n 40 l)= .ok m∧e= .returned (.tuple #[.string ⟨(wrL n 40 l).toArray⟩,.agg #[.int .i64 0,.int .i64 0]])))∧Below W.heap.size W w':=fun u hu W hW=>by
   have:=Canon_told u.data.toList W (hr.up hW) (ht.bel hW (Nat.le_refl _)) hu hx (by omega)
   rwa [show mkB u.data.toList=u from(mk_self u).symm]at this
  rcases back hx with hb|⟨z,hb⟩
  ·have ht2:(⟨(wrL n 40 l).toArray⟩:ByteArray).data.toList=wrL n 40 l:=by simp
   refine back_ok (t:=⟨(wrL n 40 l).toArray⟩) hr ht hp (by rw[ht2];exact hb) fun u hu W hW=>(hC u (by rcases hu with rfl|rfl;exact hp;rw[ht2];exact hb) W hW).mono fun e w' h=>?_
   obtain⟨⟨x,h3,_⟩|⟨m,_,he⟩,hbw⟩:=h
   ·rw[hb]at h3
    cases h3
   ·exact⟨he,hbw⟩
  ·refine back_err hr ht (k:=2) (z:=0) (by decide) fun W hW=>(hC s hp W hW).mono fun e w' h=>?_
   obtain⟨⟨x,_,he⟩|⟨m,h3,_⟩,hbw⟩:=h
   ·exact⟨he,hbw⟩
   ·rw[hb]at h3
    cases h3
theorem back_walk_lifted (os:Os)(started:os.Started)(H:Type)(enc:TypeId×Value→H)(F:Stop.Interp):
  ReturnsInHanded {} Tryz.checked os 3 .any ((Rows.OpenSpec.upto Rows.syntaxBackSpec).preRow enc Tryz.prog Tryz.f3 Rows.syntaxBackUptoRow.domain false Rows.syntaxBackUptoRow.laid) (((Rows.OpenSpec.upto Rows.syntaxBackSpec).at F).post enc Tryz.prog Tryz.f3 false true false false):=by
 refine returnsInHanded_of_row (C:=Tryz.checked) (s:=Rows.OpenSpec.upto Rows.syntaxBackSpec) own started (by kernel_rfl) Tryz.func3
  (witness_up (enc:=enc) (C:=Tryz.checked) (os:=os) (World.laidAll Tryz.prog os Rows.syntaxBackUptoRow.laid) #[.string ⟨#[]⟩] (World.laidAll_os _ _ _)
   (World.shaped_of_ZipB (by kernel_rfl) (by kernel_rfl)) (by kernel_rfl)
   (OpenSpec.preRow_of_cond 8 (x:=([.lit (.string [])],[],[])) (by kernel_rfl) (by kernel_rfl) (fun k hk=>by cases hk;kernel_rfl) (by kernel_rfl)
    (by rw[MakeChecks.laidMetH_plain _ _ _ (by kernel_rfl)];exact laidMet_laidAll _ (by kernel_rfl) (by kernel_rfl)))) ?_
 intro W base args ds gs before hval0 hW _ hcond hsz0 lies shape _
 have hval:∀ (j:Nat) t v,Tryz.f3.params[j]? =some t→args[j]? =some v→Value.okWide Tryz.prog W .any base t v:=hval0
 have hk:=hcond _ rfl
 have hW':=hW
 obtain⟨p,q,hA0,hV,rfl,hfz,hnd⟩:=hW
 have hA:DataW.TrodAll enc Tryz.prog W 0 (fun _=>true) true Tryz.f3.params.toList args.toList ds p:=hA0
 have hsz:(DataW.weightsEach Tryz.prog (Tryz.f3.params.toList++Rows.syntaxBackSpec.plain.varTypes Tryz.prog) (ds++gs)).all (·≤reachBytes)=true:=hsz0
 rw[Tryz.params3]at hA hval hsz
 obtain⟨v0,d0,rfl,rfl,h0⟩:=trodAll_one hA
 obtain⟨rfl,rfl⟩:=trodVars_none hV
 have h9:=of_decide_eq_true hk
 simp only[List.append_nil,Rows.uptoBulkAll]at h9
 obtain⟨a0,rfl,rfl,rfl,w0⟩:=open_string Tryz.underlying9 (hval 0 9 v0 rfl rfl) h0
 clear hA0 hval0
 refine(back_walk a0 W (err_syntaxBackUpto lies) (tab_syntaxBackUpto lies)).mono fun e W' ⟨he,bel⟩=>?_
 subst he
 exact⟨_,rfl,_,_,_,[],_,[],hW',trodAll_mk1 (shut_bool Tryz.underlying4 _),trodAll_mk1 (shut_string Tryz.underlying9 w0),rfl,bel.frame _,fun h=>by cases h⟩
theorem syntaxBackUpto_row:Rows.SyntaxBackUptoSaid:=
 OpenClaim.holds_of_cond 3 Tryz.f3 rfl rfl rfl rfl rfl rfl rfl ⟨rfl,rfl,rfl,rfl,rfl⟩ rfl rfl rfl rfl rfl (by kernel_rfl) Tryz.func3 (by kernel_rfl)
  (of_decide_eq_true (by kernel_rfl)) (by unfold Func.isWrapper;first|(rw[if_pos (by decide +kernel)];kernel_rfl)|(rw[if_neg (by decide +kernel)];exact⟨rfl,rfl⟩))
  (fun os started H enc _ F=>by rw[OpenClaim.pre_eq_preRow];exact back_walk_lifted os started H enc F)
theorem syntaxBackUpto_holds:Rows.SyntaxBackUptoCardSaid:=
 Claim7.holds_tied_plain_at .later [] Rows.syntaxBackUptoCard.laidKinds true Rows.syntaxBackUptoCard.stood.harness true
  syntaxBackUpto_row (fun _ h=>by cases h) (by kernel_rfl) (fun _ h=>by cases h) syntaxBackUpto_row_tie rfl ⟨rfl,rfl⟩ (by kernel_rfl) rfl
  (fun f fn hf hfn=>by
   obtain rfl:f=3:=Option.some.inj ((show Tryz.prog.funcNamed Rows.syntaxBackUptoRow.func=some 3 by kernel_rfl).symm.trans hf) |>.symm
   obtain rfl:fn=Tryz.f3:=(Option.some.inj (Tryz.func3.symm.trans hfn)).symm
   exact⟨by kernel_rfl,fun j t ht=>by
    rw[Tryz.params3]at ht
    have hm:t∈[9]:=by simpa using Array.mem_of_getElem? ht
    have hall:([9].all fun u=>!Tryz.prog.wantsStandIn u)=true:=by kernel_rfl
    exact(show Tryz.prog.wantsStandIn t=false by simpa using List.all_eq_true.1 hall t hm)⟩)
  (by kernel_rfl)
#print axioms syntaxBackUpto_holds
end Go.Proofs.YtcaeeackccgclaaGreatDoor
