/- 44. -/
import Derived.Shelf.SlIter.Nil
import Derived.Shelf.SlIterI.Nil
import Derived.Shelf.SortM.Plain
import Derived.Shelf.SortM.SortNone
import Derived.Ground.GgzProg
import Derived.Ground.SlgmProg
import Derived.Test.YthfgpkdbclogpaaGreatDoorChecked
import Derived.Deep.AppendLies
import Derived.Test.YthfgpkdbclogpaaGreatDoorTx43
set_option maxHeartbeats 40000000
set_option maxRecDepth 100000
namespace Go.Proofs.YthfgpkdbclogpaaGreatDoor
open Go.RowKit Go.Shelf
structure DnI (w:World)(l:List Sm)(r Mn wb hi:Nat)(v:Value)(vs:List (List Value))(W:World):Prop where
 bel:Below w.heap.size w W
 row:W.ownsRow w.heap.size 164 10 v l.length vs.flatten
 ob:∀ g,v.ownBlock=some g→g<hi
 fa:Fa (SmA W fun g=>w.heap.size≤g∧g<hi) l vs
 mv:MV W Mn 0 []
 wk:W.heap[wb]? =some (.cells #[ptB r,.map (some Mn),.map (some Mn)] 114 (0,0))
 lo:w.heap.size≤hi∧hi≤Mn∧hi≤wb∧Mn≠wb
theorem done_go {r:Nat}{s:List UInt8}{w:World}{l:List Sm}{jj:Int}{Q:Nat→World→Prop}{P:World→Prop}(hr:ErrR w)(hp:parR s=some (.ok l))
  (HS:∀ W Mn wb hi v vs,DnI w l r Mn wb hi v vs W→Calls Tryz.prog 78 #[ptB wb,v] W fun e w'=>(e= .returned .nilIface∧Q Mn w')∨(e=PE jj∧P w')):
  Calls Tryz.prog 26 #[ptB r,.string (mkB s)] w fun e w'=>(∃ Mn,e= .returned (.map (some Mn))∧Q Mn w')∨(e=PE jj∧P w'):=by
 have hmm:=@run_makeMap Tryz.prog
 have HP:=Parse_any s w hr hp
 have HQ:Hid (∀ W Mn wb hi v vs,DnI w l r Mn wb hi v vs W→Calls Tryz.prog 78 #[ptB wb,v] W fun e w'=>(e= .returned .nilIface∧Q Mn w')∨(e=PE jj∧P w')):=HS
 have HG:=fun W=>gup_any false 0 W
 clear hr hp HS
 go_enter Tryz.func26,Tryz.ntmps26
 go_wp2_with fail
 refine HP.mono ?_
 rintro e w1 ⟨-,hok,hb1⟩
 obtain⟨v,vs,rfl,hrw⟩:=hok l rfl
 obtain⟨a3,c3,rfl⟩:=row_shape hrw.row
 have s2:(w1.alloc (.cells #[.int .i64 0,.int .i64 0] 110)).heap.size=w1.heap.size+1:=World.size_alloc _ _
 have s3:((w1.alloc (.cells #[.int .i64 0,.int .i64 0] 110)).alloc (.map #[] 0)).heap.size=w1.heap.size+1+1:=by rw[World.size_alloc,s2]
 have hb4:Below w1.heap.size w1 (((w1.alloc (.cells #[.int .i64 0,.int .i64 0] 110)).alloc (.map #[] 0)).alloc (.cells #[ptB r,.map (some (w1.heap.size+1)),.map (some (w1.heap.size+1))] 114)):=(((Below.refl _ w1).alloc (Nat.le_refl _) _).alloc (by omega) _).alloc (by omega) _
 have hle:=hb1.size
 have HD:=HQ.out _ (w1.heap.size+1) (w1.heap.size+1+1) w1.heap.size _ vs ⟨hb1.trans (hb4.mono hle),own_heap hrw.row fun g hg=>hb4.block g (hrw.row.lt g hg).2,fun g hg=>(hrw.row.lt g hg).2,hrw.fa.mono fun _ _ f=>f.keep (fun g _ hg=>hb4.block g hg) (fun g hg hl=>⟨hg.1,hl⟩),by
  have:=omapV (MV.made (w1.alloc (.cells #[.int .i64 0,.int .i64 0] 110))) (w':=(((w1.alloc (.cells #[.int .i64 0,.int .i64 0] 110)).alloc (.map #[] 0)).alloc (.cells #[ptB r,.map (some (w1.heap.size+1)),.map (some (w1.heap.size+1))] 114))) (heap_al _ _ _ (by omega))
  rw[s2]at this
  exact this,by rw[←s3];exact heap_alloc_new _ _,by omega,by omega,by omega,by omega⟩
 clear hok hb1 hrw hb4 HQ
 go_wp2_with fail
 refine(HG _).mono ?_
 rintro e w' ⟨rfl,rfl⟩
 go_wp2_with fail
 refine HD.mono ?_
 rintro e w5 (⟨rfl,hq⟩|⟨rfl,hq⟩)
 ·have HZ:Hid (Q (w1.heap.size+1) w5):=hq
  clear hq
  go_wp2
  go_ret
  exact .inl ⟨_,rfl,HZ.out⟩
 ·exact⟨rfl,.inr ⟨rfl,hq⟩⟩
abbrev soD (text:ByteArray):Array Value:=#[.string text,.map none,.bool true]
theorem source_go {r M0 sb:Nat}{path text:ByteArray}{w:World}{jj:Int}{Q:Nat→World→Prop}{P:World→Prop}(hp:path.size≤100000)(hm:MV w M0 1 [(path.data.toList,ptB sb)])(hr:w.cell? ⟨r,0,none⟩=some (.map (some M0)))(hs:w.heap[sb]? =some (.cells (soC text) 62 (0,0)))
  (HD:∀ W,W=w.setCell ⟨sb,2,none⟩ (.bool true)→Calls Tryz.prog 26 #[ptB r,.string text] W fun e w'=>(∃ Mn,e= .returned (.map (some Mn))∧w'.heap[sb]? =some (.cells (soD text) 62 (0,0))∧Q Mn w')∨(e=PE jj∧P w')):
  Calls Tryz.prog 14 #[ptB r,.string path] w fun e w'=>(∃ Mn w3,e= .returned (.map (some Mn))∧Q Mn w3∧w'=w3.setCell ⟨sb,1,none⟩ (.map (some Mn)))∨(e=PE jj∧P w'):=by
 have hL:=MV.look hm Tryz.underlying49 (zeroS w) (s:=path) (by unfold maxLen;omega)
 have e0:lkE [(path.data.toList,ptB sb)] path.data.toList=some (ptB sb):=by
  show(if path.data.toList=path.data.toList then _ else _)=_
  rw[if_pos rfl]
 rw[e0]at hL
 have hL':(Instr.lookup 49 (.map (some M0)) (.string path) true).run Tryz.prog w= .ok (.tuple #[ptB sb,.bool true]) w:=hL
 have HG:=fun k W=>gup_any false k W
 have c0:w.cell? ⟨sb,0,none⟩=some (.string text):=by rw[Lib.cell_of_heap hs];rfl
 have c1:w.cell? ⟨sb,1,none⟩=some (.map none):=by rw[Lib.cell_of_heap hs];rfl
 have c2:w.cell? ⟨sb,2,none⟩=some (.bool false):=by rw[Lib.cell_of_heap hs];rfl
 have f2:w.frozen? ⟨sb,2,none⟩=false:=Lib.frozen_of_heap hs 2
 have HDD:=HD _ rfl
 clear hm hs e0 hL HD
 go_enter Tryz.func14,Tryz.ntmps14
 go_wp2_with fail
 refine(HG 5 _).mono ?_
 rintro e w' ⟨rfl,rfl⟩
 go_wp2_with fail
 refine(HG 10 _).mono ?_
 rintro e w' ⟨rfl,rfl⟩
 go_wp2_with fail
 refine HDD.mono ?_
 rintro e w3 (⟨Mn,rfl,h3,hq⟩|⟨rfl,hq⟩)
 ·have d1:w3.cell? ⟨sb,1,none⟩=some (.map none):=by rw[Lib.cell_of_heap h3];rfl
  have g1:w3.frozen? ⟨sb,1,none⟩=false:=Lib.frozen_of_heap h3 1
  have HZ:Hid (Q Mn w3):=hq
  clear hq h3
  go_wp2
  go_ret
  exact .inl ⟨Mn,w3,rfl,HZ.out,rfl⟩
 ·exact⟨rfl,.inr ⟨rfl,hq⟩⟩
end Go.Proofs.YthfgpkdbclogpaaGreatDoor
namespace Go.Proofs.YthfgpkdbclogpaaGreatDoor
open Go.RowKit Go.Maps Go.Sort Go.Shelf
def keysS_ren:Go.Shelf.Ren:=⟨fun|7=>28|10=>81|n=>n,fun|23=>46|26=>9|3=>74|28=>71|0=>0|27=>70|33=>76|4=>4|n=>n,fun|n=>n⟩
theorem keysS:Go.Proofs.SlLaysZ.n7 Tryz.prog keysS_ren:={
  mixed:=by kernel_rfl
  f7:=⟨Tryz.f28.name,by decide,Tryz.func28.trans (congrArg some (by kernel_rfl))⟩
  f10:=⟨Tryz.f81.name,by decide,Tryz.func81.trans (congrArg some (by kernel_rfl))⟩
  t0:=Tryz.underlying0
  a0:=Tryz.isAgg0
  z0:=Tryz.sizeOf0
  v0:=Tryz.zeroValue0
  t4:=Tryz.underlying4
  a4:=Tryz.isAgg4
  z4:=Tryz.sizeOf4
  v4:=Tryz.zeroValue4
  t23:=Tryz.underlying46
  a23:=Tryz.isAgg46
  z23:=Tryz.sizeOf46
  v23:=Tryz.zeroValue46
  t26:=Tryz.underlying9
  a26:=Tryz.isAgg9
  z26:=Tryz.sizeOf9
  v26:=Tryz.zeroValue9
  t27:=Tryz.underlying70
  a27:=Tryz.isAgg70
  z27:=Tryz.sizeOf70
  v27:=Tryz.zeroValue70
  t28:=Tryz.underlying71
  a28:=Tryz.isAgg71
  z28:=Tryz.sizeOf71
  v28:=Tryz.zeroValue71
  t33:=Tryz.underlying76
  a33:=Tryz.isAgg76
  z33:=Tryz.sizeOf76
  v33:=Tryz.zeroValue76}
def sortedS_ren:Go.Shelf.Ren:=⟨fun|6=>27|8=>79|9=>80|11=>112|13=>114|12=>113|23=>154|24=>155|14=>145|15=>146|16=>147|17=>148|18=>149|19=>150|20=>151|21=>152|22=>153|25=>185|26=>186|27=>187|28=>188|29=>189|30=>86|31=>224|n=>n,fun|26=>9|28=>71|24=>37|0=>0|3=>3|37=>169|48=>206|50=>208|4=>4|40=>200|39=>199|45=>151|5=>5|9=>9|51=>229|55=>233|57=>261|58=>262|33=>76|n=>n,fun|n=>n⟩
theorem sortedS:Go.Proofs.SlLaysZ.n6 Tryz.prog sortedS_ren:={
  mixed:=by kernel_rfl
  f6:=⟨Tryz.f27.name,by decide,Tryz.func27.trans (congrArg some (by kernel_rfl))⟩
  f8:=⟨Tryz.f79.name,by decide,Tryz.func79.trans (congrArg some (by kernel_rfl))⟩
  f11:=⟨Tryz.f112.name,by decide,Tryz.func112.trans (congrArg some (by kernel_rfl))⟩
  t0:=Tryz.underlying0
  a0:=Tryz.isAgg0
  z0:=Tryz.sizeOf0
  v0:=Tryz.zeroValue0
  t24:=Tryz.underlying37
  a24:=Tryz.isAgg37
  z24:=Tryz.sizeOf37
  v24:=Tryz.zeroValue37
  t26:=Tryz.underlying9
  a26:=Tryz.isAgg9
  z26:=Tryz.sizeOf9
  v26:=Tryz.zeroValue9
  t28:=Tryz.underlying71
  a28:=Tryz.isAgg71
  z28:=Tryz.sizeOf71
  v28:=Tryz.zeroValue71
  i26:=by kernel_rfl}
def sortS_ren:Go.Shelf.Ren:=⟨fun|6=>80|8=>114|9=>113|19=>154|20=>155|21=>145|22=>146|23=>147|24=>148|25=>149|26=>150|27=>151|28=>152|29=>153|36=>185|31=>186|32=>187|37=>188|38=>189|39=>86|41=>224|n=>n,fun|27=>37|29=>9|3=>3|32=>169|26=>37|0=>0|44=>206|46=>208|4=>4|36=>200|35=>199|41=>151|5=>5|9=>9|53=>229|57=>233|63=>261|64=>262|n=>n,fun|n=>n⟩
theorem sortS:Go.Proofs.SlLaysM.n6 Tryz.prog sortS_ren:={
  mixed:=by kernel_rfl
  f6:=⟨Tryz.f80.name,by decide,Tryz.func80.trans (congrArg some (by kernel_rfl))⟩
  f8:=Tryz.func114.trans (congrArg some (by kernel_rfl))
  f9:=⟨Tryz.f113.name,by decide,Tryz.func113.trans (congrArg some (by kernel_rfl))⟩
  f19:=Tryz.func154.trans (congrArg some (by kernel_rfl))
  f20:=Tryz.func155.trans (congrArg some (by kernel_rfl))
  f21:=⟨Tryz.f145.name,by decide,Tryz.func145.trans (congrArg some (by kernel_rfl))⟩
  f22:=⟨Tryz.f146.name,by decide,Tryz.func146.trans (congrArg some (by kernel_rfl))⟩
  f23:=⟨Tryz.f147.name,by decide,Tryz.func147.trans (congrArg some (by kernel_rfl))⟩
  f24:=⟨Tryz.f148.name,by decide,Tryz.func148.trans (congrArg some (by kernel_rfl))⟩
  f25:=⟨Tryz.f149.name,by decide,Tryz.func149.trans (congrArg some (by kernel_rfl))⟩
  f26:=⟨Tryz.f150.name,by decide,Tryz.func150.trans (congrArg some (by kernel_rfl))⟩
  f27:=⟨Tryz.f151.name,by decide,Tryz.func151.trans (congrArg some (by kernel_rfl))⟩
  f28:=⟨Tryz.f152.name,by decide,Tryz.func152.trans (congrArg some (by kernel_rfl))⟩
  f29:=⟨Tryz.f153.name,by decide,Tryz.func153.trans (congrArg some (by kernel_rfl))⟩
  f31:=Tryz.func186.trans (congrArg some (by kernel_rfl))
  f32:=Tryz.func187.trans (congrArg some (by kernel_rfl))
  f36:=⟨Tryz.f185.name,by decide,Tryz.func185.trans (congrArg some (by kernel_rfl))⟩
  f37:=⟨Tryz.f188.name,by decide,Tryz.func188.trans (congrArg some (by kernel_rfl))⟩
  f38:=⟨Tryz.f189.name,by decide,Tryz.func189.trans (congrArg some (by kernel_rfl))⟩
  f39:=⟨Tryz.f86.name,by decide,Tryz.func86.trans (congrArg some (by kernel_rfl))⟩
  f41:=⟨Tryz.f224.name,by decide,Tryz.func224.trans (congrArg some (by kernel_rfl))⟩
  t0:=Tryz.underlying0
  a0:=Tryz.isAgg0
  z0:=Tryz.sizeOf0
  v0:=Tryz.zeroValue0
  t3:=Tryz.underlying3
  a3:=Tryz.isAgg3
  z3:=Tryz.sizeOf3
  v3:=Tryz.zeroValue3
  t4:=Tryz.underlying4
  a4:=Tryz.isAgg4
  z4:=Tryz.sizeOf4
  v4:=Tryz.zeroValue4
  t5:=Tryz.underlying5
  a5:=Tryz.isAgg5
  z5:=Tryz.sizeOf5
  v5:=Tryz.zeroValue5
  t9:=Tryz.underlying9
  a9:=Tryz.isAgg9
  z9:=Tryz.sizeOf9
  v9:=Tryz.zeroValue9
  t26:=Tryz.underlying37
  a26:=Tryz.isAgg37
  z26:=Tryz.sizeOf37
  v26:=Tryz.zeroValue37
  t27:=Tryz.underlying37
  a27:=Tryz.isAgg37
  z27:=Tryz.sizeOf37
  v27:=Tryz.zeroValue37
  t29:=Tryz.underlying9
  a29:=Tryz.isAgg9
  z29:=Tryz.sizeOf9
  v29:=Tryz.zeroValue9
  t32:=Tryz.underlying169
  a32:=Tryz.isAgg169
  z32:=Tryz.sizeOf169
  v32:=Tryz.zeroValue169
  t35:=Tryz.underlying199
  a35:=Tryz.isAgg199
  z35:=Tryz.sizeOf199
  v35:=Tryz.zeroValue199
  t36:=Tryz.underlying200
  a36:=Tryz.isAgg200
  z36:=Tryz.sizeOf200
  v36:=Tryz.zeroValue200
  t41:=Tryz.underlying151
  a41:=Tryz.isAgg151
  z41:=Tryz.sizeOf151
  v41:=Tryz.zeroValue151
  t44:=Tryz.underlying206
  a44:=Tryz.isAgg206
  z44:=Tryz.sizeOf206
  v44:=Tryz.zeroValue206
  t46:=Tryz.underlying208
  a46:=Tryz.isAgg208
  z46:=Tryz.sizeOf208
  v46:=Tryz.zeroValue208
  t53:=Tryz.underlying229
  a53:=Tryz.isAgg229
  z53:=Tryz.sizeOf229
  v53:=Tryz.zeroValue229
  t57:=Tryz.underlying233
  a57:=Tryz.isAgg233
  z57:=Tryz.sizeOf233
  v57:=Tryz.zeroValue233
  t63:=Tryz.underlying261
  a63:=Tryz.isAgg261
  z63:=Tryz.sizeOf261
  v63:=Tryz.zeroValue261
  t64:=Tryz.underlying262
  a64:=Tryz.isAgg262
  z64:=Tryz.sizeOf262
  v64:=Tryz.zeroValue262}
theorem sortsS (m:Nat):AnyZ.SortsIn Tryz.prog sortedS_ren Fence.wide m:=
  ⟨fun blk off cap ss W hH hblk hsz=>callsIn_wide.2 (AnyM.slices_Sort_string sortS blk off cap ss W hH hblk hsz),
   fun p cap W=>callsIn_wide.2 (AnyM.slices_Sort_string_none sortS p cap W)⟩
theorem keysS_any (mb:Option Nat)(w:World):Calls Tryz.prog 28 #[.map mb] w fun e w'=>e= .returned (.func (.func 81) #[] #[.pointer (some ⟨w.heap.size,0,none⟩)])∧w'=w.alloc (.cells #[.map mb] 46):=
  (callsIn_wide (n:=5)).1 (AnyZ.keys_in keysS Fence.wide 5 trivial rfl mb w)
theorem sortedS_any {H:Type}(b nn:Nat)(D0:DataW H)(R:Value→Option (DataW H×List MemPlace))(w:World)(hown:w.ownsMap Tryz.prog 9 R b nn D0)(hmax:Maps.size D0≤maxLen)(hbytes:Maps.size D0*16≤140737488355328):
    Calls Tryz.prog 27 #[.func (.func 81) #[] #[.pointer (some ⟨w.heap.size,0,none⟩)]] (w.alloc (.cells #[.map (some b)] 46)) fun e w'=>∃ (v:Value) (ss:List (List UInt8)),e= .returned v∧ss.Perm (strKeys D0)∧
      w'.ownsRow (w.alloc (.cells #[.map (some b)] 46)).heap.size 9 1 v ss.length ((ss.mergeSort (fun x y=>decide (x≤y))).map encStr)∧(v= .slice none 0 0↔ss=[])∧Below (w.alloc (.cells #[.map (some b)] 46)).heap.size (w.alloc (.cells #[.map (some b)] 46)) w':=by
  have hbl:=hown.lt
  have hseq:SeqGives Fence.wide 2 Tryz.prog 81 #[.pointer (some ⟨w.heap.size,0,none⟩)] encStr (fun ss=>ss.Perm (strKeys D0)) (Maps.size D0) (w.alloc (.cells #[.map (some b)] 46)):=
    AnyZ.keys_gives (ρ:=keysS_ren) {keysS with} Fence.wide _ trivial rfl (by omega) w.heap.size b nn D0 _ (by simp) (by simp) (by
      obtain⟨es,clock,hb,Ft,hs,hD⟩:=hown
      exact⟨es,clock,(Below.heap_alloc _ _ b hbl).trans hb,Ft,hs,hD⟩)
  exact(callsIn_wide (n:=5)).1 (AnyZ.sorted_in sortedS Fence.wide 5 trivial trivial trivial trivial rfl (by omega) (sortsS _) (enters_of Tryz.func80 (by kernel_rfl) rfl) 81 #[.pointer (some ⟨w.heap.size,0,none⟩)] trivial (enters_of Tryz.func81 (by kernel_rfl) rfl) _ _ hmax hbytes _ hseq)
end Go.Proofs.YthfgpkdbclogpaaGreatDoor
namespace Go.Proofs.YthfgpkdbclogpaaGreatDoor
open Go.RowKit Go.Shelf
theorem te_nil (xT:TypeId)(w:World):(Instr.typeAssert .nilIface xT 25 true).run Tryz.prog w= .ok (.tuple #[.int .i64 0,.bool false]) w:=by
 have hz:(zeroValue 25).run Tryz.prog w= .ok (.int .i64 0) w:=by kernel_rfl
 simp[Instr.typeAssert,run_underlying Tryz.underlying25,hz,go_sem,Result.andThen]
theorem te_yes (v:Value)(xT:TypeId)(w:World):(Instr.typeAssert (.iface 25 v) xT 25 true).run Tryz.prog w= .ok (.tuple #[v,.bool true]) w:=by
 simp[Instr.typeAssert,run_underlying Tryz.underlying25,go_sem,Result.andThen]
theorem met_no (p:Addr)(w:World):
  CallsD Tryz.prog 24 #[.pointer (some p)] .returning w fun e u' w'=>e= .returned (.tuple #[])∧u'= .returning∧w'=w:=by
 refine callsD_of_wpS Tryz.func24 rfl fun c₀ cs hu=>?_
 apply wpS_seq
 apply wpS_region
 simp[wpOpsS,go_sem,recoverD,hu,Tryz.ntmps24,Exit.thenS,te_nil]
 apply wpS_seq
 apply wpS_region
 simp[wpOpsS,go_sem,Exit.thenS]
 refine wpS_cond (t:=false) (by simp[Act.eval,Array.replicate]) ?_
 simp only[Bool.false_eq_true,if_false]
 refine wpS_of_wp (wp_skip ?_)
 cases c₀
 simp_all [bodyPostS,results,Tryz.results24]
theorem met_one (b:Nat)(x:Value)(k:Int)(older:List PanicEntry)(w:World)(h0:w.cell? ⟨b,0,none⟩=some x)(f0:w.frozen? ⟨b,0,none⟩=false):
  CallsD Tryz.prog 24 #[.pointer (some ⟨b,0,none⟩)] (.panicking ({v:= .iface 25 (.int .i64 k),recovered:=false}::older)) w fun e u' w'=>
   e= .returned (.tuple #[])∧u'= .panicking ({v:= .iface 25 (.int .i64 k),recovered:=true}::older)∧w'=w.setCell ⟨b,0,none⟩ (.int .i64 k):=by
 refine callsD_of_wpS Tryz.func24 rfl fun c₀ cs hu=>?_
 apply wpS_seq
 apply wpS_region
 simp[wpOpsS,go_sem,recoverD,hu,Tryz.ntmps24,Exit.thenS,te_yes]
 apply wpS_seq
 apply wpS_region
 simp[wpOpsS,go_sem,Exit.thenS]
 refine wpS_cond (t:=true) (by simp[Act.eval,Array.replicate]) ?_
 simp only[if_true]
 refine wpS_of_wp ?_
 simp[Array.replicate]
 go_wp2
 cases c₀
 simp_all [bodyPostS,results,Tryz.results24]
abbrev eC:Obj:= .cells #[.int .i64 0] 25
theorem trouble_no {f:Nat}{cp:Array Value}{w:World}{Q:World→Prop}(HE:∀ args W,(callFunc f args).run Tryz.prog W= .ok (.enter f args) W)
  (h:Calls Tryz.prog f cp (w.alloc eC) fun e w'=>e= .returned (.tuple #[])∧w'.heap[w.heap.size]? =some (.cells #[.int .i64 0] 25 (0,0))∧Q w'):
  Calls Tryz.prog 12 #[.func (.func f) #[] cp] w fun e w'=>e= .returned (.int .i64 0)∧∃ w1,Q w1∧w'=w1.setCell ⟨w.heap.size,0,none⟩ (.int .i64 0):=by
 have hmf:∀ (fn:Fn) (first cap:Array Value) (w:World),(Instr.makeFunc fn first cap).run Tryz.prog w= .ok (.func fn first cap) w:=fun _ _ _ _=>rfl
 go_enter_defers Tryz.func12,Tryz.ntmps12
 go_wp2_with fail
 refine h.mono ?_
 rintro e w1 ⟨rfl,hc,hq⟩
 have q0:w1.cell? ⟨w.heap.size,0,none⟩=some (.int .i64 0):=by rw[Lib.cell_of_heap hc];rfl
 have f0:w1.frozen? ⟨w.heap.size,0,none⟩=false:=Lib.frozen_of_heap hc 0
 have s0:(w1.setCell ⟨w.heap.size,0,none⟩ (.int .i64 0)).cell? ⟨w.heap.size,0,none⟩=some (.int .i64 0):=by simp[go_sem,q0]
 go_wp2
 refine leaves_cons (f:=24) (args:=#[.pointer (some ⟨w.heap.size,0,none⟩)]) (by simp) (by simp[go_sem]) ?_
 refine(met_no ⟨w.heap.size,0,none⟩ _).mono ?_
 rintro e u' w3 ⟨rfl,rfl,rfl⟩
 simp[Leaves,settle,results,Tryz.results12,go_sem,s0]
 exact⟨w1,hq,rfl⟩
theorem trouble_one {f:Nat}{cp:Array Value}{w:World}{k:Int}{Q:World→Prop}(HE:∀ args W,(callFunc f args).run Tryz.prog W= .ok (.enter f args) W)
  (h:Calls Tryz.prog f cp (w.alloc eC) fun e w'=>e=PE k∧w'.heap[w.heap.size]? =some (.cells #[.int .i64 0] 25 (0,0))∧Q w'):
  Calls Tryz.prog 12 #[.func (.func f) #[] cp] w fun e w'=>e= .returned (.int .i64 k)∧∃ w1,Q w1∧w'=w1.setCell ⟨w.heap.size,0,none⟩ (.int .i64 k):=by
 have hmf:∀ (fn:Fn) (first cap:Array Value) (w:World),(Instr.makeFunc fn first cap).run Tryz.prog w= .ok (.func fn first cap) w:=fun _ _ _ _=>rfl
 go_enter_defers Tryz.func12,Tryz.ntmps12
 go_wp2_with fail
 refine h.mono ?_
 rintro e w1 ⟨rfl,hc,hq⟩
 have q0:w1.cell? ⟨w.heap.size,0,none⟩=some (.int .i64 0):=by rw[Lib.cell_of_heap hc];rfl
 have f0:w1.frozen? ⟨w.heap.size,0,none⟩=false:=Lib.frozen_of_heap hc 0
 have s0:(w1.setCell ⟨w.heap.size,0,none⟩ (.int .i64 k)).cell? ⟨w.heap.size,0,none⟩=some (.int .i64 k):=by simp[go_sem,q0]
 go_wp2
 refine leaves_cons (f:=24) (args:=#[.pointer (some ⟨w.heap.size,0,none⟩)]) (by simp) (by simp[go_sem]) ?_
 refine(met_one w.heap.size _ k [] _ q0 f0).mono ?_
 rintro e u' w3 ⟨rfl,rfl,rfl⟩
 simp[Leaves,settle,results,Tryz.results12,go_sem,s0]
 exact⟨w1,hq,rfl⟩
end Go.Proofs.YthfgpkdbclogpaaGreatDoor
namespace Go.Proofs.YthfgpkdbclogpaaGreatDoor
open Go.RowKit Go.Maps Go.Sort Go.Shelf
theorem gl1_any {Mn k b1 n1 n2:Nat}{E:List (List UInt8×Value)}{key:List UInt8}{v:Value}{s:ByteArray}{V:World}(mv:MV V Mn k E)(hk:lkE E key=some v)(hl:key.length≤1000)(hw:WrI v s)(hT:TabE V)
  (c1:V.cell? ⟨b1,0,none⟩=some (.map (some Mn))) (c2:V.cell? ⟨n1,0,none⟩=some (.string (mkB key))) (c3:V.heap[n2]? =some (.cells #[.string ⟨#[]⟩] 9 (0,0))):
  Calls Tryz.prog 29 #[.pointer (some ⟨b1,0,none⟩),.pointer (some ⟨n1,0,none⟩),.pointer (some ⟨n2,0,none⟩)] V fun e w'=>e= .returned (.tuple #[])∧∃ V2,Below V.heap.size V V2∧w'=V2.setCell ⟨n2,0,none⟩ (.string s):=by
 have hL:=MV.look1 mv Tryz.underlying46 (zeroV V) (s:=mkB key) (by rw[mk_size];unfold maxLen;omega)
 rw[mk_data,hk]at hL
 have hL':(Instr.lookup 46 (.map (some Mn)) (.string (mkB key)) false).run Tryz.prog V= .ok v V:=hL
 have HW:=hw V hT
 have HN:Hid (V.heap[n2]? =some (.cells #[.string ⟨#[]⟩] 9 (0,0))):=c3
 clear mv hk hw hT hL c3
 go_enter Tryz.func29,Tryz.ntmps29
 go_wp2_with fail
 refine HW.mono ?_
 rintro e V2 ⟨rfl,hb⟩
 have h2:=(hb.block _ (Array.getElem?_eq_some_iff.1 HN.out).1).trans HN.out
 have d0:V2.cell? ⟨n2,0,none⟩=some (.string ⟨#[]⟩):=by rw[Lib.cell_of_heap h2];rfl
 have d1:V2.frozen? ⟨n2,0,none⟩=false:=Lib.frozen_of_heap h2 0
 have HZ:Hid (Below V.heap.size V V2):=hb
 clear hb h2
 go_wp2
 go_end0
 exact⟨rfl,V2,HZ.out,rfl⟩
theorem row_g {w:World}{B:Nat}{e:TypeId}{sz:Nat}{v:Value}{n:Nat}{xs:List Value}(h:w.ownsRow B e sz v n xs)(hn:0<n):∃ g cap,v= .slice (some ⟨g,0,none⟩) n cap∧g<w.heap.size∧∀ j,j<n*sz→w.cell? ⟨g,j,none⟩=xs[j]? :=by
 rcases h.2 with⟨_,e0⟩|⟨g,cap,cur,hv,h2,h3,h4,h5,h6,h7⟩
 ·omega
 ·exact⟨g,cap,hv,(Array.getElem?_eq_some_iff.1 h3).1,fun j hj=>by rw[Lib.cell_of_heap h3,←h7,List.getElem?_take_of_lt hj];simp⟩
def rowG (txt:List UInt8→ByteArray)(ks:List (List UInt8)):List Value:=ks.flatMap fun key=>[.string (mkB key),.string (txt key)]
theorem sort_is {ss ks:List (List UInt8)}(hp:ss.Perm ks)(hs:ks.Pairwise (· < ·)):ss.mergeSort (fun x y=>decide (x≤y))=ks:=by
 refine List.Perm.eq_of_pairwise (le:=fun a b=>decide (a≤b)=true) (fun a b _ _ h3 h4=>?_) (List.pairwise_mergeSort (fun a b c h3 h4=>?_) (fun a b=>?_) ss) (hs.imp fun h=>by rw[decide_eq_true_eq];exact List.le_of_lt h) ((List.mergeSort_perm ss _).trans hp)
 ·rw[decide_eq_true_eq]at h3 h4
  exact List.le_antisymm h3 h4
 ·rw[decide_eq_true_eq]at *
  exact List.le_trans h3 h4
 ·rw[Bool.or_eq_true,decide_eq_true_eq,decide_eq_true_eq]
  exact List.le_total a b
theorem infG:(Tryz.prog.info? 41).map (fun i=>(i.zero,i.size,i.bytes))=some (some (.agg #[.string ⟨#[]⟩,.string ⟨#[]⟩]),2,32):=by kernel_rfl
theorem globals_go {Mn k:Nat}{E:List (List UInt8×Value)}{ks:List (List UInt8)}{txt:List UInt8→ByteArray}(w:World)(mv:MV w Mn k E)(hT:TabE w)(hp:∀ ss:List (List UInt8),ss.Perm (strKeys (dE E))→ss.Perm ks)(hs:ks.Pairwise (· < ·))(hn:0<ks.length)(hn2:ks.length≤1000)(hsz:Maps.size (dE E)≤1000)
  (hk:∀ key∈ks,key.length≤1000∧∃ v,lkE E key=some v∧WrI v (txt key)):
  Calls Tryz.prog 15 #[.map (some Mn)] w fun e w'=>∃ g cap,e= .returned (.slice (some ⟨g,0,none⟩) ks.length cap)∧w.heap.size≤g∧(∀ j,j<ks.length*2→w'.cell? ⟨g,j,none⟩=(rowG txt ks)[j]?)∧Below w.heap.size w w':=by
 obtain⟨i0,hi,hz0,hz1,hz2⟩:=info_p infG
 have hmf:∀ (fn:Fn) (first cap:Array Value) (w:World),(Instr.makeFunc fn first cap).run Tryz.prog w= .ok (.func fn first cap) w:=fun _ _ _ _=>rfl
 obtain⟨W0,e0⟩:∃ W0,W0=w.alloc (.cells #[.map (some Mn)] 46):=⟨_,rfl⟩
 have hb0:Below w.heap.size w W0:=by rw[e0];exact(Below.refl _ w).alloc (Nat.le_refl _) _
 have mv0:MV W0 Mn k E:=omapV mv (hb0.block _ mv.lt)
 have hbx:W0.heap[w.heap.size]? =some (.cells #[.map (some Mn)] 46 (0,0)):=by rw[e0];exact heap_alloc_new w _
 have HK:=keysS_any (some Mn) W0
 have HS:=sortedS_any Mn k (dE E) rdV W0 mv0 (by unfold maxLen;omega) (by omega)
 have c0:W0.cell? ⟨w.heap.size,0,none⟩=some (.map (some Mn)):=by rw[Lib.cell_of_heap hbx];rfl
 have HF:Hid (W0=w.alloc (.cells #[.map (some Mn)] 46)∧Below w.heap.size w W0∧MV W0 Mn k E∧W0.heap[w.heap.size]? =some (.cells #[.map (some Mn)] 46 (0,0))∧TabE W0∧(∀ ss:List (List UInt8),ss.Perm (strKeys (dE E))→ss.Perm ks)∧ks.Pairwise (· < ·)∧(∀ key∈ks,key.length≤1000∧∃ v,lkE E key=some v∧WrI v (txt key))):=⟨e0,hb0,mv0,hbx,hT.below hb0 hT.lt,hp,hs,hk⟩
 clear mv hb0 mv0 hbx hp hs hsz hk hT
 have hsw:W0.heap.size=w.heap.size+1:=by rw[e0];exact World.size_alloc _ _
 rw[hsw]at HK HS
 rw[e0]at HK c0 HS
 go_enter Tryz.func15,Tryz.ntmps15
 go_wp2_with fail
 refine HK.mono ?_
 rintro e w' ⟨rfl,rfl⟩
 go_wp2_with fail
 refine HS.mono ?_
 rintro e wS ⟨v,ss,rfl,hpm,hrow,-,hbS⟩
 obtain⟨q0,q1,q2,q3,q4,q5,q6,q7⟩:=HF.out
 rw[sort_is (q5 ss hpm) q6]at hrow
 have hlen:ss.length=ks.length:=(q5 ss hpm).length_eq
 rw[hlen]at hrow
 obtain⟨gk,ck,rfl,hgk,hck⟩:=row_g hrow hn
 rw[←q0]at hbS
 have hb1:Below W0.heap.size W0 (W0.alloc (.cells #[.map (some Mn)] 46)):=(Below.refl _ W0).alloc (Nat.le_refl _) _
 have hbW:Below W0.heap.size W0 wS:=hb1.trans (hbS.mono hb1.size)
 have HS2:Hid (Below w.heap.size w wS∧MV wS Mn k E∧wS.heap[w.heap.size]? =some (.cells #[.map (some Mn)] 46 (0,0))∧TabE wS∧(∀ j (hj:j<ks.length),wS.cell? ⟨gk,j,none⟩=some (.string (mkB ks[j])))∧gk<wS.heap.size∧w.heap.size≤wS.heap.size):=
  ⟨q1.trans (hbW.mono q1.size),omapV q2 (hbW.block _ q2.lt),(hbW.block _ (Array.getElem?_eq_some_iff.1 q3).1).trans q3,q4.below hbW q4.lt,fun j hj=>by rw[hck j (by omega)];simp[hj];rfl,hgk,Nat.le_trans q1.size hbW.size⟩
 have HKs:Hid (∀ key∈ks,key.length≤1000∧∃ v,lkE E key=some v∧WrI v (txt key)):=q7
 clear HF hrow hck hbS hb1 hbW q0 q1 q2 q3 q4 q5 q6 q7 hpm hlen e0
 go_wp2
 go_loopw [3,12] (fun lv iv wr=>∃ i:Nat,i≤ks.length∧iv= .int .i64 (i:Int)∧Hid (Below wS.heap.size wS wr∧wr.ownsRow wS.heap.size 41 2 lv i (rowG txt (ks.take i)))) (fun _ iv _=>ks.length-(intOf iv).toNat)
 case atStart=>exact⟨0,Nat.zero_le _,rfl,Below.refl _ _,World.ownsRow_nil _ _ _ _⟩
 case round=>
  obtain⟨i,hi1,rfl,HI⟩:=hrel
  by_cases hl:i<ks.length
  ·have hli:(i:Int)<(ks.length:Int):=by omega
   obtain⟨hkl,v,hkv,hwv⟩:=HKs.out ks[i] (List.getElem_mem hl)
   obtain⟨al,cl,rfl⟩:=row_shape HI.out.2
   have ck1:wr.cell? ⟨gk,i,none⟩=some (.string (mkB ks[i])):=(HI.out.1.cell HS2.out.2.2.2.2.2.1).trans (HS2.out.2.2.2.2.1 i hl)
   obtain⟨W2,e2⟩:∃ W2,W2=(wr.alloc (.cells #[.string (mkB ks[i])] 9)).alloc (.cells #[.string ⟨#[]⟩] 9):=⟨_,rfl⟩
   have s1:(wr.alloc (.cells #[.string (mkB ks[i])] 9)).heap.size=wr.heap.size+1:=World.size_alloc _ _
   have s2:W2.heap.size=wr.heap.size+1+1:=by rw[e2,World.size_alloc,s1]
   have n1:W2.heap[wr.heap.size]? =some (.cells #[.string (mkB ks[i])] 9 (0,0)):=by rw[e2];exact(heap_al _ _ _ (by omega)).trans (heap_alloc_new wr _)
   have n2:W2.heap[wr.heap.size+1]? =some (.cells #[.string ⟨#[]⟩] 9 (0,0)):=by rw[e2,←s1];exact heap_alloc_new _ _
   have hb2:Below wr.heap.size wr W2:=by rw[e2];exact((Below.refl _ wr).alloc (Nat.le_refl _) _).alloc (by omega) _
   have hb3:Below W2.heap.size W2 (W2.alloc eC):=(Below.refl _ W2).alloc (Nat.le_refl _) _
   have hs0:=HI.out.1.size
   have hbS:Below wS.heap.size wS (W2.alloc eC):=HI.out.1.trans ((hb2.trans (hb3.mono (by omega))).mono hs0)
   have c1:(W2.alloc eC).cell? ⟨w.heap.size,0,none⟩=some (.map (some Mn)):=by
    rw[Lib.cell_of_heap ((hbS.block _ (Array.getElem?_eq_some_iff.1 HS2.out.2.2.1).1).trans HS2.out.2.2.1)];rfl
   have c2:(W2.alloc eC).cell? ⟨wr.heap.size,0,none⟩=some (.string (mkB ks[i])):=by
    rw[Lib.cell_of_heap ((hb3.block _ (by omega)).trans n1)];rfl
   have HG1:=gl1_any (V:=W2.alloc eC) (b1:=w.heap.size) (n1:=wr.heap.size) (n2:=wr.heap.size+1) (omapV HS2.out.2.1 (hbS.block _ HS2.out.2.1.lt)) hkv hkl hwv (HS2.out.2.2.2.1.below hbS HS2.out.2.2.2.1.lt) c1 c2 ((hb3.block _ (by omega)).trans n2)
   have HE:∀ args W,(callFunc 29 args).run Tryz.prog W= .ok (.enter 29 args) W:=enters_of Tryz.func29 (by kernel_rfl) rfl
   have hsV:(W2.alloc eC).heap.size=W2.heap.size+1:=World.size_alloc _ _
   have HT:=trouble_no (w:=W2) (Q:=fun w'=>∃ V2,Below (W2.alloc eC).heap.size (W2.alloc eC) V2∧w'=V2.setCell ⟨wr.heap.size+1,0,none⟩ (.string (txt ks[i]))) HE (HG1.mono fun e w' q=>by
    obtain⟨q1,V2,q2,q3⟩:=q
    refine⟨q1,?_,V2,q2,q3⟩
    rw[q3,Below.heap_setCell _ ⟨wr.heap.size+1,0,none⟩ _ _ (by show W2.heap.size≠wr.heap.size+1;omega),q2.block _ (by omega)]
    exact heap_alloc_new W2 _)
   have HB2:Hid (Below wr.heap.size wr (W2.alloc eC)∧(W2.alloc eC).heap[wr.heap.size]? =some (.cells #[.string (mkB ks[i])] 9 (0,0))∧(W2.alloc eC).heap[wr.heap.size+1]? =some (.cells #[.string ⟨#[]⟩] 9 (0,0))):=⟨hb2.trans (hb3.mono (by omega)),(hb3.block _ (by omega)).trans n1,(hb3.block _ (by omega)).trans n2⟩
   clear HG1 n1 n2 hb2 hb3 hbS c1 c2 hkv hwv
   rw[e2]at HT
   go_wp2_with fail
   refine HT.mono ?_
   rintro e w3 ⟨rfl,w1,⟨V2,hV,rfl⟩,rfl⟩
   rw[←e2]at hV ⊢
   have hVs:=hV.size
   have m1:=(hV.block _ (by omega)).trans HB2.out.2.1
   have m2:=(hV.block _ (by omega)).trans HB2.out.2.2
   obtain⟨V3,e3⟩:∃ V3,V3=(V2.setCell ⟨wr.heap.size+1,0,none⟩ (.string (txt ks[i]))).setCell ⟨W2.heap.size,0,none⟩ (.int .i64 0):=⟨_,rfl⟩
   have o3:∀ g,g≠wr.heap.size+1→g≠W2.heap.size→V3.heap[g]? =V2.heap[g]? :=fun g h1 h2=>by rw[e3,Below.heap_setCell _ ⟨W2.heap.size,0,none⟩ _ g h2,Below.heap_setCell _ ⟨wr.heap.size+1,0,none⟩ _ g h1]
   have d1:V3.cell? ⟨wr.heap.size,0,none⟩=some (.string (mkB ks[i])):=by rw[Lib.cell_of_heap ((o3 _ (by omega) (by omega)).trans m1)];rfl
   have d2:V3.cell? ⟨wr.heap.size+1,0,none⟩=some (.string (txt ks[i])):=by
    have hx:=heap_setCell_same V2 (wr.heap.size+1) 0 _ 9 (.string (txt ks[i])) m2
    rw[Lib.cell_of_heap (by rw[e3,Below.heap_setCell _ ⟨W2.heap.size,0,none⟩ _ _ (by show wr.heap.size+1≠W2.heap.size;omega)];exact hx)]
    rfl
   have hb4:Below wr.heap.size wr V3:=by
    rw[e3]
    exact((HB2.out.1.trans (hV.mono (by omega))).setCell (p:=⟨wr.heap.size+1,0,none⟩) (Nat.le_succ _) _).setCell (p:=⟨W2.heap.size,0,none⟩) (by show wr.heap.size≤W2.heap.size;omega) _
   have hr4:=own_heap HI.out.2 (w':=V3) (fun g hg=>hb4.block g (HI.out.2.lt g hg).2)
   have hr5:=own_heap hr4 (w':=V3.alloc (.cells #[.string (mkB ks[i]),.string (txt ks[i])] 41)) (fun g hg=>heap_al _ _ g (hr4.lt g hg).2)
   have hs5:(V3.alloc (.cells #[.string (mkB ks[i]),.string (txt ks[i])] 41)).heap.size=V3.heap.size+1:=World.size_alloc _ _
   have hb5:Below wS.heap.size wS (V3.alloc (.cells #[.string (mkB ks[i]),.string (txt ks[i])] 41)):=(HI.out.1.trans (hb4.mono hs0)).alloc (by have:=hb4.size;omega) _
   have hsX:wS.heap.size≤(V3.alloc (.cells #[.string (mkB ks[i]),.string (txt ks[i])] 41)).heap.size:=by have:=hb4.size;omega
   have hnews:∀ (j:Nat) (u:Value),([.string (mkB ks[i]),.string (txt ks[i])]:List Value)[j]? =some u→(V3.alloc (.cells #[.string (mkB ks[i]),.string (txt ks[i])] 41)).cell? ((⟨V3.heap.size,0,none⟩:Addr).add j)=some u:=fun j u hu=>World.news_of_block (heap_alloc_new V3 _) j u hu
   have HX:Hid (Below wS.heap.size wS (V3.alloc (.cells #[.string (mkB ks[i]),.string (txt ks[i])] 41))∧(V3.alloc (.cells #[.string (mkB ks[i]),.string (txt ks[i])] 41)).ownsRow wS.heap.size 41 2 (.slice al i cl) i (rowG txt (ks.take i))):=⟨hb5,hr5⟩
   have htk:rowG txt (ks.take (i+1))=rowG txt (ks.take i)++[.string (mkB ks[i]),.string (txt ks[i])]:=by
    unfold rowG
    rw[List.take_succ_eq_append_getElem hl,List.flatMap_append]
    simp
   rw[←e3]
   clear HB2 hV m1 m2 o3 hb4 hr4 hr5 hs5 hb5 HT e3 s2 e2 hVs HI
   go_wp2_with (first
    |(refine wpList_append_lies (V3.alloc (.cells #[.string (mkB ks[i]),.string (txt ks[i])] 41)) (by rfl) (Operand.tmp 20) (Operand.tmp 24) 31 (by rfl) wS.heap.size 41 i0 (.agg #[.string ⟨#[]⟩,.string ⟨#[]⟩]) 2 32 Tryz.underlying31 hi hz0 hz1 hz2 rfl (by decide) (.slice al i cl) i (rowG txt (ks.take i)) (by rfl) HX.out.2 ⟨V3.heap.size,0,none⟩ 1 1 ([.string (mkB ks[i]),.string (txt ks[i])]:List Value) (by rfl) rfl hnews (by simp[Value.oneCell']) (by decide) (by unfold maxLen;omega) (by omega) hsX (V3.alloc (.cells #[.string (mkB ks[i]),.string (txt ks[i])] 41)).heap.size rfl ?_;intro g' cap' w5 hown5 hgrow hat hltg)
    |fail)
   have HN:Hid (Below wS.heap.size wS w5∧w5.ownsRow wS.heap.size 41 2 (.slice (some ⟨g',0,none⟩) (i+1) cap') (i+1) (rowG txt (ks.take (i+1)))):=⟨HX.out.1.trans ⟨hgrow.os,hgrow.tape,hgrow.output,hgrow.size,fun g hg=>hgrow.block g (by omega) (fun e=>by have:=(HX.out.2.lt g e.symm).1;omega)⟩,by rw[htk];exact hown5⟩
   exact⟨⟨i+1,by omega,by simp,HN⟩,by simp only[intOf];omega⟩
  ·have hli:¬(i:Int)<(ks.length:Int):=by omega
   have he:i=ks.length:=by omega
   subst he
   rw[List.take_length]at HI
   obtain⟨g,cap,rfl,hg,hcells⟩:=row_g HI.out.2 hn
   have hgl:=(HI.out.2.lt g rfl).1
   have HZ:Hid (w.heap.size≤g∧(∀ j,j<ks.length*2→wr.cell? ⟨g,j,none⟩=(rowG txt ks)[j]?)∧Below w.heap.size w wr):=⟨by have:=HS2.out.2.2.2.2.2.2;omega,hcells,HS2.out.1.trans (HI.out.1.mono HS2.out.2.2.2.2.2.2)⟩
   clear hcells HI hgl
   go_wp2
   go_ret
   exact⟨g,⟨cap,rfl⟩,HZ.out.1,HZ.out.2.1,HZ.out.2.2⟩
end Go.Proofs.YthfgpkdbclogpaaGreatDoor
