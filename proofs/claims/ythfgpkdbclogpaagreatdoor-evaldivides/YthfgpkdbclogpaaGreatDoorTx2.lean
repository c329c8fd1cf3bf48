/- 2. -/
import Derived.ProofKit
import Derived.Shelf.Strconv.AtoiAll
import Derived.Shelf.Small.Strs
import Derived.Test.YthfgpkdbclogpaaGreatDoorChecked
import Derived.Below
import Derived.Lib.MinMax
import Derived.Deep.RegionHeld3
import Derived.Test.YthfgpkdbclogpaaGreatDoorTx1
set_option maxHeartbeats 40000000
set_option maxRecDepth 100000
namespace Go.Proofs.YthfgpkdbclogpaaGreatDoor
open Go.RowKit
attribute [local go_sem] ta_nm ta_nm_tx ta_nm_l
theorem burn_any (r:Nat)(n:Int)(hn:0<n)(hn2:n≤9007199254740991)(w:World)(hc:w.cell? ⟨r,3,none⟩=some (.int .i64 n))(hf:w.frozen? ⟨r,3,none⟩=false):Calls Tryz.prog 42 #[.pointer (some ⟨r,0,none⟩)] w fun e w'=>e= .returned (.tuple #[])∧w'=w.setCell ⟨r,3,none⟩ (.int .i64 (n-1)):=by
 have HG:=gup_any false 9 w
 have hne:(n==(0:Int))=false:=by rw[beq_eq_false_iff_ne];omega
 go_enter Tryz.func42,Tryz.ntmps42
 go_wp2_with fail
 refine HG.mono ?_
 rintro e w' ⟨rfl,rfl⟩
 go_wp2
 go_end0
 exact⟨rfl,rfl⟩
theorem kind_nm (n:Int)(w:World):Calls Tryz.prog 345 #[.int .i64 n] w fun e w'=>e= .returned (.int .i64 2)∧w'=w:=by
 go_enter Tryz.func345,Tryz.ntmps345
 go_wp2
 go_ret
 exact⟨rfl,rfl⟩
theorem depth_is:Tryz.prog.types.size+Made.depth=431:=by kernel_rfl
theorem meth_own {P:Program}{T f:Nat}{name:String}{v:Value}{w:World}(hm:(P.info? T).map (fun i=>(i.methods.find? (·.name==name)).map fun m=>(m.path,m.func))=some (some (#[],some (f,false))))(hu:P.underlying T=some (.int .i64)):
  (method (P.types.size+Made.depth) T v name).run P w= .ok (f,v) w:=by
 obtain⟨i,hi,hm⟩:=Option.map_eq_some_iff.1 hm
 obtain⟨m,hf,hm⟩:=Option.map_eq_some_iff.1 hm
 obtain⟨hp,hff⟩:=Prod.mk.inj hm
 obtain⟨k,hk⟩:∃ k,P.types.size+Made.depth=k+1:=⟨P.types.size+99,rfl⟩
 rw[hk]
 unfold method
 simp[typeInfo,hi,hf,hp,hff,follow,receiverAt,run_underlying hu,Place.get,go_sem]
theorem m_kind {n:Int}{w:World}:(method 431 84 (.int .i64 n) "foundry/eval.kind").run Tryz.prog w= .ok (345,.int .i64 n) w:=by
 rw[←depth_is];exact meth_own (by kernel_rfl) Tryz.underlying84
theorem ta_nm_d (n:Int)(w:World):(Instr.typeAssert (nmV n) 74 130 true).run Tryz.prog w= .ok (.tuple #[.pointer none,.bool false]) w:=by
 simp[Instr.typeAssert,run_underlying Tryz.underlying130,go_sem,Result.andThen]
theorem ta_nm_f (n:Int)(w:World):(Instr.typeAssert (nmV n) 74 81 true).run Tryz.prog w= .ok (.tuple #[.pointer none,.bool false]) w:=by
 simp[Instr.typeAssert,run_underlying Tryz.underlying81,go_sem,Result.andThen]
theorem eql_ii {P:Program}(d:Nat){ti tp:TypeId}{ms:Array (String×TypeId)}{i:TypeInfo}(a b:Int)(w:World)(hi:P.underlying ti=some (.interface ms))(hp:P.underlying tp=some (.int .i64))(hinfo:P.info? tp=some i)(hcomp:i.comparable=true):
  (Op.equalIn (d+2) ti (.iface tp (.int .i64 a)) (.iface tp (.int .i64 b))).run P w= .ok (a==b) w:=by
 simp[Op.equalIn,run_underlying hi,run_underlying hp,typeInfo,hinfo,hcomp]
theorem cmp_nm:(Tryz.prog.info? 84).map (·.comparable)=some true:=by kernel_rfl
theorem eql_nm (a b:Int)(w:World):(binOp BinOp.eql 74 (nmV a) (nmV b)).run Tryz.prog w= .ok (.bool (a==b)) w:=by
 obtain⟨i,hi,hc⟩:=Option.map_eq_some_iff.1 cmp_nm
 have h:(Op.equal 74 (nmV a) (nmV b)).run Tryz.prog w= .ok (a==b) w:=eql_ii 9998 a b w Tryz.underlying74 Tryz.underlying84 hi hc
 simp only[binOp]
 simp[h]
attribute [local go_sem] m_kind ta_nm_d ta_nm_f eql_nm
theorem same_any (r:Nat)(n a b:Int)(hn:0<n)(hn2:n≤9007199254740991)(w:World)(hc:w.cell? ⟨r,3,none⟩=some (.int .i64 n))(hf:w.frozen? ⟨r,3,none⟩=false):Calls Tryz.prog 62 #[.pointer (some ⟨r,0,none⟩),nmV a,nmV b] w fun e w'=>e= .returned (.bool (a==b))∧w'=w.setCell ⟨r,3,none⟩ (.int .i64 (n-1)):=by
 have HB:=burn_any r n hn hn2 w hc hf
 have KA:=kind_nm a (w.setCell ⟨r,3,none⟩ (.int .i64 (n-1)))
 have KB:=kind_nm b (w.setCell ⟨r,3,none⟩ (.int .i64 (n-1)))
 go_enter Tryz.func62,Tryz.ntmps62
 go_wp2_with fail
 refine HB.mono ?_
 rintro e w' ⟨rfl,rfl⟩
 go_wp2_with fail
 refine KA.mono ?_
 rintro e w' ⟨rfl,rfl⟩
 go_wp2_with fail
 refine KB.mono ?_
 rintro e w' ⟨rfl,rfl⟩
 go_wp2
 go_ret
 exact⟨rfl,rfl⟩
theorem eq_any (q r:Nat)(n a b:Int)(hn:0<n)(hn2:n≤9007199254740991)(w:World)(hq:w.cell? ⟨q,0,none⟩=some (.pointer (some ⟨r,0,none⟩)))(hc:w.cell? ⟨r,3,none⟩=some (.int .i64 n))(hf:w.frozen? ⟨r,3,none⟩=false):Calls Tryz.prog 61 #[nmV a,nmV b,.pointer (some ⟨q,0,none⟩)] w fun e w'=>e= .returned (trV (a==b))∧w'=w.setCell ⟨r,3,none⟩ (.int .i64 (n-1)):=by
 have HS:=same_any r n a b hn hn2 w hc hf
 go_enter Tryz.func61,Tryz.ntmps61
 go_wp2_with fail
 refine HS.mono ?_
 rintro e w' ⟨rfl,rfl⟩
 go_wp2
 go_ret
 exact⟨rfl,rfl⟩
end Go.Proofs.YthfgpkdbclogpaaGreatDoor
namespace Go.Proofs.YthfgpkdbclogpaaGreatDoor
open Go.RowKit
theorem ta_tr_n (b:Bool)(w:World):(Instr.typeAssert (trV b) 74 172 true).run Tryz.prog w= .ok (.tuple #[.agg #[],.bool false]) w:=by
 simp[Instr.typeAssert,run_underlying Tryz.underlying172,go_sem,Result.andThen]
theorem ta_tr (b:Bool)(w:World):(Instr.typeAssert (trV b) 74 104 true).run Tryz.prog w= .ok (.tuple #[.bool b,.bool true]) w:=by
 simp[Instr.typeAssert,run_underlying Tryz.underlying104,go_sem,Result.andThen]
attribute [local go_sem] ta_tr ta_tr_n
theorem true_any (b:Bool)(w:World):Calls Tryz.prog 143 #[trV b] w fun e w'=>e= .returned (.bool b)∧w'=w:=by
 go_enter Tryz.func143,Tryz.ntmps143
 go_wp2
 go_ret
 exact⟨rfl,rfl⟩
end Go.Proofs.YthfgpkdbclogpaaGreatDoor
namespace Go.Proofs.YthfgpkdbclogpaaGreatDoor
def isDg (c:UInt8):Bool:=decide (48≤c.toNat)&&decide (c.toNat≤57)
def isLt (c:UInt8):Bool:=(decide (97≤c.toNat)&&decide (c.toNat≤122))||(decide (65≤c.toNat)&&decide (c.toNat≤90))||decide (c.toNat=95)
def isOpn (c:UInt8):Bool:=decide (c.toNat=40)||decide (c.toNat=91)||decide (c.toNat=123)
def isCls (c:UInt8):Bool:=decide (c.toNat=41)||decide (c.toNat=93)||decide (c.toNat=125)
def isSg1 (c:UInt8):Bool:=[61,60,43,45,42,37,40,41,91,93,123,125,44,58].contains c.toNat
def isNm (c:UInt8):Bool:=isLt c||isDg c
def isPl (c:UInt8):Bool:=decide (32≤c.toNat)&&decide (c.toNat≠34)&&decide (c.toNat≠92)
def isNl (c:UInt8):Bool:=decide (c.toNat≠10)
def isBl (o:Nat)(c:UInt8):Bool:=decide (c.toNat=32)||(decide (c.toNat=10)&&decide (0<o))
def rch (h:UInt8→Bool):List UInt8→Nat
 |[]=>0
 |c::r=>bif h c then rch h r+1 else 0
theorem rch_le (h:UInt8→Bool):∀ r:List UInt8,rch h r≤r.length
 |[]=>Nat.le_refl _
 |c::r=>by
  unfold rch
  cases h c
  ·simp
  ·simp;exact rch_le h r
def two2 (r:List UInt8):Bool:=[[61,61],[33,61],[60,61],[47,47]].contains ((r.take 2).map (·.toNat))
def sgn (r:List UInt8):Nat:=bif two2 r then 2 else bif isSg1 (r.getD 0 0)then 1 else 0
def beg (r:List UInt8):Bool:=isLt (r.getD 0 0)||isDg (r.getD 0 0)||decide ((r.getD 0 0).toNat=34)||decide (0<sgn r)
def valD (n:Nat):List UInt8→Nat
 |[]=>n
 |c::r=>valD (10*n+(c.toNat-48)) r
def noInt (r:List UInt8):Bool:=decide (9007199254740991<valD 0 (r.take (rch isDg r)))||(decide (1<rch isDg r)&&decide ((r.getD 0 0).toNat=48))
def skp (o:Nat):Nat→List UInt8→Nat
 |0,r=>rch (isBl o) r
 |f+1,r=>bif decide (((r.drop (rch (isBl o) r)).getD 0 0).toNat=35)then
   rch (isBl o) r+rch isNl (r.drop (rch (isBl o) r))+skp o f (r.drop (rch (isBl o) r+rch isNl (r.drop (rch (isBl o) r))))
  else rch (isBl o) r
structure Tk where
 kind:Nat
 text:List UInt8
 num:Nat
 pos:Nat
structure Sp where
 pos:Nat
 toks:List Tk
 ins:List Nat
 opn:Nat
abbrev Ft:=Nat×Nat
def Sp.top (p:Sp):Nat:=p.ins.getD 0 0
def Sp.add (p:Sp)(k:Nat):Sp:={p with toks:=p.toks++[⟨k,[],0,p.pos⟩]}
def outF (i:Nat):Nat→Sp→Sp
 |0,p=>p
 |f+1,p=>if i<p.top then outF i f ({p with ins:=p.ins.drop 1}.add 8)else p
def Sp.come (p:Sp)(i:Nat):Sp:=
 let q:=if p.top<i then({p with ins:=i::p.ins}:Sp).add 7 else p
 outF i q.ins.length q
def refu (L:List UInt8)(p:Sp)(i:Nat):Nat:=
 let r:=L.drop p.pos
 let c:=r.getD 0 0
 if beg r=false∨(isCls c=true∧p.opn=0)then 1
 else if i<p.top∧i∉p.ins then 4
 else if isDg c=true∧noInt r=true then 3
 else if(isOpn c=true∧p.opn=30)∨(p.top<i∧30<p.ins.length)then 2
 else 0
def txt:Nat→List UInt8→List UInt8→Nat→Except Nat (List UInt8×Nat)
 |0,_,_,at_=>.error at_
 |f+1,r,said,at_=>
  let c:=(r.getD 0 0).toNat
  if r=[]then .error at_
  else if c=34 then .ok (said,at_+1)
  else if c=92 then
   let d:=((r.drop 1).getD 0 0).toNat
   if r.drop 1=[]then .error (at_+1)
   else if d=110 then txt f (r.drop 2) (said++[10]) (at_+2)
   else if d=116 then txt f (r.drop 2) (said++[9]) (at_+2)
   else if d=92∨d=34 then txt f (r.drop 2) (said++[(r.drop 1).getD 0 0]) (at_+2)
   else .error (at_+1)
  else if rch isPl r=0 then .error at_
  else txt f (r.drop (rch isPl r)) (said++r.take (rch isPl r)) (at_+rch isPl r)
def wordsL:List (List Nat):=[[97,110,100],[111,114],[110,111,116],[105,110],[105,102],[101,108,115,101],[102,111,114],[100,101,102],[114,101,116,117,114,110],[112,97,115,115],[84,114,117,101],[70,97,108,115,101],[78,111,110,101],[108,111,97,100]]
def isWd (t:List UInt8):Bool:=wordsL.contains (t.map (·.toNat))
def tok1 (L:List UInt8)(p:Sp):Except Ft Sp:=
 let r:=L.drop p.pos
 let c:=r.getD 0 0
 if c.toNat=34 then
  match txt (r.length+1) (r.drop 1) [] (p.pos+1)with
  | .error x=>.error (1,x)
  | .ok (t,x)=>.ok {p with pos:=x,toks:=p.toks++[⟨3,t,0,p.pos⟩]}
 else if isDg c then
  .ok {p with pos:=p.pos+rch isDg r,toks:=p.toks++[⟨2,r.take (rch isDg r),valD 0 (r.take (rch isDg r)),p.pos⟩]}
 else if isLt c then
  .ok {p with pos:=p.pos+rch isNm r,toks:=p.toks++[⟨bif isWd (r.take (rch isNm r))then 5 else 1,r.take (rch isNm r),0,p.pos⟩]}
 else
  .ok {p with pos:=p.pos+sgn r,toks:=p.toks++[⟨4,r.take (sgn r),0,p.pos⟩],opn:=if isOpn c then p.opn+1 else if isCls c then p.opn-1 else p.opn}
def Sp.skip (L:List UInt8)(p:Sp):Sp:={p with pos:=p.pos+skp p.opn L.length (L.drop p.pos)}
def endL (L:List UInt8)(p:Sp):Bool:=decide (p.pos=L.length)||decide (((L.drop p.pos).getD 0 0).toNat=10)
def toksF (L:List UInt8):Nat→Nat→Sp→Except Ft Sp
 |0,_,p=>.error (0,p.pos)
 |f+1,i,p=>
  if endL L p then .ok p
  else if refu L p i≠0 then .error (refu L p i,p.pos)
  else match tok1 L (p.come i)with
   | .error x=>.error x
   | .ok q=>toksF L f (q.skip L).top (q.skip L)
def lineF (L:List UInt8)(p:Sp):Except Ft Sp:=
 match toksF L (L.length+1) (skp p.opn L.length (L.drop p.pos)) (p.skip L)with
 | .error x=>.error x
 | .ok q=>if 0<q.opn then .error (1,q.pos)else if p.toks.length<q.toks.length then .ok (q.add 6)else .ok q
def linesF (L:List UInt8):Nat→Sp→Except Ft Sp
 |0,p=>.error (0,p.pos)
 |f+1,p=>
  if p.pos=L.length then .ok (p.come 0)
  else match lineF L p with
   | .error x=>.error x
   | .ok q=>if q.pos=L.length then .ok (q.come 0)else linesF L f {q with pos:=q.pos+1}
def splitL (L:List UInt8):Except Ft (List Tk):=
 match linesF L (L.length+1) ⟨0,[],[0],0⟩with
 | .error x=>.error x
 | .ok q=>.ok q.toks
end Go.Proofs.YthfgpkdbclogpaaGreatDoor
namespace Go.Proofs.YthfgpkdbclogpaaGreatDoor
open Go.RowKit Go.Shelf
def laysA_ren:Go.Shelf.Ren:=⟨fun|172=>277|244=>298|245=>299|247=>304|279=>305|280=>306|281=>307|282=>308|287=>311|316=>37|171=>117|205=>312|321=>316|322=>317|243=>157|246=>190|283=>225|284=>226|285=>227|286=>228|129=>155|317=>259|318=>260|319=>261|320=>262|337=>291|338=>292|n=>n,fun|9=>9|3=>3|75=>182|76=>183|4=>4|5=>5|167=>301|37=>28|0=>0|85=>302|2=>2|168=>304|53=>208|175=>307|46=>169|210=>310|127=>127|145=>315|143=>313|21=>21|171=>264|173=>266|212=>281|51=>206|20=>20|213=>282|232=>299|233=>300|80=>124|n=>n,fun|15=>6|16=>7|17=>1|18=>4|19=>5|n=>n⟩
theorem laysA:Go.Proofs.LaysC.n172 Tryz.prog laysA_ren:={
 mixed:=by kernel_rfl
 f129:=Tryz.func155.trans (congrArg some (by kernel_rfl))
 f171:=Tryz.func117.trans (congrArg some (by kernel_rfl))
 f172:=Tryz.func277.trans (congrArg some (by kernel_rfl))
 f205:=Tryz.func312.trans (congrArg some (by kernel_rfl))
 f243:=Tryz.func157.trans (congrArg some (by kernel_rfl))
 f244:=Tryz.func298.trans (congrArg some (by kernel_rfl))
 f245:=Tryz.func299.trans (congrArg some (by kernel_rfl))
 f246:=Tryz.func190.trans (congrArg some (by kernel_rfl))
 f247:=Tryz.func304.trans (congrArg some (by kernel_rfl))
 f279:=Tryz.func305.trans (congrArg some (by kernel_rfl))
 f280:=Tryz.func306.trans (congrArg some (by kernel_rfl))
 f281:=Tryz.func307.trans (congrArg some (by kernel_rfl))
 f282:=Tryz.func308.trans (congrArg some (by kernel_rfl))
 f283:=Tryz.func225.trans (congrArg some (by kernel_rfl))
 f284:=Tryz.func226.trans (congrArg some (by kernel_rfl))
 f285:=Tryz.func227.trans (congrArg some (by kernel_rfl))
 f286:=Tryz.func228.trans (congrArg some (by kernel_rfl))
 f287:=Tryz.func311.trans (congrArg some (by kernel_rfl))
 f316:=Tryz.func37.trans (congrArg some (by kernel_rfl))
 f317:=Tryz.func259.trans (congrArg some (by kernel_rfl))
 f318:=Tryz.func260.trans (congrArg some (by kernel_rfl))
 f319:=Tryz.func261.trans (congrArg some (by kernel_rfl))
 f320:=Tryz.func262.trans (congrArg some (by kernel_rfl))
 f321:=Tryz.func316.trans (congrArg some (by kernel_rfl))
 f322:=Tryz.func317.trans (congrArg some (by kernel_rfl))
 f337:=Tryz.func291.trans (congrArg some (by kernel_rfl))
 f338:=Tryz.func292.trans (congrArg some (by kernel_rfl))
 t0:=Tryz.underlying0
 a0:=Tryz.isAgg0
 z0:=Tryz.sizeOf0
 v0:=Tryz.zeroValue0
 t2:=Tryz.underlying2
 a2:=Tryz.isAgg2
 z2:=Tryz.sizeOf2
 v2:=Tryz.zeroValue2
 t3:=Tryz.underlying3
 a3:=Tryz.isAgg3
 z3:=Tryz.sizeOf3
 v3:=Tryz.zeroValue3
 t4:=Tryz.underlying4
 a4:=Tryz.isAgg4
 z4:=Tryz.sizeOf4
 v4:=Tryz.zeroValue4
 t5:=Tryz.underlying5
 a5:=Tryz.isAgg5
 z5:=Tryz.sizeOf5
 v5:=Tryz.zeroValue5
 t9:=Tryz.underlying9
 a9:=Tryz.isAgg9
 z9:=Tryz.sizeOf9
 v9:=Tryz.zeroValue9
 t20:=Tryz.underlying20
 a20:=Tryz.isAgg20
 z20:=Tryz.sizeOf20
 v20:=Tryz.zeroValue20
 t21:=Tryz.underlying21
 a21:=Tryz.isAgg21
 z21:=Tryz.sizeOf21
 v21:=Tryz.zeroValue21
 t37:=Tryz.underlying28
 a37:=Tryz.isAgg28
 z37:=Tryz.sizeOf28
 v37:=Tryz.zeroValue28
 t46:=Tryz.underlying169
 a46:=Tryz.isAgg169
 z46:=Tryz.sizeOf169
 v46:=Tryz.zeroValue169
 t51:=Tryz.underlying206
 a51:=Tryz.isAgg206
 z51:=Tryz.sizeOf206
 v51:=Tryz.zeroValue206
 t53:=Tryz.underlying208
 a53:=Tryz.isAgg208
 z53:=Tryz.sizeOf208
 v53:=Tryz.zeroValue208
 t75:=Tryz.underlying182
 a75:=Tryz.isAgg182
 z75:=Tryz.sizeOf182
 v75:=Tryz.zeroValue182
 t76:=Tryz.underlying183
 a76:=Tryz.isAgg183
 z76:=Tryz.sizeOf183
 v76:=Tryz.zeroValue183
 t85:=Tryz.underlying302
 a85:=Tryz.isAgg302
 z85:=Tryz.sizeOf302
 v85:=Tryz.zeroValue302
 t127:=Tryz.underlying127
 a127:=Tryz.isAgg127
 z127:=Tryz.sizeOf127
 v127:=Tryz.zeroValue127
 t143:=Tryz.underlying313
 a143:=Tryz.isAgg313
 z143:=Tryz.sizeOf313
 v143:=Tryz.zeroValue313
 t145:=Tryz.underlying315
 a145:=Tryz.isAgg315
 z145:=Tryz.sizeOf315
 v145:=Tryz.zeroValue315
 t167:=Tryz.underlying301
 a167:=Tryz.isAgg301
 z167:=Tryz.sizeOf301
 v167:=Tryz.zeroValue301
 t168:=Tryz.underlying304
 a168:=Tryz.isAgg304
 z168:=Tryz.sizeOf304
 v168:=Tryz.zeroValue304
 t171:=Tryz.underlying264
 a171:=Tryz.isAgg264
 z171:=Tryz.sizeOf264
 v171:=Tryz.zeroValue264
 t173:=Tryz.underlying266
 a173:=Tryz.isAgg266
 z173:=Tryz.sizeOf266
 v173:=Tryz.zeroValue266
 t175:=Tryz.underlying307
 a175:=Tryz.isAgg307
 z175:=Tryz.sizeOf307
 v175:=Tryz.zeroValue307
 t210:=Tryz.underlying310
 a210:=Tryz.isAgg310
 z210:=Tryz.sizeOf310
 v210:=Tryz.zeroValue310
 t212:=Tryz.underlying281
 a212:=Tryz.isAgg281
 z212:=Tryz.sizeOf281
 v212:=Tryz.zeroValue281
 t213:=Tryz.underlying282
 a213:=Tryz.isAgg282
 z213:=Tryz.sizeOf282
 t232:=Tryz.underlying299
 a232:=Tryz.isAgg299
 z232:=Tryz.sizeOf299
 v232:=Tryz.zeroValue299
 t233:=Tryz.underlying300
 a233:=Tryz.isAgg300
 z233:=Tryz.sizeOf300
 v233:=Tryz.zeroValue300
 g15:=by kernel_rfl
 g16:=by kernel_rfl
 g17:=by kernel_rfl
 g18:=by kernel_rfl
 g19:=by kernel_rfl
 t80:=Tryz.underlying124
 a80:=Tryz.isAgg124
 z80:=Tryz.sizeOf124
 v80:=Tryz.zeroValue124
 i0:=by kernel_rfl
 i2:=by kernel_rfl
 i3:=by kernel_rfl
 i4:=by kernel_rfl
 i5:=by kernel_rfl
 i9:=by kernel_rfl
 i20:=by kernel_rfl
 i21:=by kernel_rfl
 i37:=by kernel_rfl
 i46:=by kernel_rfl
 i51:=by kernel_rfl
 i53:=by kernel_rfl
 i75:=by kernel_rfl
 i76:=by kernel_rfl
 i80:=by kernel_rfl
 i85:=by kernel_rfl
 i127:=by kernel_rfl
 i143:=by kernel_rfl
 i145:=by kernel_rfl
 i167:=by kernel_rfl
 i168:=by kernel_rfl
 i171:=by kernel_rfl
 i173:=by kernel_rfl
 i175:=by kernel_rfl
 i210:=by kernel_rfl
 i212:=by kernel_rfl
 i232:=by kernel_rfl
 i233:=by kernel_rfl
 m15:=by kernel_rfl
 m16:=by kernel_rfl
 m17:=by kernel_rfl
 m18:=by kernel_rfl
 m19:=by kernel_rfl
 c0:=by kernel_rfl
 c2:=by kernel_rfl
 c3:=by kernel_rfl
 c4:=by kernel_rfl
 c5:=by kernel_rfl
 c9:=by kernel_rfl
 c20:=by kernel_rfl
 c21:=by kernel_rfl
 c37:=by kernel_rfl
 c46:=by kernel_rfl
 c51:=by kernel_rfl
 c53:=by kernel_rfl
 c75:=by kernel_rfl
 c76:=by kernel_rfl
 c80:=by kernel_rfl
 c85:=by kernel_rfl
 c127:=by kernel_rfl
 c143:=by kernel_rfl
 c145:=by kernel_rfl
 c167:=by kernel_rfl
 c168:=by kernel_rfl
 c171:=by kernel_rfl
 c173:=by kernel_rfl
 c175:=by kernel_rfl
 c210:=by kernel_rfl
 c212:=by kernel_rfl
 c213:=by kernel_rfl
 c232:=by kernel_rfl
 c233:=by kernel_rfl}
def laysX_ren:Go.Shelf.Ren:=⟨fun|137=>264|217=>208|266=>235|n=>n,fun|9=>9|5=>5|3=>3|n=>n,fun|n=>n⟩
theorem laysX:Go.Proofs.Lays.n137 Tryz.prog laysX_ren:={
 mixed:=by kernel_rfl
 f137:=Tryz.func264.trans (congrArg some (by kernel_rfl))
 f217:=Tryz.func208.trans (congrArg some (by kernel_rfl))
 f266:=Tryz.func235.trans (congrArg some (by kernel_rfl))
 t3:=Tryz.underlying3
 a3:=Tryz.isAgg3
 z3:=Tryz.sizeOf3
 v3:=Tryz.zeroValue3
 t5:=Tryz.underlying5
 a5:=Tryz.isAgg5
 z5:=Tryz.sizeOf5
 v5:=Tryz.zeroValue5
 t9:=Tryz.underlying9
 a9:=Tryz.isAgg9
 z9:=Tryz.sizeOf9
 v9:=Tryz.zeroValue9}
theorem ret_b {a b:Bool}(h:a=b):Ending.returned (.bool a)= .returned (.bool b):=by rw[h]
theorem c_eq (c:UInt8)(n:Nat):((c.toNat:Int)==(n:Int))=decide (c.toNat=n):=by
 rw[Bool.eq_iff_iff];simp;omega
theorem isDigit_any (c:UInt8)(w:World):Calls Tryz.prog 273 #[.int .u8 c.toNat] w fun e w'=>e= .returned (.bool (isDg c))∧w'=w:=by
 unfold isDg
 go_enter Tryz.func273,Tryz.ntmps273
 go_wp2
 all_goals
  go_ret
  refine⟨ret_b ?_,rfl⟩
  rw[Bool.eq_iff_iff]
  simp_all<;>omega
theorem isLetter_any (c:UInt8)(w:World):Calls Tryz.prog 278 #[.int .u8 c.toNat] w fun e w'=>e= .returned (.bool (isLt c))∧w'=w:=by
 unfold isLt
 go_enter Tryz.func278,Tryz.ntmps278
 go_wp2
 all_goals
  go_ret
  refine⟨ret_b ?_,rfl⟩
  rw[Bool.eq_iff_iff]
  simp_all<;>omega
theorem skip2_any (c:UInt8)(w:World):Calls Tryz.prog 268 #[.int .u8 c.toNat] w fun e w'=>e= .returned (.bool (isNl c))∧w'=w:=by
 unfold isNl
 go_enter Tryz.func268,Tryz.ntmps268
 go_wp2
 go_ret
 refine⟨ret_b ?_,rfl⟩
 rw[Bool.eq_iff_iff]
 simp<;>omega
theorem text1_any (c:UInt8)(w:World):Calls Tryz.prog 297 #[.int .u8 c.toNat] w fun e w'=>e= .returned (.bool (isPl c))∧w'=w:=by
 unfold isPl
 go_enter Tryz.func297,Tryz.ntmps297
 go_wp2
 all_goals
  go_ret
  refine⟨ret_b ?_,rfl⟩
  rw[Bool.eq_iff_iff]
  simp_all<;>omega
theorem token1_any (c:UInt8)(w:World):Calls Tryz.prog 279 #[.int .u8 c.toNat] w fun e w'=>e= .returned (.bool (isNm c))∧w'=w:=by
 have H1:Hid (∀ w,Calls Tryz.prog 278 #[.int .u8 c.toNat] w fun e w'=>e= .returned (.bool (isLt c))∧w'=w):=isLetter_any c
 have H2:Hid (∀ w,Calls Tryz.prog 273 #[.int .u8 c.toNat] w fun e w'=>e= .returned (.bool (isDg c))∧w'=w):=isDigit_any c
 unfold isNm
 generalize isLt c=b1 at *
 generalize isDg c=b2 at *
 cases b1 with
 |true=>
  go_enter Tryz.func279,Tryz.ntmps279
  go_wp2_with fail
  refine(H1.out _).mono ?_
  rintro e w' ⟨rfl,rfl⟩
  go_wp2
  go_ret
  exact⟨rfl,rfl⟩
 |false=>
  go_enter Tryz.func279,Tryz.ntmps279
  go_wp2_with fail
  refine(H1.out _).mono ?_
  rintro e w' ⟨rfl,rfl⟩
  go_wp2_with fail
  refine(H2.out _).mono ?_
  rintro e w' ⟨rfl,rfl⟩
  go_wp2
  go_ret
  exact⟨rfl,rfl⟩
theorem indexByte_any (s:ByteArray)(c:UInt8)(w:World):Calls Tryz.prog 264 #[.string s,.int .u8 c.toNat] w fun e w'=>e= .returned (.int .i64 (Lib.indexByte s.data.toList c))∧w'=w:=by
 have h:=Any.strings_IndexByte laysX s c.toNat w
 have e:((c.toNat:Int)).toNat.toUInt8=c:=by simp
 rw[e]at h
 exact h
theorem idx_nonneg (l:List UInt8)(c:UInt8):decide (0≤Lib.indexByte l c)=l.contains c:=by
 induction l with
 |nil=>simp[Lib.indexByte]
 |cons a r ih=>
  rw[List.contains_cons,←ih]
  have:=Lib.indexByte_ge r c
  show decide (0≤(if a==c then(0:Int)else if Lib.indexByte r c==-1 then -1 else Lib.indexByte r c+1))=_
  by_cases h:a=c
  ·simp[h]
  ·have h':(c==a)=false:=by simp;exact fun e=>h e.symm
   have h2:(a==c)=false:=by simp[h]
   rw[h',Bool.false_or,h2]
   rw[Bool.eq_iff_iff]
   by_cases h3:Lib.indexByte r c=-1
   ·simp[h3]
   ·simp[h3]
    omega
theorem isOpening_any (c:UInt8)(w:World):Calls Tryz.prog 275 #[.int .u8 c.toNat] w fun e w'=>e= .returned (.bool (isOpn c))∧w'=w:=by
 have HI:Hid (∀ w,Calls Tryz.prog 264 #[.string ⟨#[40,91,123]⟩,.int .u8 c.toNat] w fun e w'=>e= .returned (.int .i64 (Lib.indexByte [40,91,123] c))∧w'=w):=fun w=>indexByte_any ⟨#[40,91,123]⟩ c w
 have hb:decide (0≤Lib.indexByte [40,91,123] c)=isOpn c:=by
  rw[idx_nonneg]
  unfold isOpn
  rw[Bool.eq_iff_iff]
  simp[←UInt8.toNat_inj]
  omega
 generalize Lib.indexByte [40,91,123] c=x at HI hb
 go_enter Tryz.func275,Tryz.ntmps275
 go_wp2_with fail
 refine(HI.out _).mono ?_
 rintro e w' ⟨rfl,rfl⟩
 go_wp2
 go_ret
 exact⟨rfl,rfl⟩
theorem isClosing_any (c:UInt8)(w:World):Calls Tryz.prog 271 #[.int .u8 c.toNat] w fun e w'=>e= .returned (.bool (isCls c))∧w'=w:=by
 have HI:Hid (∀ w,Calls Tryz.prog 264 #[.string ⟨#[41,93,125]⟩,.int .u8 c.toNat] w fun e w'=>e= .returned (.int .i64 (Lib.indexByte [41,93,125] c))∧w'=w):=fun w=>indexByte_any ⟨#[41,93,125]⟩ c w
 have hb:decide (0≤Lib.indexByte [41,93,125] c)=isCls c:=by
  rw[idx_nonneg]
  unfold isCls
  rw[Bool.eq_iff_iff]
  simp[←UInt8.toNat_inj]
  omega
 generalize Lib.indexByte [41,93,125] c=x at HI hb
 go_enter Tryz.func271,Tryz.ntmps271
 go_wp2_with fail
 refine(HI.out _).mono ?_
 rintro e w' ⟨rfl,rfl⟩
 go_wp2
 go_ret
 exact⟨rfl,rfl⟩
def Says (F:Nat)(caps:Array Value)(w:World)(h:UInt8→Bool):Prop:=(∀ args w,(callFunc F args).run Tryz.prog w= .ok (.enter F args) w)∧∀ c:UInt8,Calls Tryz.prog F (#[.int .u8 c.toNat]++caps) w fun e w'=>e= .returned (.bool (h c))∧w'=w
theorem rch_at (h:UInt8→Bool):∀ (l:List UInt8) (k:Nat),k≤l.length→(∀ j (hj:j<l.length),j<k→h l[j]=true)→(∀ hk:k<l.length,h l[k]=false)→rch h l=k:=by
 intro l
 induction l with
 |nil=>intro k hk _ _;simp at hk;subst hk;rfl
 |cons c r ih=>
  intro k hk h1 h2
  cases k with
  |zero=>unfold rch;rw[show h c=false from h2 (by simp)];rfl
  |succ k=>
   unfold rch
   rw[show h c=true from h1 0 (by simp) (by omega)]
   have:=ih k (by simpa using hk) (fun j hj hjk=>h1 (j+1) (by simpa using hj) (by omega)) (fun hk'=>h2 (by simpa using hk'))
   rw[this]
   rfl
theorem reach_any (F:Nat)(h:UInt8→Bool)(s:ByteArray)(w:World)(hs:s.size≤1000000)(hF:Says F #[] w h):
  Calls Tryz.prog 293 #[.string s,.func (.func F) #[] #[]] w fun e w'=>e= .returned (.int .i64 (rch h s.data.toList))∧w'=w:=by
 have HF:Hid (∀ c:UInt8,Calls Tryz.prog F #[.int .u8 c.toNat] w fun e w'=>e= .returned (.bool (h c))∧w'=w):=fun c=>hF.2 c
 have hen:=hF.1
 clear hF
 go_enter Tryz.func293,Tryz.ntmps293
 go_wp2
 go_loop [8] (fun i=>∃ k:Nat,k≤s.size∧i= .int .i64 k∧Hid (∀ j (hj:j<s.size),j<k→h s[j]=true)) (fun i=>s.size-(intOf i).toNat)
 case atStart=>exact⟨0,Nat.zero_le _,rfl,by intro j hj h;omega⟩
 case round=>
  obtain⟨k,hk,rfl,HK⟩:=hrel
  by_cases hlt:k<s.size
  ·have hki:(k:Int)<(s.size:Int):=by omega
   cases hb:h s[k]with
   |true=>
    have HN:Hid (∀ j (hj:j<s.size),j<k+1→h s[j]=true):=fun j hj hjk=>by
     by_cases e:j<k
     ·exact HK.out j hj e
     ·obtain rfl:j=k:=by omega
      exact hb
    have HC:=HF.out s[k]
    rw[hb]at HC
    have HC':Hid (Calls Tryz.prog F #[.int .u8 s[k].toNat] w fun e w'=>e= .returned (.bool true)∧w'=w):=HC
    clear HC hb
    go_wp2_with fail
    refine HC'.out.mono ?_
    rintro e w' ⟨rfl,rfl⟩
    go_wp2
    refine⟨⟨k+1,by omega,by go_num,HN⟩,by simp[intOf];omega⟩
   |false=>
    have HN:Hid (rch h s.data.toList=k):=rch_at h s.data.toList k (by simpa using hk) (fun j hj hjk=>HK.out j (by simpa using hj) hjk) (fun _=>hb)
    have HC:=HF.out s[k]
    rw[hb]at HC
    have HC':Hid (Calls Tryz.prog F #[.int .u8 s[k].toNat] w fun e w'=>e= .returned (.bool false)∧w'=w):=HC
    clear HC hb
    go_wp2_with fail
    refine HC'.out.mono ?_
    rintro e w' ⟨rfl,rfl⟩
    go_wp2
    go_ret
    exact⟨by rw[HN.out];rfl,rfl⟩
  ·obtain rfl:k=s.size:=by omega
   have HN:Hid (rch h s.data.toList=s.size):=rch_at h s.data.toList s.size (by simp) (fun j hj hjk=>HK.out j (by simpa using hj) hjk) (fun hk=>by simp at hk)
   go_wp2
   go_ret
   exact⟨by rw[HN.out];rfl,rfl⟩
theorem reach_cap (F:Nat)(u:Value)(h:UInt8→Bool)(s:ByteArray)(w:World)(hs:s.size≤1000000)(hF:Says F #[u] w h):
  Calls Tryz.prog 293 #[.string s,.func (.func F) #[] #[u]] w fun e w'=>e= .returned (.int .i64 (rch h s.data.toList))∧w'=w:=by
 have HF:Hid (∀ c:UInt8,Calls Tryz.prog F #[.int .u8 c.toNat,u] w fun e w'=>e= .returned (.bool (h c))∧w'=w):=fun c=>hF.2 c
 have hen:=hF.1
 clear hF
 go_enter Tryz.func293,Tryz.ntmps293
 go_wp2
 go_loop [8] (fun i=>∃ k:Nat,k≤s.size∧i= .int .i64 k∧Hid (∀ j (hj:j<s.size),j<k→h s[j]=true)) (fun i=>s.size-(intOf i).toNat)
 case atStart=>exact⟨0,Nat.zero_le _,rfl,by intro j hj h;omega⟩
 case round=>
  obtain⟨k,hk,rfl,HK⟩:=hrel
  by_cases hlt:k<s.size
  ·have hki:(k:Int)<(s.size:Int):=by omega
   cases hb:h s[k]with
   |true=>
    have HN:Hid (∀ j (hj:j<s.size),j<k+1→h s[j]=true):=fun j hj hjk=>by
     by_cases e:j<k
     ·exact HK.out j hj e
     ·obtain rfl:j=k:=by omega
      exact hb
    have HC:=HF.out s[k]
    rw[hb]at HC
    have HC':Hid (Calls Tryz.prog F #[.int .u8 s[k].toNat,u] w fun e w'=>e= .returned (.bool true)∧w'=w):=HC
    clear HC hb
    go_wp2_with fail
    refine HC'.out.mono ?_
    rintro e w' ⟨rfl,rfl⟩
    go_wp2
    refine⟨⟨k+1,by omega,by go_num,HN⟩,by simp[intOf];omega⟩
   |false=>
    have HN:Hid (rch h s.data.toList=k):=rch_at h s.data.toList k (by simpa using hk) (fun j hj hjk=>HK.out j (by simpa using hj) hjk) (fun _=>hb)
    have HC:=HF.out s[k]
    rw[hb]at HC
    have HC':Hid (Calls Tryz.prog F #[.int .u8 s[k].toNat,u] w fun e w'=>e= .returned (.bool false)∧w'=w):=HC
    clear HC hb
    go_wp2_with fail
    refine HC'.out.mono ?_
    rintro e w' ⟨rfl,rfl⟩
    go_wp2
    go_ret
    exact⟨by rw[HN.out];rfl,rfl⟩
  ·obtain rfl:k=s.size:=by omega
   have HN:Hid (rch h s.data.toList=s.size):=rch_at h s.data.toList s.size (by simp) (fun j hj hjk=>HK.out j (by simpa using hj) hjk) (fun hk=>by simp at hk)
   go_wp2
   go_ret
   exact⟨by rw[HN.out];rfl,rfl⟩
theorem says_digit (w:World):Says 273 #[] w isDg:=⟨enters_of Tryz.func273 (by kernel_rfl) rfl,fun c=>isDigit_any c w⟩
theorem says_nm (w:World):Says 279 #[] w isNm:=⟨enters_of Tryz.func279 (by kernel_rfl) rfl,fun c=>token1_any c w⟩
theorem says_pl (w:World):Says 297 #[] w isPl:=⟨enters_of Tryz.func297 (by kernel_rfl) rfl,fun c=>text1_any c w⟩
theorem says_nl (w:World):Says 268 #[] w isNl:=⟨enters_of Tryz.func268 (by kernel_rfl) rfl,fun c=>skip2_any c w⟩
end Go.Proofs.YthfgpkdbclogpaaGreatDoor
