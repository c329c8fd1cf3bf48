/- 2. -/
import Derived.Shelf.Strconv.AtoiAll
import Derived.Shelf.Small.Strs
import Derived.Test.YtcaeeackccgclaaGreatDoorChecked
import Derived.ProofKit
import Derived.Below
import Derived.Lib.MinMax
import Derived.Deep.RegionHeld3
import Derived.Test.YtcaeeackccgclaaGreatDoorTx1
set_option maxHeartbeats 40000000
set_option maxRecDepth 100000
namespace Go.Proofs.YtcaeeackccgclaaGreatDoor
structure Ex where
 kind:Nat
 num:Nat
 text:List UInt8
 kids:List Ex
 names:List (List UInt8)
structure Sm where
 kind:Nat
 text:List UInt8
 names:List (List UInt8)
 ex:Ex
 body:List Sm
 els:List Sm
structure Ps where
 toks:List Tk
 fin:Nat
 blk:Nat
 inD:Bool
 deep:Nat
abbrev Px (α:Type):=Option (Except Ft (α×Ps))
def Ps.nx (p:Ps):Tk:=match p.toks with
 |[]=>⟨0,[],0,p.fin⟩
 |t::_=>t
def Ps.adv (p:Ps):Ps:={p with toks:=p.toks.drop 1}
def Ps.inn (p:Ps):Ps:={p with deep:=p.deep+1}
def Ps.out (p:Ps):Ps:={p with deep:=p.deep-1}
def bnd {α β:Type}(m:Px α)(f:α→Ps→Px β):Px β:=match m with
 |none=>none
 |some (.error x)=>some (.error x)
 |some (.ok (a,q))=>f a q
def gu {α:Type}(p:Ps)(k:Nat):Px α:=some (.error (k,p.nx.pos))
def ok {α:Type}(a:α)(p:Ps):Px α:=some (.ok (a,p))
theorem bnd_some {α β:Type}{m:Px α}{f:α→Ps→Px β}{z:Except Ft (β×Ps)}(h:bnd m f=some z):(∃ x,m=some (.error x)∧z= .error x)∨∃ a q,m=some (.ok (a,q))∧f a q=some z:=by
 match m,h with
 |some (.error x),h=>exact .inl ⟨x,rfl,by simpa[bnd]using h.symm⟩
 |some (.ok (a,q)),h=>exact .inr ⟨a,q,rfl,h⟩
def isS (t:Tk)(l:List (List UInt8)):Bool:=(t.kind==4||t.kind==5)&&l.contains t.text
def Ps.sees (p:Ps)(l:List (List UInt8)):Bool:=isS p.nx l
def guIf (b:Bool)(k:Nat)(p:Ps):Px Unit:=bif b then gu p k else ok () p
def tkS (x:List UInt8)(p:Ps):Px Unit:=bif p.sees [x]then ok () p.adv else gu p 1
def tkK (k:Nat)(p:Ps):Px Tk:=bif p.nx.kind==k then ok p.nx p.adv else gu p 1
def sAtom (p:Ps):Bool:=p.nx.kind==1||p.nx.kind==2||p.nx.kind==3||p.sees [[84,114,117,101],[70,97,108,115,101],[78,111,110,101],[40],[91],[123]]
def rfD (l:List (List UInt8))(p:Ps):Px Unit:=guIf ((sAtom p||p.sees l)&&p.deep==30) 2 p
def sSet (p:Ps):Bool:=match p.toks with
 |t::u::_=>t.kind==1&&isS u [[61]]
 |_=>false
def tkN (l:List (List UInt8))(p:Ps):Px (List UInt8):=bif p.nx.kind==1&&l.contains p.nx.text then gu p 6 else bnd (tkK 1 p) fun t q=>ok t.text q
def iff {α:Type}(b:Bool)(m:Px α):Px α:=bif b then m else none
def inner (m:Ps→Px Ex)(p:Ps):Px Ex:=iff (decide (p.deep<1000)) (bnd (m p.inn) fun e q=>iff (decide (1≤q.deep)) (ok e q.out))
def less (q p:Ps):Bool:=decide (q.toks.length<p.toks.length)
theorem iff_some {α:Type}{b:Bool}{m:Px α}{z:Except Ft (α×Ps)}(h:iff b m=some z):b=true∧m=some z:=by
 cases b with
 |true=>exact⟨rfl,h⟩
 |false=>cases h
def lsL {σ:Type}(c:List UInt8)(each:σ→Ps→Px σ):Nat→Bool→σ→Ps→Px σ
 |0,_,_,_=>none
 |f+1,first,s,p=>bif p.sees [c]then ok s p.adv else bnd (bif first then ok () p else tkS [44] p) fun _ q=>bnd (each s q) fun s q=>iff (less q p) (lsL c each f false s q)
def lst {σ:Type}(c:List UInt8)(each:σ→Ps→Px σ)(s:σ)(p:Ps):Px σ:=lsL c each (p.toks.length+1) true s p
def jnL (part:Ps→Px Ex)(l:List (List UInt8)):Nat→Ex→Ps→Px Ex
 |0,_,_=>none
 |f+1,e,p=>bif p.sees l then bnd (part p.adv) fun x q=>iff (less q p) (jnL part l f ⟨14,0,p.nx.text,[e,x],[]⟩ q)else ok e p
def jn (part:Ps→Px Ex)(l:List (List UInt8))(p:Ps):Px Ex:=bnd (part p) fun e q=>jnL part l (q.toks.length+1) e q
section
variable (E:Ps→Px Ex)
def Ex.kid (s:Ex)(e:Ex):Ex:={s with kids:=s.kids++[e]}
def kdE (s:Ex)(p:Ps):Px Ex:=bnd (E p) fun e q=>ok (s.kid e) q
def caE (s:Ex)(p:Ps):Px Ex:=iff (decide (s.kids.length<1000000)&&decide (s.names.length<1000000)) (
 bif sSet p then bnd (tkN s.names p) fun x q=>bnd (tkS [61] q) fun _ q=>kdE E {s with names:=s.names++[x]} q
 else bnd (guIf (decide (0<s.names.length)) 1 p) fun _ q=>kdE E s q)
def eaR (s:Ex)(p:Ps):Px Ex:=bnd (guIf (!p.sees [[93]]) 1 p) fun _ q=>ok s q
def eaF (s:Ex)(p:Ps):Px Ex:=bif p.sees [[105,102]]then bnd (kdE E s p.adv) fun s q=>eaR s q else eaR s p
def eaE (s:Ex)(p:Ps):Px Ex:=bnd (tkK 1 p) fun t q=>bnd (tkS [105,110] q) fun _ q=>bnd (kdE E {s with kind:=9,text:=t.text} q) fun s q=>eaF E s q
def liE (s:Ex)(p:Ps):Px Ex:=iff (decide (s.kids.length<1000000)) (bnd (kdE E s p) fun r q=>bif decide (r.kids.length=1)&&q.sees [[102,111,114]]then eaE E r q.adv else ok r q)
def diE (s:Ex)(p:Ps):Px Ex:=iff (decide (s.kids.length<1000000)) (bnd (kdE E s p) fun s q=>bnd (tkS [58] q) fun _ q=>kdE E s q)
def sgA (p:Ps):Px Ex:=
 bif p.sees [[84,114,117,101]]then ok ⟨2,0,[],[],[]⟩ p.adv
 else bif p.sees [[70,97,108,115,101]]then ok ⟨3,0,[],[],[]⟩ p.adv
 else bif p.sees [[78,111,110,101]]then ok ⟨1,0,[],[],[]⟩ p.adv
 else bif p.sees [[91]]then lst [93] (liE E) ⟨7,0,[],[],[]⟩ p.adv
 else bif p.sees [[123]]then lst [125] (diE E) ⟨8,0,[],[],[]⟩ p.adv
 else bnd (tkS [40] p) fun _ q=>bnd (E q) fun e q=>bnd (tkS [41] q) fun _ q=>ok e q
def atm (p:Ps):Px Ex:=
 bif p.nx.kind==1 then ok ⟨6,0,p.nx.text,[],[]⟩ p.adv
 else bif p.nx.kind==2 then ok ⟨4,p.nx.num,[],[],[]⟩ p.adv
 else bif p.nx.kind==3 then ok ⟨5,0,p.nx.text,[],[]⟩ p.adv
 else sgA E p
def psL:Nat→Ex→Ps→Px Ex
 |0,_,_=>none
 |f+1,e,p=>bif p.sees [[40]]then bnd (lst [41] (caE E) ⟨10,0,[],[e],[]⟩ p.adv) fun x q=>iff (less q p) (psL f x q)
  else bif p.sees [[91]]then bnd (E p.adv) fun x q=>bnd (tkS [93] q) fun _ q=>iff (less q p) (psL f ⟨11,0,[],[e,x],[]⟩ q)
  else ok e p
def pst (p:Ps):Px Ex:=bnd (atm E p) fun e q=>psL E (q.toks.length+1) e q
def unL:Nat→Ps→Px Ex
 |0,_=>none
 |f+1,p=>bif p.sees [[45]]then bnd (rfD [[45]] p.adv) fun _ q=>bnd (inner (unL f) q) fun k q=>ok ⟨13,0,[],[k],[]⟩ q else pst E p
def una (p:Ps):Px Ex:=unL E (p.toks.length+1) p
def sum (p:Ps):Px Ex:=jn (jn (una E) [[42],[47,47],[37]]) [[43],[45]] p
def cmp (p:Ps):Px Ex:=bnd (sum E p) fun e q=>bif q.sees [[61,61],[33,61],[60],[60,61],[105,110]]then bnd (sum E q.adv) fun x r=>ok ⟨14,0,q.nx.text,[e,x],[]⟩ r else ok e q
def ngL:Nat→Ps→Px Ex
 |0,_=>none
 |f+1,p=>bif p.sees [[110,111,116]]then bnd (rfD [[110,111,116],[45]] p.adv) fun _ q=>bnd (inner (ngL f) q) fun k q=>ok ⟨12,0,[],[k],[]⟩ q else cmp E p
def neg (p:Ps):Px Ex:=ngL E (p.toks.length+1) p
def orE (p:Ps):Px Ex:=jn (jn (neg E) [[97,110,100]]) [[111,114]] p
end
def exF:Nat→Ps→Px Ex
 |0,_=>none
 |n+1,p=>bnd (rfD [[110,111,116],[45]] p) fun _ q=>inner (orE (exF n)) q
def givS (E:Ps→Px Ex)(p:Ps):Px Sm:=bnd (guIf (!p.inD) 4 p) fun _ p=>bnd (tkS [114,101,116,117,114,110] p) fun _ p=>
 bif p.nx.kind==6 then ok ⟨2,[],[],⟨1,0,[],[],[]⟩,[],[]⟩ p else bnd (E p) fun e p=>ok ⟨2,[],[],e,[],[]⟩ p
def setS (E:Ps→Px Ex)(p:Ps):Px Sm:=bnd (tkK 1 p) fun t p=>bnd (tkS [61] p) fun _ p=>bnd (E p) fun e p=>ok ⟨3,t.text,[],e,[],[]⟩ p
end Go.Proofs.YtcaeeackccgclaaGreatDoor
namespace Go.Proofs.YtcaeeackccgclaaGreatDoor
open Go.RowKit Go.Shelf
def laysA_ren:Go.Shelf.Ren:=⟨fun|172=>99|244=>122|245=>123|247=>134|279=>135|280=>136|281=>137|282=>138|287=>147|316=>32|171=>55|205=>148|321=>154|322=>155|243=>82|246=>114|283=>129|284=>130|285=>131|286=>132|129=>142|317=>141|318=>143|319=>144|320=>145|337=>152|338=>153|n=>n,fun|9=>9|3=>3|75=>63|76=>64|4=>4|5=>5|167=>128|37=>34|0=>0|85=>129|2=>2|168=>131|53=>91|175=>139|46=>75|210=>142|127=>56|145=>148|143=>146|21=>21|171=>123|173=>126|212=>136|51=>88|20=>20|213=>137|232=>149|233=>150|80=>47|n=>n,fun|15=>2|16=>3|17=>1|18=>4|19=>5|n=>n⟩
theorem laysA:Go.Proofs.LaysC.n172 Tryz.prog laysA_ren:={
 mixed:=by kernel_rfl
 f129:=Tryz.func142.trans (congrArg some (by kernel_rfl))
 f171:=Tryz.func55.trans (congrArg some (by kernel_rfl))
 f172:=Tryz.func99.trans (congrArg some (by kernel_rfl))
 f205:=Tryz.func148.trans (congrArg some (by kernel_rfl))
 f243:=Tryz.func82.trans (congrArg some (by kernel_rfl))
 f244:=Tryz.func122.trans (congrArg some (by kernel_rfl))
 f245:=Tryz.func123.trans (congrArg some (by kernel_rfl))
 f246:=Tryz.func114.trans (congrArg some (by kernel_rfl))
 f247:=Tryz.func134.trans (congrArg some (by kernel_rfl))
 f279:=Tryz.func135.trans (congrArg some (by kernel_rfl))
 f280:=Tryz.func136.trans (congrArg some (by kernel_rfl))
 f281:=Tryz.func137.trans (congrArg some (by kernel_rfl))
 f282:=Tryz.func138.trans (congrArg some (by kernel_rfl))
 f283:=Tryz.func129.trans (congrArg some (by kernel_rfl))
 f284:=Tryz.func130.trans (congrArg some (by kernel_rfl))
 f285:=Tryz.func131.trans (congrArg some (by kernel_rfl))
 f286:=Tryz.func132.trans (congrArg some (by kernel_rfl))
 f287:=Tryz.func147.trans (congrArg some (by kernel_rfl))
 f316:=Tryz.func32.trans (congrArg some (by kernel_rfl))
 f317:=Tryz.func141.trans (congrArg some (by kernel_rfl))
 f318:=Tryz.func143.trans (congrArg some (by kernel_rfl))
 f319:=Tryz.func144.trans (congrArg some (by kernel_rfl))
 f320:=Tryz.func145.trans (congrArg some (by kernel_rfl))
 f321:=Tryz.func154.trans (congrArg some (by kernel_rfl))
 f322:=Tryz.func155.trans (congrArg some (by kernel_rfl))
 f337:=Tryz.func152.trans (congrArg some (by kernel_rfl))
 f338:=Tryz.func153.trans (congrArg some (by kernel_rfl))
 t0:=Tryz.underlying0
 a0:=Tryz.isAgg0
 z0:=Tryz.sizeOf0
 v0:=Tryz.zeroValue0
 t2:=Tryz.underlying2
 a2:=Tryz.isAgg2
 z2:=Tryz.sizeOf2
 v2:=Tryz.zeroValue2
 t3:=Tryz.underlying3
 a3:=Tryz.isAgg3
 z3:=Tryz.sizeOf3
 v3:=Tryz.zeroValue3
 t4:=Tryz.underlying4
 a4:=Tryz.isAgg4
 z4:=Tryz.sizeOf4
 v4:=Tryz.zeroValue4
 t5:=Tryz.underlying5
 a5:=Tryz.isAgg5
 z5:=Tryz.sizeOf5
 v5:=Tryz.zeroValue5
 t9:=Tryz.underlying9
 a9:=Tryz.isAgg9
 z9:=Tryz.sizeOf9
 v9:=Tryz.zeroValue9
 t20:=Tryz.underlying20
 a20:=Tryz.isAgg20
 z20:=Tryz.sizeOf20
 v20:=Tryz.zeroValue20
 t21:=Tryz.underlying21
 a21:=Tryz.isAgg21
 z21:=Tryz.sizeOf21
 v21:=Tryz.zeroValue21
 t37:=Tryz.underlying34
 a37:=Tryz.isAgg34
 z37:=Tryz.sizeOf34
 v37:=Tryz.zeroValue34
 t46:=Tryz.underlying75
 a46:=Tryz.isAgg75
 z46:=Tryz.sizeOf75
 v46:=Tryz.zeroValue75
 t51:=Tryz.underlying88
 a51:=Tryz.isAgg88
 z51:=Tryz.sizeOf88
 v51:=Tryz.zeroValue88
 t53:=Tryz.underlying91
 a53:=Tryz.isAgg91
 z53:=Tryz.sizeOf91
 v53:=Tryz.zeroValue91
 t75:=Tryz.underlying63
 a75:=Tryz.isAgg63
 z75:=Tryz.sizeOf63
 v75:=Tryz.zeroValue63
 t76:=Tryz.underlying64
 a76:=Tryz.isAgg64
 z76:=Tryz.sizeOf64
 v76:=Tryz.zeroValue64
 t85:=Tryz.underlying129
 a85:=Tryz.isAgg129
 z85:=Tryz.sizeOf129
 v85:=Tryz.zeroValue129
 t127:=Tryz.underlying56
 a127:=Tryz.isAgg56
 z127:=Tryz.sizeOf56
 v127:=Tryz.zeroValue56
 t143:=Tryz.underlying146
 a143:=Tryz.isAgg146
 z143:=Tryz.sizeOf146
 v143:=Tryz.zeroValue146
 t145:=Tryz.underlying148
 a145:=Tryz.isAgg148
 z145:=Tryz.sizeOf148
 v145:=Tryz.zeroValue148
 t167:=Tryz.underlying128
 a167:=Tryz.isAgg128
 z167:=Tryz.sizeOf128
 v167:=Tryz.zeroValue128
 t168:=Tryz.underlying131
 a168:=Tryz.isAgg131
 z168:=Tryz.sizeOf131
 v168:=Tryz.zeroValue131
 t171:=Tryz.underlying123
 a171:=Tryz.isAgg123
 z171:=Tryz.sizeOf123
 v171:=Tryz.zeroValue123
 t173:=Tryz.underlying126
 a173:=Tryz.isAgg126
 z173:=Tryz.sizeOf126
 v173:=Tryz.zeroValue126
 t175:=Tryz.underlying139
 a175:=Tryz.isAgg139
 z175:=Tryz.sizeOf139
 v175:=Tryz.zeroValue139
 t210:=Tryz.underlying142
 a210:=Tryz.isAgg142
 z210:=Tryz.sizeOf142
 v210:=Tryz.zeroValue142
 t212:=Tryz.underlying136
 a212:=Tryz.isAgg136
 z212:=Tryz.sizeOf136
 v212:=Tryz.zeroValue136
 t213:=Tryz.underlying137
 a213:=Tryz.isAgg137
 z213:=Tryz.sizeOf137
 t232:=Tryz.underlying149
 a232:=Tryz.isAgg149
 z232:=Tryz.sizeOf149
 v232:=Tryz.zeroValue149
 t233:=Tryz.underlying150
 a233:=Tryz.isAgg150
 z233:=Tryz.sizeOf150
 v233:=Tryz.zeroValue150
 g15:=by kernel_rfl
 g16:=by kernel_rfl
 g17:=by kernel_rfl
 g18:=by kernel_rfl
 g19:=by kernel_rfl
 t80:=Tryz.underlying47
 a80:=Tryz.isAgg47
 z80:=Tryz.sizeOf47
 v80:=Tryz.zeroValue47
 i0:=by kernel_rfl
 i2:=by kernel_rfl
 i3:=by kernel_rfl
 i4:=by kernel_rfl
 i5:=by kernel_rfl
 i9:=by kernel_rfl
 i20:=by kernel_rfl
 i21:=by kernel_rfl
 i37:=by kernel_rfl
 i46:=by kernel_rfl
 i51:=by kernel_rfl
 i53:=by kernel_rfl
 i75:=by kernel_rfl
 i76:=by kernel_rfl
 i80:=by kernel_rfl
 i85:=by kernel_rfl
 i127:=by kernel_rfl
 i143:=by kernel_rfl
 i145:=by kernel_rfl
 i167:=by kernel_rfl
 i168:=by kernel_rfl
 i171:=by kernel_rfl
 i173:=by kernel_rfl
 i175:=by kernel_rfl
 i210:=by kernel_rfl
 i212:=by kernel_rfl
 i232:=by kernel_rfl
 i233:=by kernel_rfl
 m15:=by kernel_rfl
 m16:=by kernel_rfl
 m17:=by kernel_rfl
 m18:=by kernel_rfl
 m19:=by kernel_rfl
 c0:=by kernel_rfl
 c2:=by kernel_rfl
 c3:=by kernel_rfl
 c4:=by kernel_rfl
 c5:=by kernel_rfl
 c9:=by kernel_rfl
 c20:=by kernel_rfl
 c21:=by kernel_rfl
 c37:=by kernel_rfl
 c46:=by kernel_rfl
 c51:=by kernel_rfl
 c53:=by kernel_rfl
 c75:=by kernel_rfl
 c76:=by kernel_rfl
 c80:=by kernel_rfl
 c85:=by kernel_rfl
 c127:=by kernel_rfl
 c143:=by kernel_rfl
 c145:=by kernel_rfl
 c167:=by kernel_rfl
 c168:=by kernel_rfl
 c171:=by kernel_rfl
 c173:=by kernel_rfl
 c175:=by kernel_rfl
 c210:=by kernel_rfl
 c212:=by kernel_rfl
 c213:=by kernel_rfl
 c232:=by kernel_rfl
 c233:=by kernel_rfl}
def laysX_ren:Go.Shelf.Ren:=⟨fun|137=>118|217=>133|266=>146|n=>n,fun|9=>9|5=>5|3=>3|n=>n,fun|n=>n⟩
theorem laysX:Go.Proofs.Lays.n137 Tryz.prog laysX_ren:={
 mixed:=by kernel_rfl
 f137:=Tryz.func118.trans (congrArg some (by kernel_rfl))
 f217:=Tryz.func133.trans (congrArg some (by kernel_rfl))
 f266:=Tryz.func146.trans (congrArg some (by kernel_rfl))
 t3:=Tryz.underlying3
 a3:=Tryz.isAgg3
 z3:=Tryz.sizeOf3
 v3:=Tryz.zeroValue3
 t5:=Tryz.underlying5
 a5:=Tryz.isAgg5
 z5:=Tryz.sizeOf5
 v5:=Tryz.zeroValue5
 t9:=Tryz.underlying9
 a9:=Tryz.isAgg9
 z9:=Tryz.sizeOf9
 v9:=Tryz.zeroValue9}
theorem ret_b {a b:Bool}(h:a=b):Ending.returned (.bool a)= .returned (.bool b):=by rw[h]
theorem c_eq (c:UInt8)(n:Nat):((c.toNat:Int)==(n:Int))=decide (c.toNat=n):=by
 rw[Bool.eq_iff_iff];simp;omega
theorem isDigit_any (c:UInt8)(w:World):Calls Tryz.prog 95 #[.int .u8 c.toNat] w fun e w'=>e= .returned (.bool (isDg c))∧w'=w:=by
 unfold isDg
 go_enter Tryz.func95,Tryz.ntmps95
 go_wp2
 all_goals
  go_ret
  refine⟨ret_b ?_,rfl⟩
  rw[Bool.eq_iff_iff]
  simp_all<;>omega
theorem isLetter_any (c:UInt8)(w:World):Calls Tryz.prog 100 #[.int .u8 c.toNat] w fun e w'=>e= .returned (.bool (isLt c))∧w'=w:=by
 unfold isLt
 go_enter Tryz.func100,Tryz.ntmps100
 go_wp2
 all_goals
  go_ret
  refine⟨ret_b ?_,rfl⟩
  rw[Bool.eq_iff_iff]
  simp_all<;>omega
theorem skip2_any (c:UInt8)(w:World):Calls Tryz.prog 90 #[.int .u8 c.toNat] w fun e w'=>e= .returned (.bool (isNl c))∧w'=w:=by
 unfold isNl
 go_enter Tryz.func90,Tryz.ntmps90
 go_wp2
 go_ret
 refine⟨ret_b ?_,rfl⟩
 rw[Bool.eq_iff_iff]
 simp<;>omega
theorem text1_any (c:UInt8)(w:World):Calls Tryz.prog 121 #[.int .u8 c.toNat] w fun e w'=>e= .returned (.bool (isPl c))∧w'=w:=by
 unfold isPl
 go_enter Tryz.func121,Tryz.ntmps121
 go_wp2
 all_goals
  go_ret
  refine⟨ret_b ?_,rfl⟩
  rw[Bool.eq_iff_iff]
  simp_all<;>omega
theorem token1_any (c:UInt8)(w:World):Calls Tryz.prog 101 #[.int .u8 c.toNat] w fun e w'=>e= .returned (.bool (isNm c))∧w'=w:=by
 have H1:Hid (∀ w,Calls Tryz.prog 100 #[.int .u8 c.toNat] w fun e w'=>e= .returned (.bool (isLt c))∧w'=w):=isLetter_any c
 have H2:Hid (∀ w,Calls Tryz.prog 95 #[.int .u8 c.toNat] w fun e w'=>e= .returned (.bool (isDg c))∧w'=w):=isDigit_any c
 unfold isNm
 generalize isLt c=b1 at *
 generalize isDg c=b2 at *
 cases b1 with
 |true=>
  go_enter Tryz.func101,Tryz.ntmps101
  go_wp2_with fail
  refine(H1.out _).mono ?_
  rintro e w' ⟨rfl,rfl⟩
  go_wp2
  go_ret
  exact⟨rfl,rfl⟩
 |false=>
  go_enter Tryz.func101,Tryz.ntmps101
  go_wp2_with fail
  refine(H1.out _).mono ?_
  rintro e w' ⟨rfl,rfl⟩
  go_wp2_with fail
  refine(H2.out _).mono ?_
  rintro e w' ⟨rfl,rfl⟩
  go_wp2
  go_ret
  exact⟨rfl,rfl⟩
theorem indexByte_any (s:ByteArray)(c:UInt8)(w:World):Calls Tryz.prog 118 #[.string s,.int .u8 c.toNat] w fun e w'=>e= .returned (.int .i64 (Lib.indexByte s.data.toList c))∧w'=w:=by
 have h:=Any.strings_IndexByte laysX s c.toNat w
 have e:((c.toNat:Int)).toNat.toUInt8=c:=by simp
 rw[e]at h
 exact h
theorem idx_nonneg (l:List UInt8)(c:UInt8):decide (0≤Lib.indexByte l c)=l.contains c:=by
 induction l with
 |nil=>simp[Lib.indexByte]
 |cons a r ih=>
  rw[List.contains_cons,←ih]
  have:=Lib.indexByte_ge r c
  show decide (0≤(if a==c then(0:Int)else if Lib.indexByte r c==-1 then -1 else Lib.indexByte r c+1))=_
  by_cases h:a=c
  ·simp[h]
  ·have h':(c==a)=false:=by simp;exact fun e=>h e.symm
   have h2:(a==c)=false:=by simp[h]
   rw[h',Bool.false_or,h2]
   rw[Bool.eq_iff_iff]
   by_cases h3:Lib.indexByte r c=-1
   ·simp[h3]
   ·simp[h3]
    omega
theorem isOpening_any (c:UInt8)(w:World):Calls Tryz.prog 97 #[.int .u8 c.toNat] w fun e w'=>e= .returned (.bool (isOpn c))∧w'=w:=by
 have HI:Hid (∀ w,Calls Tryz.prog 118 #[.string ⟨#[40,91,123]⟩,.int .u8 c.toNat] w fun e w'=>e= .returned (.int .i64 (Lib.indexByte [40,91,123] c))∧w'=w):=fun w=>indexByte_any ⟨#[40,91,123]⟩ c w
 have hb:decide (0≤Lib.indexByte [40,91,123] c)=isOpn c:=by
  rw[idx_nonneg]
  unfold isOpn
  rw[Bool.eq_iff_iff]
  simp[←UInt8.toNat_inj]
  omega
 generalize Lib.indexByte [40,91,123] c=x at HI hb
 go_enter Tryz.func97,Tryz.ntmps97
 go_wp2_with fail
 refine(HI.out _).mono ?_
 rintro e w' ⟨rfl,rfl⟩
 go_wp2
 go_ret
 exact⟨rfl,rfl⟩
theorem isClosing_any (c:UInt8)(w:World):Calls Tryz.prog 93 #[.int .u8 c.toNat] w fun e w'=>e= .returned (.bool (isCls c))∧w'=w:=by
 have HI:Hid (∀ w,Calls Tryz.prog 118 #[.string ⟨#[41,93,125]⟩,.int .u8 c.toNat] w fun e w'=>e= .returned (.int .i64 (Lib.indexByte [41,93,125] c))∧w'=w):=fun w=>indexByte_any ⟨#[41,93,125]⟩ c w
 have hb:decide (0≤Lib.indexByte [41,93,125] c)=isCls c:=by
  rw[idx_nonneg]
  unfold isCls
  rw[Bool.eq_iff_iff]
  simp[←UInt8.toNat_inj]
  omega
 generalize Lib.indexByte [41,93,125] c=x at HI hb
 go_enter Tryz.func93,Tryz.ntmps93
 go_wp2_with fail
 refine(HI.out _).mono ?_
 rintro e w' ⟨rfl,rfl⟩
 go_wp2
 go_ret
 exact⟨rfl,rfl⟩
def Says (F:Nat)(caps:Array Value)(w:World)(h:UInt8→Bool):Prop:=(∀ args w,(callFunc F args).run Tryz.prog w= .ok (.enter F args) w)∧∀ c:UInt8,Calls Tryz.prog F (#[.int .u8 c.toNat]++caps) w fun e w'=>e= .returned (.bool (h c))∧w'=w
theorem rch_at (h:UInt8→Bool):∀ (l:List UInt8) (k:Nat),k≤l.length→(∀ j (hj:j<l.length),j<k→h l[j]=true)→(∀ hk:k<l.length,h l[k]=false)→rch h l=k:=by
 intro l
 induction l with
 |nil=>intro k hk _ _;simp at hk;subst hk;rfl
 |cons c r ih=>
  intro k hk h1 h2
  cases k with
  |zero=>unfold rch;rw[show h c=false from h2 (by simp)];rfl
  |succ k=>
   unfold rch
   rw[show h c=true from h1 0 (by simp) (by omega)]
   have:=ih k (by simpa using hk) (fun j hj hjk=>h1 (j+1) (by simpa using hj) (by omega)) (fun hk'=>h2 (by simpa using hk'))
   rw[this]
   rfl
theorem reach_any (F:Nat)(h:UInt8→Bool)(s:ByteArray)(w:World)(hs:s.size≤1000000)(hF:Says F #[] w h):
  Calls Tryz.prog 116 #[.string s,.func (.func F) #[] #[]] w fun e w'=>e= .returned (.int .i64 (rch h s.data.toList))∧w'=w:=by
 have HF:Hid (∀ c:UInt8,Calls Tryz.prog F #[.int .u8 c.toNat] w fun e w'=>e= .returned (.bool (h c))∧w'=w):=fun c=>hF.2 c
 have hen:=hF.1
 clear hF
 go_enter Tryz.func116,Tryz.ntmps116
 go_wp2
 go_loop [8] (fun i=>∃ k:Nat,k≤s.size∧i= .int .i64 k∧Hid (∀ j (hj:j<s.size),j<k→h s[j]=true)) (fun i=>s.size-(intOf i).toNat)
 case atStart=>exact⟨0,Nat.zero_le _,rfl,by intro j hj h;omega⟩
 case round=>
  obtain⟨k,hk,rfl,HK⟩:=hrel
  by_cases hlt:k<s.size
  ·have hki:(k:Int)<(s.size:Int):=by omega
   cases hb:h s[k]with
   |true=>
    have HN:Hid (∀ j (hj:j<s.size),j<k+1→h s[j]=true):=fun j hj hjk=>by
     by_cases e:j<k
     ·exact HK.out j hj e
     ·obtain rfl:j=k:=by omega
      exact hb
    have HC:=HF.out s[k]
    rw[hb]at HC
    have HC':Hid (Calls Tryz.prog F #[.int .u8 s[k].toNat] w fun e w'=>e= .returned (.bool true)∧w'=w):=HC
    clear HC hb
    go_wp2_with fail
    refine HC'.out.mono ?_
    rintro e w' ⟨rfl,rfl⟩
    go_wp2
    refine⟨⟨k+1,by omega,by go_num,HN⟩,by simp[intOf];omega⟩
   |false=>
    have HN:Hid (rch h s.data.toList=k):=rch_at h s.data.toList k (by simpa using hk) (fun j hj hjk=>HK.out j (by simpa using hj) hjk) (fun _=>hb)
    have HC:=HF.out s[k]
    rw[hb]at HC
    have HC':Hid (Calls Tryz.prog F #[.int .u8 s[k].toNat] w fun e w'=>e= .returned (.bool false)∧w'=w):=HC
    clear HC hb
    go_wp2_with fail
    refine HC'.out.mono ?_
    rintro e w' ⟨rfl,rfl⟩
    go_wp2
    go_ret
    exact⟨by rw[HN.out];rfl,rfl⟩
  ·obtain rfl:k=s.size:=by omega
   have HN:Hid (rch h s.data.toList=s.size):=rch_at h s.data.toList s.size (by simp) (fun j hj hjk=>HK.out j (by simpa using hj) hjk) (fun hk=>by simp at hk)
   go_wp2
   go_ret
   exact⟨by rw[HN.out];rfl,rfl⟩
theorem reach_cap (F:Nat)(u:Value)(h:UInt8→Bool)(s:ByteArray)(w:World)(hs:s.size≤1000000)(hF:Says F #[u] w h):
  Calls Tryz.prog 116 #[.string s,.func (.func F) #[] #[u]] w fun e w'=>e= .returned (.int .i64 (rch h s.data.toList))∧w'=w:=by
 have HF:Hid (∀ c:UInt8,Calls Tryz.prog F #[.int .u8 c.toNat,u] w fun e w'=>e= .returned (.bool (h c))∧w'=w):=fun c=>hF.2 c
 have hen:=hF.1
 clear hF
 go_enter Tryz.func116,Tryz.ntmps116
 go_wp2
 go_loop [8] (fun i=>∃ k:Nat,k≤s.size∧i= .int .i64 k∧Hid (∀ j (hj:j<s.size),j<k→h s[j]=true)) (fun i=>s.size-(intOf i).toNat)
 case atStart=>exact⟨0,Nat.zero_le _,rfl,by intro j hj h;omega⟩
 case round=>
  obtain⟨k,hk,rfl,HK⟩:=hrel
  by_cases hlt:k<s.size
  ·have hki:(k:Int)<(s.size:Int):=by omega
   cases hb:h s[k]with
   |true=>
    have HN:Hid (∀ j (hj:j<s.size),j<k+1→h s[j]=true):=fun j hj hjk=>by
     by_cases e:j<k
     ·exact HK.out j hj e
     ·obtain rfl:j=k:=by omega
      exact hb
    have HC:=HF.out s[k]
    rw[hb]at HC
    have HC':Hid (Calls Tryz.prog F #[.int .u8 s[k].toNat,u] w fun e w'=>e= .returned (.bool true)∧w'=w):=HC
    clear HC hb
    go_wp2_with fail
    refine HC'.out.mono ?_
    rintro e w' ⟨rfl,rfl⟩
    go_wp2
    refine⟨⟨k+1,by omega,by go_num,HN⟩,by simp[intOf];omega⟩
   |false=>
    have HN:Hid (rch h s.data.toList=k):=rch_at h s.data.toList k (by simpa using hk) (fun j hj hjk=>HK.out j (by simpa using hj) hjk) (fun _=>hb)
    have HC:=HF.out s[k]
    rw[hb]at HC
    have HC':Hid (Calls Tryz.prog F #[.int .u8 s[k].toNat,u] w fun e w'=>e= .returned (.bool false)∧w'=w):=HC
    clear HC hb
    go_wp2_with fail
    refine HC'.out.mono ?_
    rintro e w' ⟨rfl,rfl⟩
    go_wp2
    go_ret
    exact⟨by rw[HN.out];rfl,rfl⟩
  ·obtain rfl:k=s.size:=by omega
   have HN:Hid (rch h s.data.toList=s.size):=rch_at h s.data.toList s.size (by simp) (fun j hj hjk=>HK.out j (by simpa using hj) hjk) (fun hk=>by simp at hk)
   go_wp2
   go_ret
   exact⟨by rw[HN.out];rfl,rfl⟩
theorem says_digit (w:World):Says 95 #[] w isDg:=⟨enters_of Tryz.func95 (by kernel_rfl) rfl,fun c=>isDigit_any c w⟩
theorem says_nm (w:World):Says 101 #[] w isNm:=⟨enters_of Tryz.func101 (by kernel_rfl) rfl,fun c=>token1_any c w⟩
theorem says_pl (w:World):Says 121 #[] w isPl:=⟨enters_of Tryz.func121 (by kernel_rfl) rfl,fun c=>text1_any c w⟩
theorem says_nl (w:World):Says 90 #[] w isNl:=⟨enters_of Tryz.func90 (by kernel_rfl) rfl,fun c=>skip2_any c w⟩
def mkB (l:List UInt8):ByteArray:=⟨l.toArray⟩
theorem mk_data (l:List UInt8):(mkB l).data.toList=l:=by simp[mkB]
theorem mk_size (l:List UInt8):(mkB l).size=l.length:=by
 show(mkB l).data.size=_
 simp[mkB]
theorem mk_self (s:ByteArray):s=mkB s.data.toList:=by cases s;simp[mkB]
theorem mk_toList (l:List UInt8):(mkB l).toList=l:=by rw[Lib.toList_data,mk_data]
theorem ext_mk (s:ByteArray)(a b:Nat):s.extract a b=mkB ((s.data.toList.drop a).take (b-a)):=by
 rw[mk_self (s.extract a b)]
 congr 1
 rw[Lib.extract_data]
theorem sl_front (l:List UInt8)(k:Nat)(x:Int)(hx:x=k)(hk:k≤l.length)(W:World):(Instr.slice 9 (.string (mkB l)) none (some (.int .i64 x)) none).run Tryz.prog W= .ok (.string (mkB (l.take k))) W:=by
 subst hx
 have h2:k≤(mkB l).size:=by rw[mk_size];exact hk
 have e:=ext_mk (mkB l) 0 k
 rw[mk_data,List.drop_zero,Nat.sub_zero]at e
 simp[Instr.slice,Instr.sliceBounds,Instr.sliceBound,run_underlying Tryz.underlying9,asIntOf,h2,e]
theorem sl_back (l:List UInt8)(k:Nat)(x:Int)(hx:x=k)(hk:k≤l.length)(W:World):(Instr.slice 9 (.string (mkB l)) (some (.int .i64 x)) none none).run Tryz.prog W= .ok (.string (mkB (l.drop k))) W:=by
 subst hx
 have h2:k≤(mkB l).size:=by rw[mk_size];exact hk
 have e:=ext_mk (mkB l) k (mkB l).size
 rw[mk_data,mk_size,List.take_of_length_le (by rw[List.length_drop];omega)]at e
 rw[←mk_size l]at e
 simp[Instr.slice,Instr.sliceBounds,Instr.sliceBound,run_underlying Tryz.underlying9,asIntOf,h2,e]
theorem sl_mid (l:List UInt8)(a b:Nat)(x y:Int)(hx:x=a)(hy:y=b)(h1:a≤b)(hk:b≤l.length)(W:World):(Instr.slice 9 (.string (mkB l)) (some (.int .i64 x)) (some (.int .i64 y)) none).run Tryz.prog W= .ok (.string (mkB ((l.drop a).take (b-a)))) W:=by
 subst hx hy
 have h2:b≤(mkB l).size:=by rw[mk_size];exact hk
 have e:=ext_mk (mkB l) a b
 rw[mk_data]at e
 simp[Instr.slice,Instr.sliceBounds,Instr.sliceBound,run_underlying Tryz.underlying9,asIntOf,h1,h2,e]
theorem mk_get (l:List UInt8)(k:Nat)(h:k<(mkB l).size):(mkB l)[k]=l.getD k 0:=by
 have h':k<l.length:=by rw[mk_size]at h;exact h
 rw[List.getD_eq_getElem?_getD,List.getElem?_eq_getElem h']
 show(mkB l).data[k]=_
 simp[mkB]
def eqs (l:List UInt8)(m:List Nat):Bool:=l.map (·.toNat)==m
theorem eqs_iff (l:List UInt8)(m:List UInt8):(l==m)=eqs l (m.map (·.toNat)):=by
 unfold eqs
 rw[Bool.eq_iff_iff]
 simp only[beq_iff_eq]
 constructor
 ·intro h;rw[h]
 ·intro h
  exact List.map_inj_right (fun a b e=>UInt8.toNat_inj.1 e) |>.1 h
theorem signSize_any (l:List UInt8)(w:World)(h0:0<l.length)(hl:l.length≤1000000):
  Calls Tryz.prog 117 #[.string (mkB l)] w fun e w'=>e= .returned (.int .i64 (sgn l))∧w'=w:=by
 have HI:Hid (∀ w,Calls Tryz.prog 118 #[.string ⟨#[61,60,43,45,42,37,40,41,91,93,123,125,44,58]⟩,.int .u8 (l.getD 0 0).toNat] w fun e w'=>e= .returned (.int .i64 (Lib.indexByte [61,60,43,45,42,37,40,41,91,93,123,125,44,58] (l.getD 0 0)))∧w'=w):=fun w=>indexByte_any ⟨#[61,60,43,45,42,37,40,41,91,93,123,125,44,58]⟩ (l.getD 0 0) w
 have hb:decide (0≤Lib.indexByte [61,60,43,45,42,37,40,41,91,93,123,125,44,58] (l.getD 0 0))=isSg1 (l.getD 0 0):=by
  rw[idx_nonneg]
  unfold isSg1
  rw[Bool.eq_iff_iff]
  simp[←UInt8.toNat_inj]
 generalize Lib.indexByte [61,60,43,45,42,37,40,41,91,93,123,125,44,58] (l.getD 0 0)=x at HI hb
 have hsz:(mkB l).size=l.length:=mk_size l
 have hsl:=sl_front l (min 2 l.length) _ rfl (by omega)
 have ht2:l.take (min 2 l.length)=l.take 2:=by
  rcases Nat.lt_or_ge l.length 2 with h|h
  ·rw[Nat.min_eq_right (by omega),List.take_of_length_le (Nat.le_refl _),List.take_of_length_le (by omega)]
  ·rw[Nat.min_eq_left h]
 rw[ht2]at hsl
 obtain⟨k,hk⟩:∃ k,k=min 2 l.length:=⟨_,rfl⟩
 rw[←hk]at hsl
 have hmin:min (2:Int) (l.length:Int)=(k:Int):=by omega
 have hk2:(k:Int)≤(l.length:Int):=by omega
 clear hk
 have q1:((mkB (l.take 2)).toList==[61,61])=eqs (l.take 2) [61,61]:=by rw[mk_toList];exact eqs_iff _ [61,61]
 have q2:((mkB (l.take 2)).toList==[33,61])=eqs (l.take 2) [33,61]:=by rw[mk_toList];exact eqs_iff _ [33,61]
 have q3:((mkB (l.take 2)).toList==[60,61])=eqs (l.take 2) [60,61]:=by rw[mk_toList];exact eqs_iff _ [60,61]
 have q4:((mkB (l.take 2)).toList==[47,47])=eqs (l.take 2) [47,47]:=by rw[mk_toList];exact eqs_iff _ [47,47]
 have hsg:sgn l=bif (eqs (l.take 2) [61,61]||eqs (l.take 2) [33,61]||eqs (l.take 2) [60,61]||eqs (l.take 2) [47,47])then 2 else bif isSg1 (l.getD 0 0)then 1 else 0:=by
  unfold sgn two2 eqs
  congr 1
  rw[Bool.eq_iff_iff]
  simp[or_assoc]
 rw[hsg]
 have hg0:=mk_get l 0 (by rw[hsz];exact h0)
 have hz0:(0:Int)<((mkB l).size:Int):=by rw[hsz];omega
 generalize eqs (l.take 2) [61,61]=b1 at *
 generalize eqs (l.take 2) [33,61]=b2 at *
 generalize eqs (l.take 2) [60,61]=b3 at *
 generalize eqs (l.take 2) [47,47]=b4 at *
 generalize isSg1 (l.getD 0 0)=b5 at *
 generalize l.getD 0 0=c0 at *
 generalize mkB (l.take 2)=t at *
 clear hsg ht2
 cases b1 with
 |true=>
  go_enter Tryz.func117,Tryz.ntmps117
  go_wp2
  go_ret
  exact⟨rfl,rfl⟩
 |false=>
  cases b2 with
  |true=>
   go_enter Tryz.func117,Tryz.ntmps117
   go_wp2
   go_ret
   exact⟨rfl,rfl⟩
  |false=>
   cases b3 with
   |true=>
    go_enter Tryz.func117,Tryz.ntmps117
    go_wp2
    go_ret
    exact⟨rfl,rfl⟩
   |false=>
    cases b4 with
    |true=>
     go_enter Tryz.func117,Tryz.ntmps117
     go_wp2
     go_ret
     exact⟨rfl,rfl⟩
    |false=>
     cases b5 with
     |true=>
      go_enter Tryz.func117,Tryz.ntmps117
      go_wp2_with fail
      refine(HI.out _).mono ?_
      rintro e w' ⟨rfl,rfl⟩
      go_wp2
      go_ret
      exact⟨rfl,rfl⟩
     |false=>
      go_enter Tryz.func117,Tryz.ntmps117
      go_wp2_with fail
      refine(HI.out _).mono ?_
      rintro e w' ⟨rfl,rfl⟩
      go_wp2
      go_ret
      exact⟨rfl,rfl⟩
theorem begins_any (l:List UInt8)(w:World)(h0:0<l.length)(hl:l.length≤1000000):
  Calls Tryz.prog 91 #[.string (mkB l)] w fun e w'=>e= .returned (.bool (beg l))∧w'=w:=by
 have H1:Hid (∀ w,Calls Tryz.prog 100 #[.int .u8 (l.getD 0 0).toNat] w fun e w'=>e= .returned (.bool (isLt (l.getD 0 0)))∧w'=w):=isLetter_any _
 have H2:Hid (∀ w,Calls Tryz.prog 95 #[.int .u8 (l.getD 0 0).toNat] w fun e w'=>e= .returned (.bool (isDg (l.getD 0 0)))∧w'=w):=isDigit_any _
 have H3:Hid (∀ w,Calls Tryz.prog 117 #[.string (mkB l)] w fun e w'=>e= .returned (.int .i64 (sgn l))∧w'=w):=fun w=>signSize_any l w h0 hl
 have hsz:(mkB l).size=l.length:=mk_size l
 have hz0:(0:Int)<((mkB l).size:Int):=by rw[hsz];omega
 have hg0:=mk_get l 0 (by rw[hsz];exact h0)
 have hq:=c_eq (l.getD 0 0) 34
 have hbg:beg l=(isLt (l.getD 0 0)||isDg (l.getD 0 0)||decide ((l.getD 0 0).toNat=34)||decide (0<sgn l)):=rfl
 rw[hbg]
 generalize isLt (l.getD 0 0)=b1 at *
 generalize isDg (l.getD 0 0)=b2 at *
 generalize decide ((l.getD 0 0).toNat=34)=b3 at *
 generalize sgn l=n at *
 generalize l.getD 0 0=c0 at *
 have hq':((c0.toNat:Int)==34)=b3:=hq
 clear hbg hq
 cases b1 with
 |true=>
  go_enter Tryz.func91,Tryz.ntmps91
  go_wp2_with fail
  refine(H1.out _).mono ?_
  rintro e w' ⟨rfl,rfl⟩
  go_wp2
  go_ret
  exact⟨rfl,rfl⟩
 |false=>
  cases b2 with
  |true=>
   go_enter Tryz.func91,Tryz.ntmps91
   go_wp2_with fail
   refine(H1.out _).mono ?_
   rintro e w' ⟨rfl,rfl⟩
   go_wp2_with fail
   refine(H2.out _).mono ?_
   rintro e w' ⟨rfl,rfl⟩
   go_wp2
   go_ret
   exact⟨rfl,rfl⟩
  |false=>
   cases b3 with
   |true=>
    go_enter Tryz.func91,Tryz.ntmps91
    go_wp2_with fail
    refine(H1.out _).mono ?_
    rintro e w' ⟨rfl,rfl⟩
    go_wp2_with fail
    refine(H2.out _).mono ?_
    rintro e w' ⟨rfl,rfl⟩
    go_wp2
    go_ret
    exact⟨rfl,rfl⟩
   |false=>
    go_enter Tryz.func91,Tryz.ntmps91
    go_wp2_with fail
    refine(H1.out _).mono ?_
    rintro e w' ⟨rfl,rfl⟩
    go_wp2_with fail
    refine(H2.out _).mono ?_
    rintro e w' ⟨rfl,rfl⟩
    go_wp2_with fail
    refine(H3.out _).mono ?_
    rintro e w' ⟨rfl,rfl⟩
    go_wp2
    go_ret
    refine⟨ret_b ?_,rfl⟩
    simp
theorem isWord_any (l:List UInt8)(w:World):
  Calls Tryz.prog 102 #[.string (mkB l)] w fun e w'=>e= .returned (.bool (isWd l))∧w'=w:=by
 have hw:isWd l=wordsL.any (fun m=>eqs l m):=by
  unfold isWd eqs
  rw[Bool.eq_iff_iff]
  simp[List.any_eq_true]
 have key:∀ m:List UInt8,((mkB l).toList==m)=eqs l (m.map (·.toNat)):=fun m=>by rw[mk_toList];exact eqs_iff l m
 have q1:=key [97,110,100]
 have q2:=key [111,114]
 have q3:=key [110,111,116]
 have q4:=key [105,110]
 have q5:=key [105,102]
 have q6:=key [101,108,115,101]
 have q7:=key [102,111,114]
 have q8:=key [100,101,102]
 have q9:=key [114,101,116,117,114,110]
 have q10:=key [112,97,115,115]
 have q11:=key [84,114,117,101]
 have q12:=key [70,97,108,115,101]
 have q13:=key [78,111,110,101]
 have q14:=key [108,111,97,100]
 have e:isWd l=(((mkB l).toList==[97,110,100])||((mkB l).toList==[111,114])||((mkB l).toList==[110,111,116])||((mkB l).toList==[105,110])||((mkB l).toList==[105,102])||((mkB l).toList==[101,108,115,101])||((mkB l).toList==[102,111,114])||((mkB l).toList==[100,101,102])||((mkB l).toList==[114,101,116,117,114,110])||((mkB l).toList==[112,97,115,115])||((mkB l).toList==[84,114,117,101])||((mkB l).toList==[70,97,108,115,101])||((mkB l).toList==[78,111,110,101])||((mkB l).toList==[108,111,97,100])):=by
  rw[hw,q1,q2,q3,q4,q5,q6,q7,q8,q9,q10,q11,q12,q13,q14]
  simp[wordsL,List.any_cons,Bool.or_assoc]
 rw[e]
 clear q1 q2 q3 q4 q5 q6 q7 q8 q9 q10 q11 q12 q13 q14 key hw e
 go_enter Tryz.func102,Tryz.ntmps102
 go_wp2
 all_goals
  go_ret
  refine⟨ret_b ?_,rfl⟩
  simp_all
end Go.Proofs.YtcaeeackccgclaaGreatDoor
