/- 3. -/
import Derived.Lib.AtoiAllCases
import Derived.WalkSmall
import Derived.Lib.SmallJoins
import Derived.Deep.AppendLies
import Derived.Deep.DrawnRows
import Derived.Deep.QuietTactic
import Derived.BigQuiet
import Derived.Test.YthfgpkdbclogpaaGreatDoorTx2
set_option maxHeartbeats 40000000
set_option maxRecDepth 100000
namespace Go.Proofs.YthfgpkdbclogpaaGreatDoor
open Go.RowKit Go.Shelf
def mkB (l:List UInt8):ByteArray:=⟨l.toArray⟩
theorem mk_data (l:List UInt8):(mkB l).data.toList=l:=by simp[mkB]
theorem mk_size (l:List UInt8):(mkB l).size=l.length:=by
 show(mkB l).data.size=_
 simp[mkB]
theorem mk_self (s:ByteArray):s=mkB s.data.toList:=by cases s;simp[mkB]
theorem mk_toList (l:List UInt8):(mkB l).toList=l:=by rw[Lib.toList_data,mk_data]
theorem ext_mk (s:ByteArray)(a b:Nat):s.extract a b=mkB ((s.data.toList.drop a).take (b-a)):=by
 rw[mk_self (s.extract a b)]
 congr 1
 rw[Lib.extract_data]
theorem sl_front (l:List UInt8)(k:Nat)(x:Int)(hx:x=k)(hk:k≤l.length)(W:World):(Instr.slice 9 (.string (mkB l)) none (some (.int .i64 x)) none).run Tryz.prog W= .ok (.string (mkB (l.take k))) W:=by
 subst hx
 have h2:k≤(mkB l).size:=by rw[mk_size];exact hk
 have e:=ext_mk (mkB l) 0 k
 rw[mk_data,List.drop_zero,Nat.sub_zero]at e
 simp[Instr.slice,Instr.sliceBounds,Instr.sliceBound,run_underlying Tryz.underlying9,asIntOf,h2,e]
theorem sl_back (l:List UInt8)(k:Nat)(x:Int)(hx:x=k)(hk:k≤l.length)(W:World):(Instr.slice 9 (.string (mkB l)) (some (.int .i64 x)) none none).run Tryz.prog W= .ok (.string (mkB (l.drop k))) W:=by
 subst hx
 have h2:k≤(mkB l).size:=by rw[mk_size];exact hk
 have e:=ext_mk (mkB l) k (mkB l).size
 rw[mk_data,mk_size,List.take_of_length_le (by rw[List.length_drop];omega)]at e
 rw[←mk_size l]at e
 simp[Instr.slice,Instr.sliceBounds,Instr.sliceBound,run_underlying Tryz.underlying9,asIntOf,h2,e]
theorem sl_mid (l:List UInt8)(a b:Nat)(x y:Int)(hx:x=a)(hy:y=b)(h1:a≤b)(hk:b≤l.length)(W:World):(Instr.slice 9 (.string (mkB l)) (some (.int .i64 x)) (some (.int .i64 y)) none).run Tryz.prog W= .ok (.string (mkB ((l.drop a).take (b-a)))) W:=by
 subst hx hy
 have h2:b≤(mkB l).size:=by rw[mk_size];exact hk
 have e:=ext_mk (mkB l) a b
 rw[mk_data]at e
 simp[Instr.slice,Instr.sliceBounds,Instr.sliceBound,run_underlying Tryz.underlying9,asIntOf,h1,h2,e]
theorem mk_get (l:List UInt8)(k:Nat)(h:k<(mkB l).size):(mkB l)[k]=l.getD k 0:=by
 have h':k<l.length:=by rw[mk_size]at h;exact h
 rw[List.getD_eq_getElem?_getD,List.getElem?_eq_getElem h']
 show(mkB l).data[k]=_
 simp[mkB]
def eqs (l:List UInt8)(m:List Nat):Bool:=l.map (·.toNat)==m
theorem eqs_iff (l:List UInt8)(m:List UInt8):(l==m)=eqs l (m.map (·.toNat)):=by
 unfold eqs
 rw[Bool.eq_iff_iff]
 simp only[beq_iff_eq]
 constructor
 ·intro h;rw[h]
 ·intro h
  exact List.map_inj_right (fun a b e=>UInt8.toNat_inj.1 e) |>.1 h
theorem signSize_any (l:List UInt8)(w:World)(h0:0<l.length)(hl:l.length≤1000000):
  Calls Tryz.prog 294 #[.string (mkB l)] w fun e w'=>e= .returned (.int .i64 (sgn l))∧w'=w:=by
 have HI:Hid (∀ w,Calls Tryz.prog 264 #[.string ⟨#[61,60,43,45,42,37,40,41,91,93,123,125,44,58]⟩,.int .u8 (l.getD 0 0).toNat] w fun e w'=>e= .returned (.int .i64 (Lib.indexByte [61,60,43,45,42,37,40,41,91,93,123,125,44,58] (l.getD 0 0)))∧w'=w):=fun w=>indexByte_any ⟨#[61,60,43,45,42,37,40,41,91,93,123,125,44,58]⟩ (l.getD 0 0) w
 have hb:decide (0≤Lib.indexByte [61,60,43,45,42,37,40,41,91,93,123,125,44,58] (l.getD 0 0))=isSg1 (l.getD 0 0):=by
  rw[idx_nonneg]
  unfold isSg1
  rw[Bool.eq_iff_iff]
  simp[←UInt8.toNat_inj]
 generalize Lib.indexByte [61,60,43,45,42,37,40,41,91,93,123,125,44,58] (l.getD 0 0)=x at HI hb
 have hsz:(mkB l).size=l.length:=mk_size l
 have hsl:=sl_front l (min 2 l.length) _ rfl (by omega)
 have ht2:l.take (min 2 l.length)=l.take 2:=by
  rcases Nat.lt_or_ge l.length 2 with h|h
  ·rw[Nat.min_eq_right (by omega),List.take_of_length_le (Nat.le_refl _),List.take_of_length_le (by omega)]
  ·rw[Nat.min_eq_left h]
 rw[ht2]at hsl
 obtain⟨k,hk⟩:∃ k,k=min 2 l.length:=⟨_,rfl⟩
 rw[←hk]at hsl
 have hmin:min (2:Int) (l.length:Int)=(k:Int):=by omega
 have hk2:(k:Int)≤(l.length:Int):=by omega
 clear hk
 have q1:((mkB (l.take 2)).toList==[61,61])=eqs (l.take 2) [61,61]:=by rw[mk_toList];exact eqs_iff _ [61,61]
 have q2:((mkB (l.take 2)).toList==[33,61])=eqs (l.take 2) [33,61]:=by rw[mk_toList];exact eqs_iff _ [33,61]
 have q3:((mkB (l.take 2)).toList==[60,61])=eqs (l.take 2) [60,61]:=by rw[mk_toList];exact eqs_iff _ [60,61]
 have q4:((mkB (l.take 2)).toList==[47,47])=eqs (l.take 2) [47,47]:=by rw[mk_toList];exact eqs_iff _ [47,47]
 have hsg:sgn l=bif (eqs (l.take 2) [61,61]||eqs (l.take 2) [33,61]||eqs (l.take 2) [60,61]||eqs (l.take 2) [47,47])then 2 else bif isSg1 (l.getD 0 0)then 1 else 0:=by
  unfold sgn two2 eqs
  congr 1
  rw[Bool.eq_iff_iff]
  simp[or_assoc]
 rw[hsg]
 have hg0:=mk_get l 0 (by rw[hsz];exact h0)
 have hz0:(0:Int)<((mkB l).size:Int):=by rw[hsz];omega
 generalize eqs (l.take 2) [61,61]=b1 at *
 generalize eqs (l.take 2) [33,61]=b2 at *
 generalize eqs (l.take 2) [60,61]=b3 at *
 generalize eqs (l.take 2) [47,47]=b4 at *
 generalize isSg1 (l.getD 0 0)=b5 at *
 generalize l.getD 0 0=c0 at *
 generalize mkB (l.take 2)=t at *
 clear hsg ht2
 cases b1 with
 |true=>
  go_enter Tryz.func294,Tryz.ntmps294
  go_wp2
  go_ret
  exact⟨rfl,rfl⟩
 |false=>
  cases b2 with
  |true=>
   go_enter Tryz.func294,Tryz.ntmps294
   go_wp2
   go_ret
   exact⟨rfl,rfl⟩
  |false=>
   cases b3 with
   |true=>
    go_enter Tryz.func294,Tryz.ntmps294
    go_wp2
    go_ret
    exact⟨rfl,rfl⟩
   |false=>
    cases b4 with
    |true=>
     go_enter Tryz.func294,Tryz.ntmps294
     go_wp2
     go_ret
     exact⟨rfl,rfl⟩
    |false=>
     cases b5 with
     |true=>
      go_enter Tryz.func294,Tryz.ntmps294
      go_wp2_with fail
      refine(HI.out _).mono ?_
      rintro e w' ⟨rfl,rfl⟩
      go_wp2
      go_ret
      exact⟨rfl,rfl⟩
     |false=>
      go_enter Tryz.func294,Tryz.ntmps294
      go_wp2_with fail
      refine(HI.out _).mono ?_
      rintro e w' ⟨rfl,rfl⟩
      go_wp2
      go_ret
      exact⟨rfl,rfl⟩
theorem begins_any (l:List UInt8)(w:World)(h0:0<l.length)(hl:l.length≤1000000):
  Calls Tryz.prog 269 #[.string (mkB l)] w fun e w'=>e= .returned (.bool (beg l))∧w'=w:=by
 have H1:Hid (∀ w,Calls Tryz.prog 278 #[.int .u8 (l.getD 0 0).toNat] w fun e w'=>e= .returned (.bool (isLt (l.getD 0 0)))∧w'=w):=isLetter_any _
 have H2:Hid (∀ w,Calls Tryz.prog 273 #[.int .u8 (l.getD 0 0).toNat] w fun e w'=>e= .returned (.bool (isDg (l.getD 0 0)))∧w'=w):=isDigit_any _
 have H3:Hid (∀ w,Calls Tryz.prog 294 #[.string (mkB l)] w fun e w'=>e= .returned (.int .i64 (sgn l))∧w'=w):=fun w=>signSize_any l w h0 hl
 have hsz:(mkB l).size=l.length:=mk_size l
 have hz0:(0:Int)<((mkB l).size:Int):=by rw[hsz];omega
 have hg0:=mk_get l 0 (by rw[hsz];exact h0)
 have hq:=c_eq (l.getD 0 0) 34
 have hbg:beg l=(isLt (l.getD 0 0)||isDg (l.getD 0 0)||decide ((l.getD 0 0).toNat=34)||decide (0<sgn l)):=rfl
 rw[hbg]
 generalize isLt (l.getD 0 0)=b1 at *
 generalize isDg (l.getD 0 0)=b2 at *
 generalize decide ((l.getD 0 0).toNat=34)=b3 at *
 generalize sgn l=n at *
 generalize l.getD 0 0=c0 at *
 have hq':((c0.toNat:Int)==34)=b3:=hq
 clear hbg hq
 cases b1 with
 |true=>
  go_enter Tryz.func269,Tryz.ntmps269
  go_wp2_with fail
  refine(H1.out _).mono ?_
  rintro e w' ⟨rfl,rfl⟩
  go_wp2
  go_ret
  exact⟨rfl,rfl⟩
 |false=>
  cases b2 with
  |true=>
   go_enter Tryz.func269,Tryz.ntmps269
   go_wp2_with fail
   refine(H1.out _).mono ?_
   rintro e w' ⟨rfl,rfl⟩
   go_wp2_with fail
   refine(H2.out _).mono ?_
   rintro e w' ⟨rfl,rfl⟩
   go_wp2
   go_ret
   exact⟨rfl,rfl⟩
  |false=>
   cases b3 with
   |true=>
    go_enter Tryz.func269,Tryz.ntmps269
    go_wp2_with fail
    refine(H1.out _).mono ?_
    rintro e w' ⟨rfl,rfl⟩
    go_wp2_with fail
    refine(H2.out _).mono ?_
    rintro e w' ⟨rfl,rfl⟩
    go_wp2
    go_ret
    exact⟨rfl,rfl⟩
   |false=>
    go_enter Tryz.func269,Tryz.ntmps269
    go_wp2_with fail
    refine(H1.out _).mono ?_
    rintro e w' ⟨rfl,rfl⟩
    go_wp2_with fail
    refine(H2.out _).mono ?_
    rintro e w' ⟨rfl,rfl⟩
    go_wp2_with fail
    refine(H3.out _).mono ?_
    rintro e w' ⟨rfl,rfl⟩
    go_wp2
    go_ret
    refine⟨ret_b ?_,rfl⟩
    simp
theorem isWord_any (l:List UInt8)(w:World):
  Calls Tryz.prog 280 #[.string (mkB l)] w fun e w'=>e= .returned (.bool (isWd l))∧w'=w:=by
 have hw:isWd l=wordsL.any (fun m=>eqs l m):=by
  unfold isWd eqs
  rw[Bool.eq_iff_iff]
  simp[List.any_eq_true]
 have key:∀ m:List UInt8,((mkB l).toList==m)=eqs l (m.map (·.toNat)):=fun m=>by rw[mk_toList];exact eqs_iff l m
 have q1:=key [97,110,100]
 have q2:=key [111,114]
 have q3:=key [110,111,116]
 have q4:=key [105,110]
 have q5:=key [105,102]
 have q6:=key [101,108,115,101]
 have q7:=key [102,111,114]
 have q8:=key [100,101,102]
 have q9:=key [114,101,116,117,114,110]
 have q10:=key [112,97,115,115]
 have q11:=key [84,114,117,101]
 have q12:=key [70,97,108,115,101]
 have q13:=key [78,111,110,101]
 have q14:=key [108,111,97,100]
 have e:isWd l=(((mkB l).toList==[97,110,100])||((mkB l).toList==[111,114])||((mkB l).toList==[110,111,116])||((mkB l).toList==[105,110])||((mkB l).toList==[105,102])||((mkB l).toList==[101,108,115,101])||((mkB l).toList==[102,111,114])||((mkB l).toList==[100,101,102])||((mkB l).toList==[114,101,116,117,114,110])||((mkB l).toList==[112,97,115,115])||((mkB l).toList==[84,114,117,101])||((mkB l).toList==[70,97,108,115,101])||((mkB l).toList==[78,111,110,101])||((mkB l).toList==[108,111,97,100])):=by
  rw[hw,q1,q2,q3,q4,q5,q6,q7,q8,q9,q10,q11,q12,q13,q14]
  simp[wordsL,List.any_cons,Bool.or_assoc]
 rw[e]
 clear q1 q2 q3 q4 q5 q6 q7 q8 q9 q10 q11 q12 q13 q14 key hw e
 go_enter Tryz.func280,Tryz.ntmps280
 go_wp2
 all_goals
  go_ret
  refine⟨ret_b ?_,rfl⟩
  simp_all
theorem valD_ge:∀ (l:List UInt8) (n:Nat),n≤valD n l
 |[],_=>Nat.le_refl _
 |c::r,n=>by
  have:=valD_ge r (10*n+(c.toNat-48))
  unfold valD
  omega
theorem par_lt:∀ (l:List UInt8) (n:Nat),(∀ c∈l,isDg c=true)→valD n l<18446744073709551616→Lib.parseUint10 n l= .ok (valD n l)
 |[],_,_,_=>rfl
 |c::r,n,hd,hn=>by
  have hc:48≤c.toNat∧c.toNat≤57:=by
   have:=hd c (by simp)
   unfold isDg at this
   simpa using this
  have hge:=valD_ge r (10*n+(c.toNat-48))
  have hn':valD (10*n+(c.toNat-48)) r<18446744073709551616:=hn
  have ih:=par_lt r (10*n+(c.toNat-48)) (fun x hx=>hd x (by simp[hx])) hn'
  rw[Lib.parseUint10]
  rw[if_pos hc,if_neg (by omega),if_neg (by omega),Nat.mul_comm n 10,ih]
  rfl
theorem par_ge:∀ (l:List UInt8) (n:Nat),(∀ c∈l,isDg c=true)→n<18446744073709551616→18446744073709551616≤valD n l→Lib.parseUint10 n l= .range
 |[],n,_,hn,h=>by
  have:18446744073709551616≤n:=h
  omega
 |c::r,n,hd,hn,h=>by
  have hc:48≤c.toNat∧c.toNat≤57:=by
   have:=hd c (by simp)
   unfold isDg at this
   simpa using this
  have h':18446744073709551616≤valD (10*n+(c.toNat-48)) r:=h
  rw[Lib.parseUint10]
  rw[if_pos hc]
  by_cases h1:1844674407370955162≤n
  ·rw[if_pos h1]
  ·rw[if_neg h1]
   by_cases h2:18446744073709551616≤n*10+(c.toNat-48)
   ·rw[if_pos h2]
   ·rw[if_neg h2,Nat.mul_comm n 10]
    exact par_ge r _ (fun x hx=>hd x (by simp[hx])) (by omega) h'
theorem atoi_lo (l:List UInt8)(h0:l≠[])(hd:∀ c∈l,isDg c=true)(hv:valD 0 l<9223372036854775808):Lib.atoiAll l= .ok (valD 0 l:Int):=by
 match l,h0 with
 |c::r,_=>
  have hc:48≤c.toNat∧c.toNat≤57:=by
   have:=hd c (by simp)
   unfold isDg at this
   simpa using this
  have hp:Lib.parseMag (c::r)= .ok (valD 0 (c::r)):=by
   unfold Lib.parseMag
   rw[if_neg (by simp)]
   exact par_lt (c::r) 0 hd (by omega)
  rw[Lib.atoiAll_plain c r (by omega) (by omega),hp]
  unfold Lib.signless
  simp only
  rw[if_neg (by omega)]
theorem atoi_hi (l:List UInt8)(h0:l≠[])(hd:∀ c∈l,isDg c=true)(hv:¬valD 0 l<9223372036854775808):Lib.atoiAll l= .range:=by
 match l,h0 with
 |c::r,_=>
  have hc:48≤c.toNat∧c.toNat≤57:=by
   have:=hd c (by simp)
   unfold isDg at this
   simpa using this
  rw[Lib.atoiAll_plain c r (by omega) (by omega)]
  by_cases h1:valD 0 (c::r)<18446744073709551616
  ·have hp:Lib.parseMag (c::r)= .ok (valD 0 (c::r)):=by
    unfold Lib.parseMag
    rw[if_neg (by simp)]
    exact par_lt (c::r) 0 hd h1
   rw[hp]
   unfold Lib.signless
   simp only
   rw[if_pos (by omega)]
  ·have hp:Lib.parseMag (c::r)= .range:=by
    unfold Lib.parseMag
    rw[if_neg (by simp)]
    exact par_ge (c::r) 0 hd (by decide) (by omega)
   rw[hp]
   rfl
def ErrR (w:World):Prop:=∃ ev,w.cell? ⟨7,0,none⟩=some ev∧(ev= .nilIface∨∃ te pe,ev= .iface te pe)
theorem ErrR.up {w w':World}(h:ErrR w)(hb:Below w.heap.size w w'):ErrR w':=by
 obtain⟨ev,h1,h2⟩:=h
 exact⟨ev,(hb.cell (p:=⟨7,0,none⟩) (World.block_lt_of_cell? w ⟨7,0,none⟩ h1)).trans h1,h2⟩
theorem atoi_ok (l:List UInt8)(w:World)(h0:l≠[])(hd:∀ c∈l,isDg c=true)(hl:l.length≤1000000)(hv:valD 0 l<9223372036854775808):
  Calls Tryz.prog 277 #[.string (mkB l)] w fun e w'=>e= .returned (.tuple #[.int .i64 (valD 0 l),.nilIface])∧Below w.heap.size w w':=by
 refine(Any.strconv_Atoi_ok laysA (mkB l) (by rw[mk_size];omega) (valD 0 l) (by rw[mk_data];exact atoi_lo l h0 hd hv) w).mono ?_
 rintro e w' ⟨rfl,h⟩
 refine⟨rfl,?_⟩
 rcases h with rfl|⟨t,rfl⟩
 ·exact Below.refl _ _
 ·unfold Lib.bytesWorld
  exact Lib.below_freeze (Below.alloc (Below.drew (Below.refl w.heap.size w)) (Nat.le_refl _) _) (p:=⟨w.heap.size,_,none⟩) (Nat.le_refl _) _
theorem atoi_big (l:List UInt8)(w:World)(h0:l≠[])(hd:∀ c∈l,isDg c=true)(hl:l.length≤1000000)(hv:¬valD 0 l<9223372036854775808)(hr:ErrR w):
  Calls Tryz.prog 277 #[.string (mkB l)] w fun e w'=>∃ (x:Int) (t:TypeId) (p:Value),e= .returned (.tuple #[.int .i64 x,.iface t p])∧Below w.heap.size w w':=by
 obtain⟨ev,h1,h2⟩:=hr
 refine(Any.strconv_Atoi_range laysA (mkB l) (by rw[mk_size];omega) (by rw[mk_data];exact atoi_hi l h0 hd hv) ev w h1 h2).mono ?_
 rintro e w' ⟨N,rfl,_,_,hb⟩
 exact⟨_,_,_,rfl,hb⟩
theorem take_dig:∀ (l:List UInt8),∀ c∈l.take (rch isDg l),isDg c=true
 |[],c,hc=>by simp at hc
 |a::r,c,hc=>by
  unfold rch at hc
  cases ha:isDg a with
  |false=>rw[ha]at hc;simp at hc
  |true=>
   rw[ha]at hc
   simp only[cond_true,List.take_succ_cons,List.mem_cons]at hc
   rcases hc with rfl|hc
   ·exact ha
   ·exact take_dig r c hc
theorem rch_pos {h:UInt8→Bool}{l:List UInt8}(h0:0<l.length)(hc:h (l.getD 0 0)=true):0<rch h l:=by
 match l,h0 with
 |a::r,_=>
  have:h a=true:=hc
  unfold rch
  rw[this]
  exact Nat.succ_pos _
theorem isNoInt_any (l:List UInt8)(w:World)(h0:0<l.length)(hl:l.length≤1000000)(hc:isDg (l.getD 0 0)=true)(hr:ErrR w):
  Calls Tryz.prog 274 #[.string (mkB l)] w fun e w'=>e= .returned (.bool (noInt l))∧Below w.heap.size w w':=by
 have HR:Hid (∀ w,Calls Tryz.prog 293 #[.string (mkB l),.func (.func 273) #[] #[]] w fun e w'=>e= .returned (.int .i64 (rch isDg l))∧w'=w):=fun w=>by
  have:=reach_any 273 isDg (mkB l) w (by rw[mk_size];exact hl) (says_digit w)
  rwa [mk_data]at this
 have hp:=rch_pos h0 hc
 have hle:=rch_le isDg l
 have hni:noInt l=(decide (9007199254740991<valD 0 (l.take (rch isDg l)))||(decide (1<rch isDg l)&&decide ((l.getD 0 0).toNat=48))):=rfl
 rw[hni]
 have hdl:(l.take (rch isDg l)).length=rch isDg l:=by rw[List.length_take];omega
 have hne:l.take (rch isDg l)≠[]:=by intro e;rw[e]at hdl;simp at hdl;omega
 have had:=take_dig l
 have hsl:=sl_front l (rch isDg l) _ rfl hle
 have hg0:(l.take (rch isDg l)).getD 0 0=l.getD 0 0:=by
  match l,h0,hp with
  |a::r,_,hp=>
   obtain⟨m,hm⟩:∃ m,rch isDg (a::r)=m+1:=⟨rch isDg (a::r)-1,by omega⟩
   rw[hm]
   rfl
 rw[←hg0]
 have HOK:Hid (valD 0 (l.take (rch isDg l))<9223372036854775808→Calls Tryz.prog 277 #[.string (mkB (l.take (rch isDg l)))] w fun e w'=>e= .returned (.tuple #[.int .i64 (valD 0 (l.take (rch isDg l))),.nilIface])∧Below w.heap.size w w'):=fun hv=>atoi_ok _ w hne had (by omega) hv
 have HBG:Hid (¬valD 0 (l.take (rch isDg l))<9223372036854775808→Calls Tryz.prog 277 #[.string (mkB (l.take (rch isDg l)))] w fun e w'=>∃ (x:Int) (t:TypeId) (p:Value),e= .returned (.tuple #[.int .i64 x,.iface t p])∧Below w.heap.size w w'):=fun hv=>atoi_big _ w hne had (by omega) hv hr
 clear hni had hc hr hg0 hne
 generalize rch isDg l=k at *
 have hk1:(k:Int)≤(l.length:Int):=by omega
 have hszl:(mkB l).size=l.length:=mk_size l
 generalize hds:l.take k=ds at *
 have hsd:(mkB ds).size=k:=by rw[mk_size,hdl]
 have hs0:0<(mkB ds).size:=by omega
 have hgd:=mk_get ds 0 hs0
 have hq:=c_eq (ds.getD 0 0) 48
 generalize ds.getD 0 0=c0 at *
 have hq':((c0.toNat:Int)==48)=decide (c0.toNat=48):=hq
 generalize decide (c0.toNat=48)=b3 at *
 generalize valD 0 ds=V at *
 clear hq hds hdl
 by_cases hv:V<9223372036854775808
 ·have HA:Hid (Calls Tryz.prog 277 #[.string (mkB ds)] w fun e w'=>e= .returned (.tuple #[.int .i64 V,.nilIface])∧Below w.heap.size w w'):=HOK.out hv
  clear HOK HBG
  by_cases h1:9007199254740991<V
  ·have h1i:(9007199254740991:Int)<(V:Int):=by omega
   rw[show decide (9007199254740991<V)=true from by simpa using h1,Bool.true_or]
   clear h1 hv
   go_enter Tryz.func274,Tryz.ntmps274
   go_wp2_with fail
   refine(HR.out _).mono ?_
   rintro e w' ⟨rfl,rfl⟩
   go_wp2_with fail
   refine HA.out.mono ?_
   rintro e w1 ⟨rfl,hb⟩
   have B1:Hid (Below _ _ w1):=hb
   clear hb
   go_wp2
   go_ret
   exact⟨rfl,B1.out⟩
  ·have h1i:(V:Int)≤9007199254740991:=by omega
   have h1d:decide ((9007199254740991:Int)<(V:Int))=false:=by simp;omega
   rw[show decide (9007199254740991<V)=false from by simpa using h1,Bool.false_or]
   clear h1 hv
   by_cases h2:1<k
   ·have h2i:(1:Int)<(k:Int):=by omega
    rw[show decide (1<k)=true from by simpa using h2,Bool.true_and]
    clear h2
    go_enter Tryz.func274,Tryz.ntmps274
    go_wp2_with fail
    refine(HR.out _).mono ?_
    rintro e w' ⟨rfl,rfl⟩
    go_wp2_with fail
    refine HA.out.mono ?_
    rintro e w1 ⟨rfl,hb⟩
    have B1:Hid (Below _ _ w1):=hb
    clear hb
    go_wp2
    go_ret
    exact⟨rfl,B1.out⟩
   ·have h2i:(k:Int)≤1:=by omega
    rw[show decide (1<k)=false from by simpa using h2,Bool.false_and]
    clear h2
    go_enter Tryz.func274,Tryz.ntmps274
    go_wp2_with fail
    refine(HR.out _).mono ?_
    rintro e w' ⟨rfl,rfl⟩
    go_wp2_with fail
    refine HA.out.mono ?_
    rintro e w1 ⟨rfl,hb⟩
    have B1:Hid (Below _ _ w1):=hb
    clear hb
    go_wp2
    go_ret
    exact⟨rfl,B1.out⟩
 ·have HA:Hid (Calls Tryz.prog 277 #[.string (mkB ds)] w fun e w'=>∃ (x:Int) (t:TypeId) (p:Value),e= .returned (.tuple #[.int .i64 x,.iface t p])∧Below w.heap.size w w'):=HBG.out hv
  rw[show decide (9007199254740991<V)=true from by simp;omega,Bool.true_or]
  clear HOK HBG hv
  go_enter Tryz.func274,Tryz.ntmps274
  go_wp2_with fail
  refine(HR.out _).mono ?_
  rintro e w' ⟨rfl,rfl⟩
  go_wp2_with fail
  refine HA.out.mono ?_
  rintro e w1 ⟨x,t,p,rfl,hb⟩
  have B1:Hid (Below _ _ w1):=hb
  clear hb
  go_wp2
  go_ret
  exact⟨rfl,B1.out⟩
def tc (t:Tk):List Value:=[.int .i64 t.kind,.string (mkB t.text),.int .i64 t.num,.int .i64 t.pos]
def tcs (l:List Tk):List Value:=l.flatMap tc
theorem tcs_snoc (l:List Tk)(t:Tk):tcs (l++[t])=tcs l++tc t:=by simp[tcs]
def ics (l:List Nat):List Value:=l.map fun n:Nat=>.int .i64 (n:Int)
theorem ics_snoc (l:List Nat)(x:Nat):ics (l++[x])=ics l++[.int .i64 x]:=by simp[ics]
structure TS (B P:Nat)(L:List UInt8)(tv iv:Value)(w:World)(p:Sp):Prop where
 hB:B≤P
 blk:w.heap[P]? =some (.cells #[.string (mkB L),.int .i64 p.pos,tv,iv,.int .i64 p.opn] 223 (0,0))
 ot:w.ownsRow B 255 4 tv p.toks.length (tcs p.toks)
 oi:w.ownsRow B 3 1 iv p.ins.length (ics p.ins.reverse)
 nt:tv.ownBlock≠some P
 ni:iv.ownBlock≠some P
 nn:∀ a,tv.ownBlock=some a→iv.ownBlock≠some a
theorem own_heap {w w':World}{base:Nat}{e:TypeId}{size:Nat}{v:Value}{n:Nat}{xs:List Value}(h:w.ownsRow base e size v n xs)(hh:∀ g,v.ownBlock=some g→w'.heap[g]? =w.heap[g]?):w'.ownsRow base e size v n xs:=by
 refine⟨h.1,?_⟩
 rcases h.2 with hn|⟨g,cap,cur,rfl,hb,hgg,rest⟩
 ·exact .inl hn
 ·exact .inr ⟨g,cap,cur,rfl,hb,(hh g rfl).trans hgg,rest⟩
section
variable {B P:Nat} {L:List UInt8} {tv iv:Value} {w:World} {p:Sp}
theorem TS.lt (h:TS B P L tv iv w p):P<w.heap.size:=(Array.getElem?_eq_some_iff.1 h.blk).1
theorem TS.c0 (h:TS B P L tv iv w p):w.cell? ⟨P,0,none⟩=some (.string (mkB L)):=by rw[Lib.cell_of_heap h.blk];rfl
theorem TS.c1 (h:TS B P L tv iv w p):w.cell? ⟨P,1,none⟩=some (.int .i64 p.pos):=by rw[Lib.cell_of_heap h.blk];rfl
theorem TS.c2 (h:TS B P L tv iv w p):w.cell? ⟨P,2,none⟩=some tv:=by rw[Lib.cell_of_heap h.blk];rfl
theorem TS.c3 (h:TS B P L tv iv w p):w.cell? ⟨P,3,none⟩=some iv:=by rw[Lib.cell_of_heap h.blk];rfl
theorem TS.c4 (h:TS B P L tv iv w p):w.cell? ⟨P,4,none⟩=some (.int .i64 p.opn):=by rw[Lib.cell_of_heap h.blk];rfl
theorem TS.fz (h:TS B P L tv iv w p)(i:Nat):w.frozen? ⟨P,i,none⟩=false:=Lib.frozen_of_heap h.blk i
theorem TS.keep (h:TS B P L tv iv w p){w':World}(hh:∀ g,g<w.heap.size→B≤g→w'.heap[g]? =w.heap[g]?):TS B P L tv iv w' p:=
 ⟨h.hB,(hh P h.lt h.hB).trans h.blk,own_heap h.ot fun g hg=>hh g (h.ot.lt g hg).2 (h.ot.lt g hg).1,own_heap h.oi fun g hg=>hh g (h.oi.lt g hg).2 (h.oi.lt g hg).1,h.nt,h.ni,h.nn⟩
theorem TS.drewN (h:TS B P L tv iv w p)(n:Nat):TS B P L tv iv (w.drewN n) p:=h.keep fun _ _ _=>rfl
theorem TS.up (h:TS B P L tv iv w p){w':World}(hb:Below w.heap.size w w'):TS B P L tv iv w' p:=h.keep fun g hg _=>hb.block g hg
theorem TS.set (h:TS B P L tv iv w p)(i:Nat)(v:Value){tv' iv':Value}{q:Sp}(hc:(#[.string (mkB L),.int .i64 p.pos,tv,iv,.int .i64 p.opn]:Array Value).setIfInBounds i v=#[.string (mkB L),.int .i64 q.pos,tv',iv',.int .i64 q.opn])
  (ht:w.ownsRow B 255 4 tv' q.toks.length (tcs q.toks)) (hi:w.ownsRow B 3 1 iv' q.ins.length (ics q.ins.reverse)) (nt:tv'.ownBlock≠some P) (ni:iv'.ownBlock≠some P) (nn:∀ a,tv'.ownBlock=some a→iv'.ownBlock≠some a)
  {w':World} (hw:∀ g:Nat,w'.heap[g]? =(w.setCell ⟨P,i,none⟩ v).heap[g]?):TS B P L tv' iv' w' q:=by
 have k:∀ g:Nat,g≠P→w'.heap[g]? =w.heap[g]? :=fun g hg=>(hw g).trans (Below.heap_setCell w ⟨P,i,none⟩ v g hg)
 refine⟨h.hB,?_,own_heap ht fun g hg=>k g fun e=>nt (by rw[hg,e]),own_heap hi fun g hg=>k g fun e=>ni (by rw[hg,e]),nt,ni,nn⟩
 rw[hw P,Go.Joins.block_setCell h.blk,hc]
theorem TS.setPos (h:TS B P L tv iv w p)(x:Nat){w':World}(hw:∀ g:Nat,w'.heap[g]? =(w.setCell ⟨P,1,none⟩ (.int .i64 x)).heap[g]?):TS B P L tv iv w' {p with pos:=x}:=
 h.set 1 (.int .i64 x) (q:={p with pos:=x}) rfl h.ot h.oi h.nt h.ni h.nn hw
theorem TS.setOpn (h:TS B P L tv iv w p)(x:Nat){w':World}(hw:∀ g:Nat,w'.heap[g]? =(w.setCell ⟨P,4,none⟩ (.int .i64 x)).heap[g]?):TS B P L tv iv w' {p with opn:=x}:=
 h.set 4 (.int .i64 x) (q:={p with opn:=x}) rfl h.ot h.oi h.nt h.ni h.nn hw
end
theorem at_drop (L:List UInt8)(k:Nat):(L.drop k).getD 0 0=L.getD k 0:=by
 rw[List.getD_eq_getElem?_getD,List.getD_eq_getElem?_getD,List.getElem?_drop,Nat.add_zero]
theorem ended_any {B P:Nat}{L:List UInt8}{tv iv:Value}{w:World}{p:Sp}(h:TS B P L tv iv w p):
  Calls Tryz.prog 212 #[.pointer (some ⟨P,0,none⟩)] w fun e w'=>e= .returned (.bool (decide (p.pos=L.length)))∧∃ n,w'=w.drewN n:=by
 have c0:=h.c0
 have c1:=h.c1
 have hsz:=mk_size L
 have hq:((p.pos:Int)==(L.length:Int))=decide (p.pos=L.length):=by rw[Bool.eq_iff_iff];simp;omega
 generalize decide (p.pos=L.length)=b at *
 clear h
 go_enter Tryz.func212,Tryz.ntmps212
 go_wp2
 go_region
 all_goals go_wp2
 all_goals
  go_ret
  exact⟨rfl,1,rfl⟩
theorem rest_any {B P:Nat}{L:List UInt8}{tv iv:Value}{w:World}{p:Sp}(h:TS B P L tv iv w p)(hp:p.pos≤L.length):
  Calls Tryz.prog 270 #[.pointer (some ⟨P,0,none⟩)] w fun e w'=>e= .returned (.string (mkB (L.drop p.pos)))∧∃ n,w'=w.drewN n:=by
 have c0:=h.c0
 have c1:=h.c1
 have hsl:=sl_back L p.pos _ rfl hp
 have hsz:=mk_size L
 have hpi:(p.pos:Int)≤(L.length:Int):=by omega
 generalize mkB (L.drop p.pos)=r at *
 clear h
 go_enter Tryz.func270,Tryz.ntmps270
 go_wp2
 go_region
 all_goals go_wp2
 all_goals
  go_ret
  exact⟨rfl,1,rfl⟩
theorem sees_any {B P:Nat}{L:List UInt8}{tv iv:Value}{w:World}{p:Sp}(h:TS B P L tv iv w p)(hp:p.pos≤L.length)(c:Nat)(hc:c≠0):
  Calls Tryz.prog 238 #[.pointer (some ⟨P,0,none⟩),.int .u8 c] w fun e w'=>e= .returned (.bool (decide ((L.getD p.pos 0).toNat=c)))∧∃ n,w'=w.drewN n:=by
 have HE:Hid (∀ n,Calls Tryz.prog 212 #[.pointer (some ⟨P,0,none⟩)] (w.drewN n) fun e w'=>e= .returned (.bool (decide (p.pos=L.length)))∧∃ m,w'=(w.drewN n).drewN m):=fun n=>ended_any (h.drewN n)
 have c0:=h.c0
 have c1:=h.c1
 have hsz:=mk_size L
 by_cases he:p.pos=L.length
 ·have hb:decide ((L.getD p.pos 0).toNat=c)=false:=by
   rw[List.getD_eq_getElem?_getD,List.getElem?_eq_none (by omega)]
   simp
   exact fun e=>hc e.symm
  rw[hb]
  rw[show decide (p.pos=L.length)=true from by simpa using he]at HE
  clear h he hb
  go_enter Tryz.func238,Tryz.ntmps238
  go_wp2
  go_quiet ((go_at_call 212;exact Calls.quiet_of (HE.out _)))
  go_wp2
  go_ret
  exact⟨rfl,nq,rfl⟩
 ·rw[show decide (p.pos=L.length)=false from by simpa using he]at HE
  have hlt:p.pos<L.length:=by omega
  have hpi:(p.pos:Int)<(L.length:Int):=by omega
  have hs0:p.pos<(mkB L).size:=by rw[hsz];exact hlt
  have hg:=mk_get L p.pos hs0
  have hq:=c_eq (L.getD p.pos 0) c
  generalize decide ((L.getD p.pos 0).toNat=c)=b at *
  generalize L.getD p.pos 0=x at *
  generalize p.pos=k at *
  clear h he
  go_enter Tryz.func238,Tryz.ntmps238
  go_wp2
  go_quiet ((go_at_call 212;exact Calls.quiet_of (HE.out _)))
  go_wp2
  go_ret
  exact⟨rfl,nq,rfl⟩
theorem Sp.top_at (p:Sp)(h:0<p.ins.length):(ics p.ins.reverse)[p.ins.length-1]? =some (.int .i64 (p.top:Nat)):=by
 match hp:p.ins,h with
 |a::r,_=>
  have:p.top=a:=by unfold Sp.top;rw[hp];rfl
  rw[this]
  simp[ics]
theorem in_any {B P:Nat}{L:List UInt8}{tv iv:Value}{w:World}{p:Sp}(h:TS B P L tv iv w p)(h0:0<p.ins.length)(h1:p.ins.length≤1000000):
  Calls Tryz.prog 241 #[.pointer (some ⟨P,0,none⟩)] w fun e w'=>e= .returned (.int .i64 p.top)∧∃ n,w'=w.drewN n:=by
 have c3:=h.c3
 obtain⟨g,cap,hv,hg1,hg2⟩:=h.oi.form h0
 subst hv
 have cx:w.cell? ⟨g,p.ins.length-1,none⟩=some (.int .i64 (p.top:Nat)):=(h.oi.cellAt (p.ins.length-1) (by omega)).trans (p.top_at h0)
 generalize p.top=x at *
 generalize p.ins.length=n at *
 obtain⟨m,rfl⟩:∃ m,n=m+1:=⟨n-1,by omega⟩
 rw[Nat.add_sub_cancel]at cx
 have j0:(((m+1:Nat):Int)-1)=(m:Int):=by omega
 have j1:IntKind.i64.wrap (((m+1:Nat):Int)-1)=(m:Int):=by rw[IntKind.wrap_i64];omega
 have j2:(0:Int)≤(m:Int):=by omega
 have j3:(m:Int)<((m+1:Nat):Int):=by omega
 clear h
 go_enter Tryz.func241,Tryz.ntmps241
 go_wp2
 go_region
 all_goals go_wp2
 all_goals
  go_ret
  exact⟨rfl,1,rfl⟩
abbrev PF (k:Int)(x:Nat):Ending:= .panicked [{v:= .iface 110 (.agg #[.int .i64 k,.int .i64 x]),recovered:=false}]
theorem giveUp_any {B P:Nat}{L:List UInt8}{tv iv:Value}{w:World}{p:Sp}(h:TS B P L tv iv w p)(k:Int):
  Calls Tryz.prog 242 #[.pointer (some ⟨P,0,none⟩),.int .i64 k] w fun e w'=>e=PF k p.pos∧w'=w:=by
 have c1:=h.c1
 generalize p.pos=x at *
 clear h
 go_enter Tryz.func242,Tryz.ntmps242
 go_wp2
 exact⟨rfl,rfl,rfl⟩
theorem infT:(Tryz.prog.info? 255).map (fun i=>(i.zero,i.size,i.bytes))=some (some (.agg #[.int .i64 0,.string ⟨#[]⟩,.int .i64 0,.int .i64 0]),4,40):=by kernel_rfl
theorem infI:(Tryz.prog.info? 3).map (fun i=>(i.zero,i.size,i.bytes))=some (some (.int .i64 0),1,8):=by kernel_rfl
theorem info_p {i:Option TypeInfo}{z:Value}{s b:Nat}(h:i.map (fun i=>(i.zero,i.size,i.bytes))=some (some z,s,b)):∃ i0,i=some i0∧i0.zero=some z∧i0.size=s∧i0.bytes=b:=by
 match i,h with
 |some i0,h=>
  simp at h
  exact⟨i0,rfl,h.1,h.2.1,h.2.2⟩
theorem al_at (W:World)(b:Nat)(cs:Array Value)(ty:TypeId)(k:Nat)(v:Value)(hb:b=W.heap.size)(hv:cs[k]? =some v):(W.alloc (.cells cs ty)).cell? ⟨b,k,none⟩=some v:=by
 subst hb
 rw[Lib.cell_of_heap (heap_alloc_new W _)]
 exact hv
theorem add0 (g j:Nat):(⟨g,0,none⟩:Addr).add j=⟨g,j,none⟩:=by
 unfold Addr.add
 split<;>simp_all
theorem new_tok (W:World)(t:Tk):∀ (j:Nat) (u:Value),(tc t)[j]? =some u→(W.alloc (.cells #[.int .i64 t.kind,.string (mkB t.text),.int .i64 t.num,.int .i64 t.pos] 255)).cell? ((⟨W.heap.size,0,none⟩:Addr).add j)=some u:=by
 intro j u hj
 rw[add0]
 have hj4:j<4:=by
  have:=(List.getElem?_eq_some_iff.1 hj).1
  exact this
 refine al_at W _ _ _ j u rfl ?_
 match j,hj4,hj with
 |0,_,hj=>exact hj
 |1,_,hj=>exact hj
 |2,_,hj=>exact hj
 |3,_,hj=>exact hj
theorem tc_one (t:Tk):∀ u∈tc t,u.oneCell'=true:=by
 intro u hu
 simp[tc]at hu
 rcases hu with rfl|rfl|rfl|rfl<;>rfl
theorem TS.put {B P:Nat}{L:List UInt8}{tv iv:Value}{w:World}{p:Sp}(h:TS B P L tv iv w p)(t:Tk){W w1 w':World}(hW:∀ g:Nat,g<w.heap.size→W.heap[g]? =w.heap[g]?)(hWs:w.heap.size<W.heap.size){g1 cap1:Nat}
  (hown:w1.ownsRow B 255 4 (.slice (some ⟨g1,0,none⟩) (p.toks.length+1) cap1) (p.toks.length+1) (tcs p.toks++tc t)) (hgrow:W.grownBy w1 tv.ownBlock) (hat:tv.ownBlock=some g1∨g1=W.heap.size)
  (hw:∀ g:Nat,w'.heap[g]? =(w1.setCell ⟨P,2,none⟩ (.slice (some ⟨g1,0,none⟩) (p.toks.length+1) cap1)).heap[g]?):TS B P L (.slice (some ⟨g1,0,none⟩) (p.toks.length+1) cap1) iv w' {p with toks:=p.toks++[t]}:=by
 have hP:=h.lt
 have hgP:g1≠P:=by
  rcases hat with e|e
  ·exact fun e2=>h.nt (by rw[e,e2])
  ·omega
 have hgi:iv.ownBlock≠some g1:=by
  rcases hat with e|e
  ·exact h.nn g1 e
  ·intro e2
   have:=(h.oi.lt g1 e2).2
   omega
 have hb:w1.heap[P]? =w.heap[P]? :=(hgrow.block P (by omega) (fun e=>h.nt e.symm)).trans (hW P hP)
 have hoi:w1.ownsRow B 3 1 iv p.ins.length (ics p.ins.reverse):=own_heap h.oi fun g hg=>(hgrow.block g (by have:=(h.oi.lt g hg).2;omega) (fun e=>h.nn g e.symm hg)).trans (hW g (h.oi.lt g hg).2)
 have k:∀ g:Nat,g≠P→w'.heap[g]? =w1.heap[g]? :=fun g hg=>(hw g).trans (Below.heap_setCell w1 ⟨P,2,none⟩ _ g hg)
 have e4:(p.toks++[t]).length=p.toks.length+1:=by simp
 refine⟨h.hB,?_,?_,own_heap hoi fun g hg=>k g fun e=>h.ni (by rw[hg,e]),?_,h.ni,?_⟩
 ·rw[hw P,Go.Joins.block_setCell (hb.trans h.blk)]
  rfl
 ·show w'.ownsRow _ _ _ _ (p.toks++[t]).length (tcs (p.toks++[t]))
  rw[e4,tcs_snoc]
  exact own_heap hown fun g hg=>k g (by simp[Value.ownBlock]at hg;subst hg;exact hgP)
 ·simp[Value.ownBlock]
  exact hgP
 ·intro a ha
  simp[Value.ownBlock]at ha
  subst ha
  exact hgi
end Go.Proofs.YthfgpkdbclogpaaGreatDoor
