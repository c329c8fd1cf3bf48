/- 48. -/
import Derived.Test.YthfgpkdbclogpaaGreatDoorTx47
set_option maxHeartbeats 40000000
set_option maxRecDepth 100000
namespace Go.Proofs.YthfgpkdbclogpaaGreatDoor
open Go.RowKit Go.Shelf
abbrev flO (path text:ByteArray):Obj:= .cells (flC path text) 35
theorem flO_at (path text:ByteArray)(w:World):OneF w.heap.size path text (w.alloc (flO path text)):=by
 refine⟨?_,?_,?_⟩<;>(rw[Lib.cell_of_heap (heap_alloc_new w (flO path text))];rfl)
theorem comes_ok {s t:ByteArray}{w:World}(HR:Calls Tryz.prog 8 #[.slice (some ⟨w.heap.size,0,none⟩) 1 1,.string kMain,.int .i64 100000] (w.alloc (flO kMain s)) fun e w'=>∃ gb gc n,e= .returned (.tuple #[.slice none 0 0,.slice (some ⟨gb,0,none⟩) 3 gc,.int .i64 n,.int .i64 0])∧w'.cell? ⟨gb,0,none⟩=some (.string (mkB [97]))∧w'.cell? ⟨gb,2,none⟩=some (.string (mkB [98]))∧w'.cell? ⟨gb,4,none⟩=some (.string (mkB [120]))∧w'.cell? ⟨gb,5,none⟩=some (.string t)∧Below (w.alloc (flO kMain s)).heap.size (w.alloc (flO kMain s)) w'):
  Calls Tryz.prog 7 #[.string s,.string ⟨#[120]⟩] w fun e w'=>e= .returned (.tuple #[.string t,.int .i64 0])∧Below w.heap.size w w':=by
 have hb:Below w.heap.size w (w.alloc (flO kMain s)):=(Below.refl _ w).alloc (Nat.le_refl _) _
 have HB:Hid (Below w.heap.size w (w.alloc (flO kMain s))):=hb
 clear hb
 go_enter Tryz.func7,Tryz.ntmps7
 go_wp2_with fail
 refine HR.mono ?_
 rintro e w1 ⟨gb,gc,n,rfl,c0,c2,c4,c5,hb1⟩
 have HB1:Hid (Below w.heap.size w w1):=HB.out.trans (hb1.mono HB.out.size)
 clear hb1 HB
 have x1:((mkB [97]).toList==[120])=false:=by decide +kernel
 have x2:((mkB [98]).toList==[120])=false:=by decide +kernel
 have x3:((mkB [120]).toList==[120])=true:=by decide +kernel
 clear HR
 generalize mkB [97]=ka at *
 generalize mkB [98]=kb at *
 generalize mkB [120]=kx at *
 go_wp2_with fail
 refine wp_loop_rounds 3 ?_
 simp only[Code.rounds]
 go_wp2
 refine bodyPost_ret (v:= .tuple #[.string t,.int .i64 0]) (by simp[results,Tryz.results7,go_sem]) rfl ⟨rfl,HB1.out⟩
theorem comes_no {s:ByteArray}{w:World}(HR:Calls Tryz.prog 8 #[.slice (some ⟨w.heap.size,0,none⟩) 1 1,.string kMain,.int .i64 100000] (w.alloc (flO kMain s)) fun e w'=>e= .returned (.tuple #[.slice none 0 0,.slice none 0 0,.int .i64 0,.int .i64 3])∧Below (w.alloc (flO kMain s)).heap.size (w.alloc (flO kMain s)) w'):
  Calls Tryz.prog 7 #[.string s,.string ⟨#[120]⟩] w fun e w'=>e= .returned (.tuple #[.string ⟨#[]⟩,.int .i64 3])∧Below w.heap.size w w':=by
 have hb:Below w.heap.size w (w.alloc (flO kMain s)):=(Below.refl _ w).alloc (Nat.le_refl _) _
 have HB:Hid (Below w.heap.size w (w.alloc (flO kMain s))):=hb
 clear hb
 go_enter Tryz.func7,Tryz.ntmps7
 go_wp2_with fail
 refine HR.mono ?_
 rintro e w1 ⟨rfl,hb1⟩
 have HB1:Hid (Below w.heap.size w w1):=HB.out.trans (hb1.mono HB.out.size)
 clear hb1 HB HR
 go_wp2
 refine wp_loop_rounds 1 ?_
 simp only[Code.rounds]
 go_wp2
 refine bodyPost_ret (v:= .tuple #[.string ⟨#[]⟩,.int .i64 3]) (by simp[results,Tryz.results7,go_sem]) rfl ⟨rfl,HB1.out⟩
theorem ebegun_any (w:World)(hr:ErrR w)(hT:TabE w)(hm:MaxIs w):Calls Tryz.prog 4 #[] w fun e w'=>e= .returned (.bool true)∧Below w.heap.size w w':=by
 have hb:Below w.heap.size w (w.alloc (flO kA (mkB begL))):=(Below.refl _ w).alloc (Nat.le_refl _) _
 have HR:=run_beg (cap:=1) (flO_at kA (mkB begL) w) (hr.up hb) (hT.of_block (hb.block _ hT.lt)) (hm.up hb)
 have HB:Hid (Below w.heap.size w (w.alloc (flO kA (mkB begL)))):=hb
 have x1:(bT==(⟨#[116]⟩:ByteArray))=true:=by decide +kernel
 clear hb hr hT hm
 go_enter Tryz.func4,Tryz.ntmps4
 go_wp2_with fail
 refine HR.mono ?_
 rintro e w1 ⟨tb,tc,gb,gc,rfl,c0,c1,hb1⟩
 have HB1:Hid (Below w.heap.size w w1):=HB.out.trans (hb1.mono HB.out.size)
 clear hb1 HR HB
 go_wp2
 go_ret
 exact⟨rfl,HB1.out⟩
theorem c10 {g:Nat}{W:World}(h:W.cell? ⟨g,0,none⟩=some (.int .u8 10)):(convert 28 9 (.slice (some ⟨g,0,none⟩) 1 1)).run Tryz.prog W= .ok (.string ⟨#[10]⟩) W:=
 run_convert_bytes_back W 28 9 5 ⟨g,0,none⟩ 1 [10] Tryz.underlying28 Tryz.underlying5 Tryz.underlying9 fun j hj=>by
  have:j=0:=by simp at hj;omega
  subst this
  exact h
abbrev bO:Obj:= .cells #[.int .u8 10] 5
theorem lxB_setI (c:UInt8)(neg:Bool)(n:Nat):lxB (setI c neg n)=[c,32,61,32]++((bif neg then[45]else[])++Lib.decDigits n):=by
 cases neg
 ·show c::32::61::32::(Lib.decDigits n++([]++[]))=_
  simp
 ·show c::32::61::32::45::(Lib.decDigits n++([]++[]))=_
  simp
abbrev kX:List UInt8:=[120,32,61,32,40,97,32,47,47,32,98,41,32,42,32,98,32,43,32,97,32,37,32,98,32,61,61,32,97,32,97,110,100,32,40,48,32,60,61,32,97,32,37,32,98,32,97,110,100,32,97,32,37,32,98,32,60,32,98,32,111,114,32,97,32,37,32,98,32,60,61,32,48,32,97,110,100,32,98,32,60,32,97,32,37,32,98,41]
theorem lxB_lxX:lxB lxX=kX:=by
 unfold lxX kI
 rw[dec0]
 decide +kernel
theorem lnB_div (na:Bool)(a:Nat)(nb:Bool)(b:Nat):lnB (divL na a nb b)=[97,32,61,32]++((bif na then[45]else[])++Lib.decDigits a)++[10]++[98,32,61,32]++((bif nb then[45]else[])++Lib.decDigits b)++[10]++kX:=by
 show lxB (setI 97 na a)++10::(lxB (setI 98 nb b)++10::lxB lxX)=_
 rw[lxB_setI,lxB_setI,lxB_lxX]
 simp only[List.append_assoc,List.cons_append,List.nil_append]
theorem put_src (na:Bool){a:Nat}(ha:a≤1000000)(nb:Bool){b:Nat}(hb:b≤1000000):∃ s1 s2 s3 s4 s5:ByteArray,(∀ W,(Op.stringOp .add ⟨#[97,32,61,32]⟩ (intB na a)).run Tryz.prog W= .ok (.string s1) W)∧(∀ W,(Op.stringOp .add s1 ⟨#[10]⟩).run Tryz.prog W= .ok (.string s2) W)∧(∀ W,(Op.stringOp .add s2 ⟨#[98,32,61,32]⟩).run Tryz.prog W= .ok (.string s3) W)∧(∀ W,(Op.stringOp .add s3 (intB nb b)).run Tryz.prog W= .ok (.string s4) W)∧(∀ W,(Op.stringOp .add s4 ⟨#[10]⟩).run Tryz.prog W= .ok (.string s5) W)∧∀ W,(Op.stringOp .add s5 ⟨#[120,32,61,32,40,97,32,47,47,32,98,41,32,42,32,98,32,43,32,97,32,37,32,98,32,61,61,32,97,32,97,110,100,32,40,48,32,60,61,32,97,32,37,32,98,32,97,110,100,32,97,32,37,32,98,32,60,32,98,32,111,114,32,97,32,37,32,98,32,60,61,32,48,32,97,110,100,32,98,32,60,32,97,32,37,32,98,41]⟩).run Tryz.prog W= .ok (.string (mkB (lnB (divL na a nb b)))) W:=by
 obtain⟨X,hX⟩:∃ X,X=(bif na then[45]else[])++Lib.decDigits a:=⟨_,rfl⟩
 obtain⟨Y,hY⟩:∃ Y,Y=(bif nb then[45]else[])++Lib.decDigits b:=⟨_,rfl⟩
 have lX:X.length≤8:=by
  have:=dec_len 6 a (by omega)
  rw[hX,List.length_append]
  cases na<;>simp<;>omega
 have lY:Y.length≤8:=by
  have:=dec_len 6 b (by omega)
  rw[hY,List.length_append]
  cases nb<;>simp<;>omega
 have eX:intB na a=mkB X:=by rw[hX];rfl
 have eY:intB nb b=mkB Y:=by rw[hY];rfl
 have go:∀ (p q:List UInt8),p.length≤1000→q.length≤1000→∀ W,(Op.stringOp .add (mkB p) (mkB q)).run Tryz.prog W= .ok (.string (mkB (p++q))) W:=fun p q h1 h2 W=>catV _ _ _ (by rw[mk_data,mk_data,mk_data]) (by rw[mk_size,mk_size];omega) W
 rw[eX,eY,lnB_div,←hX,←hY]
 have kl:kX.length≤200:=by decide
 refine⟨mkB ([97,32,61,32]++X),mkB ([97,32,61,32]++X++[10]),mkB ([97,32,61,32]++X++[10]++[98,32,61,32]),mkB ([97,32,61,32]++X++[10]++[98,32,61,32]++Y),mkB ([97,32,61,32]++X++[10]++[98,32,61,32]++Y++[10]),go [97,32,61,32] X (by decide) (by omega),go _ [10] ?_ (by decide),go _ [98,32,61,32] ?_ (by decide),go _ Y ?_ (by omega),go _ [10] ?_ (by decide),go _ kX ?_ (by omega)⟩<;>simp only[List.length_append,List.length_cons,List.length_nil]<;>omega
theorem div_walk (a b:Int)(w:World)(ha1:-9223372036854775808≤a)(ha2:a≤9223372036854775807)(hb1:-9223372036854775808≤b)(hb2:b≤9223372036854775807)(hr:ErrR w)(hT:TabE w)(hm:MaxIs w):
  Calls Tryz.prog 3 #[.int .i64 a,.int .i64 b] w fun e w'=>e= .returned (.bool true)∧Below w.heap.size w w':=by
 have HB:=ebegun_any w hr hT hm
 have lA:=chs_lt a (m:=1000000) (by decide)
 have lB:=chs_lt b (m:=2000) (by decide)
 have HA:=fun W=>choose_any a 1000000 W ha1 ha2 (by decide)
 have HBB:=fun W=>choose_any b 2000 W hb1 hb2 (by decide)
 obtain⟨x,hx⟩:∃ x:Int,x=(chs a 1000000:Int)-500000:=⟨_,rfl⟩
 obtain⟨y,hy⟩:∃ y:Int,y=(chs b 2000:Int)-1000:=⟨_,rfl⟩
 obtain⟨na,n,hn1,hn2,hn3,HX⟩:=IntText_any x (by omega) (by omega)
 obtain⟨nb,m,hm1,hm2,hm3,HY⟩:=IntText_any y (by omega) (by omega)
 have wx:IntKind.i64.wrap ((chs a 1000000:Int)-500000)=x:=by rw[IntKind.wrap_i64];omega
 have wy:IntKind.i64.wrap ((chs b 2000:Int)-1000)=y:=by rw[IntKind.wrap_i64];omega
 obtain⟨s1,s2,s3,s4,s5,p1,p2,p3,p4,p5,p6⟩:=put_src na (by omega:n≤1000000) nb (by omega:m≤1000000)
 have hS:∃ (T:ByteArray) (k:Int),((y=0∧k=3)∨(y≠0∧k=0∧T=trS true))∧∀ W,Below w.heap.size w W→Calls Tryz.prog 7 #[.string (mkB (lnB (divL na n nb m))),.string ⟨#[120]⟩] W fun e w'=>e= .returned (.tuple #[.string T,.int .i64 k])∧Below W.heap.size W w':=by
  by_cases h0:y=0
  ·refine⟨⟨#[]⟩,3,.inl ⟨h0,rfl⟩,fun W hW=>comes_no ?_⟩
   have hbW:Below w.heap.size w (W.alloc (flO kMain (mkB (lnB (divL na n nb m))))):=hW.trans (((Below.refl _ W).alloc (Nat.le_refl _) _).mono hW.size)
   obtain rfl:m=0:=hm3.2 h0
   exact run_div0 na (by omega) nb (flO_at _ _ W) (hr.up hbW) (hm.up hbW)
  ·refine⟨trS true,0,.inr ⟨h0,rfl,rfl⟩,fun W hW=>comes_ok ?_⟩
   have hbW:Below w.heap.size w (W.alloc (flO kMain (mkB (lnB (divL na n nb m))))):=hW.trans (((Below.refl _ W).alloc (Nat.le_refl _) _).mono hW.size)
   exact run_div na (by omega) nb (by omega) (fun e=>h0 (hm3.1 e)) (flO_at _ _ W) (hr.up hbW) (hT.of_block (hbW.block _ hT.lt)) (hm.up hbW)
 obtain⟨T,k,hk,HC⟩:=hS
 have HK:Hid ((y=0∧k=3)∨(y≠0∧k=0∧T=trS true)):=hk
 have HCC:Hid (∀ W,Below w.heap.size w W→Calls Tryz.prog 7 #[.string (mkB (lnB (divL na n nb m))),.string ⟨#[120]⟩] W fun e w'=>e= .returned (.tuple #[.string T,.int .i64 k])∧Below W.heap.size W w'):=HC
 clear hr hT hm hk HC hn1 hn2 hn3 hm1 hm2 hm3 hx hy lA lB ha1 ha2 hb1 hb2
 generalize intB na n=X at *
 generalize intB nb m=Y at *
 generalize mkB (lnB (divL na n nb m))=S at *
 generalize(chs a 1000000:Int)=A at *
 generalize(chs b 2000:Int)=B at *
 go_enter Tryz.func3,Tryz.ntmps3
 go_wp2_with fail
 refine HB.mono ?_
 rintro e w1 ⟨rfl,hb1⟩
 go_wp2_with fail
 refine(HA w1).mono ?_
 rintro e V1 ⟨rfl,e1⟩
 subst e1
 go_wp2_with fail
 refine(HBB _).mono ?_
 rintro e V2 ⟨rfl,e2⟩
 subst e2
 go_wp2_with fail
 refine(HX _).mono ?_
 rintro e w2 ⟨rfl,hb2⟩
 have hq2:Below w.heap.size w w2:=hb1.trans (hb2.mono hb1.size)
 clear hb1 hb2
 go_wp2_with fail
 refine(HY _).mono ?_
 rintro e w3 ⟨rfl,hb3⟩
 have hq3:Below w.heap.size w w3:=hq2.trans (hb3.mono hq2.size)
 have hv1:=c10 (g:=w3.heap.size) (W:=w3.alloc bO) (by rw[Lib.cell_of_heap (heap_alloc_new w3 bO)];rfl)
 have z1:(w3.alloc bO).heap.size=w3.heap.size+1:=World.size_alloc _ _
 have hv2:=c10 (g:=w3.heap.size+1) (W:=(w3.alloc bO).alloc bO) (by rw[←z1,Lib.cell_of_heap (heap_alloc_new (w3.alloc bO) bO)];rfl)
 have hq5:Below w.heap.size w ((w3.alloc bO).alloc bO):=hq3.trans ((((Below.refl _ w3).alloc (Nat.le_refl _) _).alloc (by omega) _).mono hq3.size)
 have HC:=HCC.out _ hq5
 have HQ5:Hid (Below w.heap.size w ((w3.alloc bO).alloc bO)):=hq5
 have h0:(y==0)=true↔y=0:=by simp
 clear hq2 hb3 hq3 z1 hq5 HX HY HA HBB HCC HB
 go_wp2_with fail
 refine HC.mono ?_
 rintro e w6 ⟨rfl,hb6⟩
 have HQ6:Hid (Below w.heap.size w w6):=HQ5.out.trans (hb6.mono HQ5.out.size)
 clear hb6 HC HQ5 h0 p1 p2 p3 p4 p5 p6 hv1 hv2 wx wy
 rcases HK.out with⟨rfl,rfl⟩|⟨hy0,rfl,rfl⟩
 ·clear HK
  go_wp2
  go_ret
  exact⟨rfl,HQ6.out⟩
 ·clear HK
  have hyb:(y==0)=false:=by simpa using hy0
  have ht:trS true=⟨#[84,114,117,101]⟩:=rfl
  rw[ht]
  go_wp2
  go_ret
  exact⟨rfl,HQ6.out⟩
end Go.Proofs.YthfgpkdbclogpaaGreatDoor
